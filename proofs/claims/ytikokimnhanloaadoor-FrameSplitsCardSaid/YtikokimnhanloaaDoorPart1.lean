/-
  append of one slice of bytes to a slice of slices of bytes of the call's own, whose slices may lie in younger blocks than it does itself.
-/
import Derived.Test.YtikokimnhanloaaDoorParts
namespace Go.Proofs.YtikokimnhanloaaDoor
open Go.ChangeShapes Go.WideShapes Go.ChangeAt Go.RowKit
set_option linter.unusedVariables false

/-- v's row is the call's own from base on and holds slices that read as ks, none of them in the row's own block. -/
def RowP (base : Nat) (w : World) (v : Value) (ks : List (List UInt8)) : Prop :=
  ∃ xs : List Value, w.ownsRow base 22 1 v ks.length xs ∧ ∀ i, i < ks.length → ∃ u, xs[i]? = some u ∧ Rd w.heap.size w u (ks.getD i []) ∧ (ks.getD i [] = [] ∨ v.ownBlock ≠ u.ownBlock)
theorem Rd.keep {w w' : World} {u : Value} {k : List UInt8} {row : Option Nat} (h : Rd w.heap.size w u k) (hg : w.grownBy w' row) (hn : k = [] ∨ row ≠ u.ownBlock) : Rd w'.heap.size w' u k := by
  rcases h with h | ⟨b, off, cap, rfl, h1, h2, h3, hc⟩
  · exact .inl h
  · rcases hn with rfl | hn
    · exact .inr ⟨b, off, cap, rfl, h1, h2, Nat.lt_of_lt_of_le h3 hg.size, fun i hi => by simp at hi⟩
    · refine .inr ⟨b, off, cap, rfl, h1, h2, Nat.lt_of_lt_of_le h3 hg.size, fun i hi => ?_⟩
      rw [World.cell?_of_block (show w'.heap[(⟨b, off + i, none⟩ : Addr).block]? = _ from hg.block b h3 (fun e => hn e.symm))]
      exact hc i hi
theorem Rd.blk {B : Nat} {w : World} {u : Value} {k : List UInt8} (h : Rd B w u k) : k = [] ∨ ∃ b, u.ownBlock = some b ∧ b < B := by
  rcases h with ⟨_, _, h⟩ | ⟨b, off, cap, rfl, h1, h2, h3, hc⟩
  · exact .inl h
  · exact .inr ⟨b, rfl, h3⟩
theorem RowP.nil (base : Nat) (w : World) : RowP base w (.slice none 0 0) [] := ⟨[], World.ownsRow_nil _ _ _ _, fun i hi => by simp at hi⟩
theorem RowP.later {base : Nat} {w w' : World} {v : Value} {ks : List (List UInt8)} (h : RowP base w v ks) (hb : Below w.heap.size w w') : RowP base w' v ks := by
  obtain ⟨xs, hown, hrd⟩ := h
  refine ⟨xs, ⟨hown.1, ?_⟩, fun i hi => ?_⟩
  · rcases hown.2 with h | ⟨g, cap, cur, hv, h0, hg, h⟩
    · exact .inl h
    · exact .inr ⟨g, cap, cur, hv, h0, (hb.block g (Array.getElem?_eq_some_iff.1 hg).1).trans hg, h⟩
  · obtain ⟨u, hu, hr, hn⟩ := hrd i hi
    exact ⟨u, hu, (hr.below hb (Nat.le_refl _)).mono hb.size, hn⟩
theorem RowP.lt {base : Nat} {w : World} {v : Value} {ks : List (List UInt8)} (h : RowP base w v ks) {b : Nat} (e : v.ownBlock = some b) : b < w.heap.size := by
  obtain ⟨xs, hown, _⟩ := h
  rcases hown.2 with ⟨h, _⟩ | ⟨g, cap, cur, hv, h0, hg, h⟩
  · rw [h] at e; cases e
  · rw [hv] at e; cases e; exact (Array.getElem?_eq_some_iff.1 hg).1
theorem RowP.form {base : Nat} {w : World} {v : Value} {ks : List (List UInt8)} (h : RowP base w v ks) : ∃ q c, v = .slice q ks.length c := by
  obtain ⟨xs, hown, _⟩ := h
  rcases hown.2 with ⟨h, hn⟩ | ⟨g, cap, cur, hv, _⟩
  · exact ⟨none, 0, by rw [hn]; exact h⟩
  · exact ⟨_, _, hv⟩
/-- A slice of the row. -/
theorem RowP.cell {base : Nat} {w : World} {q : Option Addr} {n c : Nat} {ks : List (List UInt8)} (h : RowP base w (.slice q n c) ks) (i : Nat) (hi : i < ks.length) :
    ∃ g u, q = some ⟨g, 0, none⟩ ∧ w.cell? ⟨g, i, none⟩ = some u ∧ Rd w.heap.size w u (ks.getD i []) := by
  obtain ⟨xs, hown, hrd⟩ := h
  obtain ⟨u, hu, hr, _⟩ := hrd i hi
  rcases hown.2 with ⟨h, hn⟩ | ⟨g, cap, cur, hv, h0, hg, h1, h2, h3, h4⟩
  · omega
  · cases hv
    refine ⟨g, u, rfl, ?_, hr⟩
    rw [cell_of_row w g i cur _ (0, 0) hg, ← hu, ← h4, List.getElem?_take, if_pos (by omega), Array.getElem?_toList]

theorem run_part1 {w : World} {base : Nat} {v : Value} {ks : List (List UInt8)} {ad : Addr} {c : Nat} {u : Value} {k : List UInt8} (hown : RowP base w v ks) (hc : w.cell? ad = some u) (hr : Rd w.heap.size w u k)
    (hn : k = [] ∨ v.ownBlock ≠ u.ownBlock) (hlen : (ks.length + 1) * 24 ≤ 140737488355328) (hbase : base ≤ w.heap.size) (ty : TypeId) :
    ∃ v' w', (Builtin.append_ #[37, 37] ty #[v, .slice (some ad) 1 c]).run Tryd.prog w = .ok v' w' ∧ RowP base w' v' (ks ++ [k]) ∧ Below base w w' ∧ w.grownBy w' v.ownBlock := by
  obtain ⟨i0, hi, hz0, hz1, hz2⟩ := info_parts Tryd.infoS
  obtain ⟨xs, hx, hrd⟩ := hown
  have hxl : xs.length = ks.length := by simpa using hx.1
  have hcells : ∀ j y, [u][j]? = some y → w.cell? (ad.add j) = some y := by
    intro j y hy
    cases j with
    | zero =>
      have e0 : ad.add 0 = ad := by cases ad; simp [Addr.add]
      rw [e0, hc]; simpa using hy
    | succ j => simp at hy
  have hone : ∀ y ∈ [u], y.oneCell' = true := by
    intro y hy
    obtain rfl := List.mem_singleton.1 hy
    obtain ⟨q, c, rfl, _, _⟩ := hr.form
    rfl
  -- what follows of a row and what has grown
  have fin : ∀ (v' : Value) (w' : World), w'.ownsRow base 22 1 v' (ks.length + 1) (xs ++ [u]) → w.grownBy w' v.ownBlock → (v'.ownBlock = v.ownBlock ∨ ∃ g, v'.ownBlock = some g ∧ w.heap.size ≤ g) →
      RowP base w' v' (ks ++ [k]) ∧ Below base w w' := by
    intro v' w' ho hg hv
    have hap : ∀ (z : Value) (m : List UInt8), Rd w.heap.size w z m → (m = [] ∨ v.ownBlock ≠ z.ownBlock) → Rd w'.heap.size w' z m ∧ (m = [] ∨ v'.ownBlock ≠ z.ownBlock) := by
      intro z m h1 h2
      refine ⟨h1.keep hg h2, ?_⟩
      rcases h2 with h2 | h2
      · exact .inl h2
      · rcases h1.blk with h1 | ⟨b, h1, h3⟩
        · exact .inl h1
        · refine .inr ?_
          rcases hv with hv | ⟨g, hv, hge⟩
          · rw [hv]; exact h2
          · rw [hv, h1]; intro e; injection e with e; omega
    refine ⟨⟨xs ++ [u], by rw [List.length_append]; exact ho, fun i hi' => ?_⟩, (Below.refl _ _).grown hg hbase (fun k hk => (hx.lt k hk).1)⟩
    rw [List.length_append] at hi'
    by_cases hik : i < ks.length
    · obtain ⟨z, h1, h2, h3⟩ := hrd i hik
      refine ⟨z, by rw [List.getElem?_append_left (by omega)]; exact h1, ?_⟩
      rw [show (ks ++ [k]).getD i [] = ks.getD i [] by simp [List.getD_eq_getElem?_getD, List.getElem?_append_left hik]]
      exact hap z _ h2 h3
    · obtain rfl : i = ks.length := by simp at hi'; omega
      refine ⟨u, by rw [List.getElem?_append_right (by omega), hxl]; simp, ?_⟩
      rw [show (ks ++ [k]).getD ks.length [] = k by simp [List.getD_eq_getElem?_getD]]
      exact hap u _ hr hn
  have fresh : ∀ (v' : Value) (w' : World) (n : Nat) (ys : List Value), w'.ownsRow w.heap.size 22 1 v' (n + 1) ys → ∃ g, v'.ownBlock = some g ∧ w.heap.size ≤ g := by
    intro v' w' n ys ho
    rcases ho.2 with ⟨_, h⟩ | ⟨g, cap, cur, h, hb, _⟩
    · omega
    · exact ⟨g, by rw [h]; rfl, hb⟩
  rcases hx.2 with ⟨hv, hn0⟩ | ⟨g, cap, cur, hv, hb, hg, h1, h2, h3, h4⟩
  · obtain rfl : ks = [] := List.eq_nil_of_length_eq_zero hn0
    obtain rfl : xs = [] := List.eq_nil_of_length_eq_zero (by simpa using hxl)
    subst hv
    obtain ⟨v', w', hrun, ho, hgr, _⟩ := run_append_own (P := Tryd.prog) w w.heap.size 37 ty 22 i0 (.slice none 0 0) 1 24 Tryd.underlying37 hi hz0 hz1 hz2 rfl (by decide) (.slice none 0 0) 0 [] (World.ownsRow_nil _ _ _ _) ad 1 c [u] (by simp) hcells hone (by unfold maxLen; simp at hlen; omega) (by simp at hlen ⊢) (Nat.le_refl _)
    obtain ⟨r1, r2⟩ := fin v' w' (Joins.ownsRow_le ho hbase) hgr (.inr (fresh v' w' 0 _ ho))
    exact ⟨v', w', hrun, r1, r2, hgr⟩
  · subst hv
    by_cases hroom : ks.length + 1 ≤ cap
    · obtain ⟨v', w', hrun, ho, hgr, _⟩ := run_append_own (P := Tryd.prog) w base 37 ty 22 i0 (.slice none 0 0) 1 24 Tryd.underlying37 hi hz0 hz1 hz2 rfl (by decide) _ ks.length xs hx ad 1 c [u] (by simp) hcells hone (by unfold maxLen; omega) hlen hbase
      have hsz : ks.length < cur.size := by omega
      have h := run_append_room_cells (P := Tryd.prog) w 37 ty 22 i0 Tryd.underlying37 hi g 0 ks.length cap ad 1 c [u] (by rw [hz1]; simp) hcells hone hroom
        (fun j hj => by
          obtain rfl : j = 0 := by simpa using hj
          rw [hz1, Nat.mul_one, Nat.zero_add, Nat.add_zero, cell_of_row w g _ cur _ (0, 0) hg, Array.getElem?_eq_getElem hsz]; rfl)
        (fun j hj => by
          obtain rfl : j = 0 := by simpa using hj
          rw [hz1, Nat.mul_one, Nat.zero_add, Nat.add_zero]
          unfold World.frozen?
          simp [hg])
      rw [Nat.zero_add] at h
      rw [h] at hrun
      obtain ⟨rfl, rfl⟩ : _ ∧ _ := by simpa using hrun
      obtain ⟨r1, r2⟩ := fin _ _ ho hgr (.inl rfl)
      exact ⟨_, _, h, r1, r2, hgr⟩
    · obtain ⟨v', w', hrun, ho, hgr⟩ := run_append_arg_grows (P := Tryd.prog) w 37 ty 22 i0 (.slice none 0 0) 1 24 Tryd.underlying37 hi hz0 hz1 hz2 rfl (by decide) ⟨g, 0, none⟩ ks.length cap xs (by simp [hxl])
        (fun j y hj => by
          have hjl : j < xs.length := (List.getElem?_eq_some_iff.1 hj).1
          rw [Addr.add_mid, Nat.zero_add, cell_of_row w g j cur _ (0, 0) hg, ← hj, ← h4, List.getElem?_take, if_pos (by omega), Array.getElem?_toList])
        ad 1 c [u] (by simp) hcells (by omega) (by unfold maxLen; omega) hlen
      have hgr' : w.grownBy w' (Value.slice (some ⟨g, 0, none⟩) ks.length cap).ownBlock := ⟨hgr.os, hgr.tape, hgr.output, hgr.size, fun k hk _ => hgr.block k hk (by simp)⟩
      obtain ⟨r1, r2⟩ := fin v' w' (Joins.ownsRow_le ho hbase) hgr' (.inr (fresh v' w' _ _ ho))
      exact ⟨v', w', hrun, r1, r2, hgr'⟩
section
variable {ops : Array Oper} {rest : List Oper} {o : Oper} {a : Act} {Q : Exit → Act → World → Prop} {w : World}
theorem app_part1 (hgd : o.guard = none) (s x : Operand) (ho : o.op = .call { callee := .builtin .append, args := #[s, x], argTypes := #[37, 37] })
    {base c : Nat} {v u : Value} {ad : Addr} {ks : List (List UInt8)} {k : List UInt8} (hs : a.eval s = v) (hown : RowP base w v ks) (hx : a.eval x = .slice (some ad) 1 c) (hc : w.cell? ad = some u) (hr : Rd w.heap.size w u k)
    (hn : k = [] ∨ v.ownBlock ≠ u.ownBlock) (hlen : (ks.length + 1) * 24 ≤ 140737488355328) (hbase : base ≤ w.heap.size)
    (h : ∀ v' w', RowP base w' v' (ks ++ [k]) → Below base w w' → w.grownBy w' v.ownBlock → wpList Tryd.prog ops Q rest (a.put o.dst v') w') : wpList Tryd.prog ops Q (o :: rest) a w := by
  refine wpList_plain hgd fun K hK' => ?_
  obtain ⟨v', w', hrun, r1, r2, r3⟩ := run_part1 (c := c) hown hc hr hn hlen hbase o.type
  obtain ⟨vx, hvx⟩ : ∃ vx, vx = Value.slice (some ad) 1 c := ⟨_, rfl⟩
  rw [← hvx] at hx hrun
  unfold Oper.wp
  simp [execOp, ho, resolve, invoke, builtin, hs, hx, hrun, Result.andThen]
  exact hK' _ _ (h v' w' r1 r2 r3)
end
end Go.Proofs.YtikokimnhanloaaDoor
