/-
  A slice of bytes of the call's own that need not begin at the head of its row: append, cut.
-/
import Derived.Test.YtnnebfcggdbgpaaGreatDoorApp
import Derived.Test.YtnnebfcggdbgpaaGreatDoorArr
import Derived.Deep.AppendSrc
import Derived.ArgAppend
import Derived.Lib.SlBuf
namespace Go.Proofs.YtnnebfcggdbgpaaGreatDoor
open Go.ChangeShapes Go.WideShapes Go.ChangeAt Go.RowKit
set_option linter.unusedVariables false

/-- v reads as l, in a block from base on whose cells up to v's capacity are there and may be written. -/
def Held (base : Nat) (w : World) (v : Value) (l : List UInt8) : Prop :=
  (v = .slice none 0 0 ∧ l = []) ∨
  ∃ g off cap, v = .slice (some ⟨g, off, none⟩) l.length cap ∧ l.length ≤ cap ∧ cap ≤ maxLen ∧ base ≤ g ∧ g < w.heap.size ∧ (∀ i, i < l.length → w.cell? ⟨g, off + i, none⟩ = some (bv (l.getD i 0))) ∧ ∀ i, i < cap → (w.cell? ⟨g, off + i, none⟩).isSome = true ∧ w.frozen? ⟨g, off + i, none⟩ = false
theorem Held.rd {base : Nat} {w : World} {v : Value} {l : List UInt8} (h : Held base w v l) : Rd w.heap.size w v l := by
  rcases h with ⟨rfl, rfl⟩ | ⟨g, off, cap, hv, h1, h2, h3, h4, h5, h6⟩
  · exact .inl ⟨none, rfl, rfl⟩
  · exact .inr ⟨g, off, cap, hv, h1, h2, h4, h5⟩
theorem Held.later {base : Nat} {w w' : World} {v : Value} {l : List UInt8} (h : Held base w v l) (hb : Below w.heap.size w w') : Held base w' v l := by
  rcases h with h | ⟨g, off, cap, hv, h1, h2, h3, h4, h5, h6⟩
  · exact .inl h
  · exact .inr ⟨g, off, cap, hv, h1, h2, h3, Nat.lt_of_lt_of_le h4 hb.size, fun i hi => (hb.cell (p := ⟨g, off + i, none⟩) h4).trans (h5 i hi), fun i hi => by
      rw [hb.cell (p := ⟨g, off + i, none⟩) h4, hb.frozen (p := ⟨g, off + i, none⟩) h4]; exact h6 i hi⟩
theorem Held.lt {base : Nat} {w : World} {v : Value} {l : List UInt8} (h : Held base w v l) : ∀ a n c, v = .slice (some a) n c → a.block < w.heap.size := by
  intro a n c hv
  rcases h with ⟨h, _⟩ | ⟨g, off, cap, h, h1, h2, h3, h4, _⟩
  · rw [h] at hv; cases hv
  · rw [h] at hv; cases hv; exact h4
theorem Held.under {base top : Nat} {w w' : World} {v : Value} {l : List UInt8} (h : Held base w v l) (ht : ∀ a n c, v = .slice (some a) n c → a.block < top) (hb : Below top w w') : Held base w' v l := by
  rcases h with h | ⟨g, off, cap, hv, h1, h2, h3, h4, h5, h6⟩
  · exact .inl h
  · have hg : g < top := ht ⟨g, off, none⟩ _ _ hv
    exact .inr ⟨g, off, cap, hv, h1, h2, h3, Nat.lt_of_lt_of_le h4 hb.size, fun i hi => (hb.cell (p := ⟨g, off + i, none⟩) hg).trans (h5 i hi), fun i hi => by
      rw [hb.cell (p := ⟨g, off + i, none⟩) hg, hb.frozen (p := ⟨g, off + i, none⟩) hg]; exact h6 i hi⟩
theorem Held.row {base : Nat} {w : World} {v : Value} {l : List UInt8} (h : Held base w v l) {k : Nat} (hk : k < base) (c : Array Value) : Held base (w.setRow k c) v l := by
  rcases h with h | ⟨g, off, cap, hv, h1, h2, h3, h4, h5, h6⟩
  · exact .inl h
  · have hb : ∀ o, (w.setRow k c).heap[(⟨g, o, none⟩ : Addr).block]? = w.heap[(⟨g, o, none⟩ : Addr).block]? := fun o => by
      show (w.setRow k c).heap[g]? = w.heap[g]?
      simp only [World.setRow, Array.getElem?_modify]
      rw [if_neg (by omega)]
    exact .inr ⟨g, off, cap, hv, h1, h2, h3, by simpa [World.setRow] using h4, fun i hi => (World.cell?_of_block (hb _)).trans (h5 i hi), fun i hi => by
      rw [World.cell?_of_block (hb _), World.frozen?_of_block (hb _)]; exact h6 i hi⟩
theorem Held.mono {base base' : Nat} {w : World} {v : Value} {l : List UInt8} (h : Held base w v l) (hb : base' ≤ base) : Held base' w v l := by
  rcases h with h | ⟨g, off, cap, hv, h1, h2, h3, h4⟩
  · exact .inl h
  · exact .inr ⟨g, off, cap, hv, h1, h2, Nat.le_trans hb h3, h4⟩
theorem Held.of_own {base n : Nat} {w : World} {v : Value} {l : List UInt8} (h : w.ownsRow base 5 1 v n (bvs l)) : Held base w v l := by
  have hr := Rd.of_own h
  obtain rfl : n = l.length := by have := h.1; rw [bvs_length] at this; omega
  rcases h.2 with ⟨hv, hn⟩ | ⟨g, cap, cur, hv, hb, hg, h1, h2, h3, h4⟩
  · exact .inl ⟨hv, List.eq_nil_of_length_eq_zero hn⟩
  · refine .inr ⟨g, 0, cap, hv, h1, h2, hb, (Array.getElem?_eq_some_iff.1 hg).1, fun i hi => ?_, fun i hi => ?_⟩
    · rw [Nat.zero_add, cell_of_row w g i cur 5 (0, 0) hg]
      have := bvs_getElem l i hi
      rw [← h4, List.getElem?_take] at this
      split at this
      · simpa using this
      · cases this
    · rw [Nat.zero_add, cell_of_row w g i cur 5 (0, 0) hg]
      refine ⟨by rw [Array.getElem?_eq_getElem (by omega)]; rfl, ?_⟩
      simp [World.frozen?, hg]
theorem Held.form {base : Nat} {w : World} {v : Value} {l : List UInt8} (h : Held base w v l) : ∃ q c, v = .slice q l.length c ∧ l.length ≤ c ∧ c ≤ maxLen := by
  rcases h with ⟨rfl, rfl⟩ | ⟨g, off, cap, rfl, h1, h2, _⟩
  · exact ⟨none, 0, rfl, Nat.le_refl _, Nat.zero_le _⟩
  · exact ⟨_, _, rfl, h1, h2⟩
/-- What is left of a slice behind its first k bytes. -/
theorem Held.drop {base : Nat} {w : World} {g off n cap k : Nat} {l : List UInt8} (h : Held base w (.slice (some ⟨g, off, none⟩) n cap) l) (hk : k ≤ n) : Held base w (.slice (some (if k = cap then ⟨g, off, none⟩ else ⟨g, off + k, none⟩)) (n - k) (cap - k)) (l.drop k) := by
  rcases h with ⟨hv, _⟩ | ⟨g', off', cap', hv, h1, h2, h3, h4, h5, h6⟩
  · cases hv
  · simp only [Value.slice.injEq, Option.some.injEq, Addr.mk.injEq] at hv
    obtain ⟨⟨rfl, rfl, _⟩, rfl, rfl⟩ := hv
    have hl : (l.drop k).length = l.length - k := List.length_drop
    by_cases e : k = cap
    · rw [if_pos e]
      refine .inr ⟨g, off, cap - k, by rw [hl], by omega, by omega, h3, h4, fun i hi => by omega, fun i hi => h6 i (by omega)⟩
    · rw [if_neg e]
      refine .inr ⟨g, off + k, cap - k, by rw [hl], by omega, by omega, h3, h4, fun i hi => ?_, fun i hi => ?_⟩
      · rw [Nat.add_assoc, h5 (k + i) (by omega)]
        congr 2
        simp [List.getD_eq_getElem?_getD]
      · rw [Nat.add_assoc]; exact h6 (k + i) (by omega)

/-- What is appended. -/
theorem src_of_rd {C : Nat} {w : World} {vx : Value} {m : List UInt8} (hr : Rd C w vx m) : (vx = .slice none 0 0 ∧ m = []) ∨ ∃ a c, vx = .slice (some a) m.length c ∧ ∀ j u, (bvs m)[j]? = some u → w.cell? (a.add j) = some u := by
  rcases hr with ⟨_ | ad, rfl, rfl⟩ | ⟨b, off, cap, rfl, h1, h2, h3, hc⟩
  · exact .inl ⟨rfl, rfl⟩
  · exact .inr ⟨ad, 0, rfl, fun j u hu => by simp [bvs] at hu⟩
  · refine .inr ⟨⟨b, off, none⟩, cap, rfl, ?_⟩
    intro j u hu
    have hj : j < m.length := by
      have := (List.getElem?_eq_some_iff.1 hu).1; simpa [bvs] using this
    rw [bvs_getElem m j hj] at hu
    simp only [Option.some.injEq] at hu
    subst hu
    rw [show (⟨b, off, none⟩ : Addr).add j = ⟨b, off + j, none⟩ from Addr.add_mid b off j]; exact hc j hj
theorem getD_app (l m : List UInt8) (i : Nat) : (l ++ m).getD i 0 = if i < l.length then l.getD i 0 else m.getD (i - l.length) 0 := by
  simp only [List.getD_eq_getElem?_getD, List.getElem?_append]
  split <;> rfl
theorem run_held {w : World} {base C : Nat} {v vx : Value} {l m : List UInt8} (hh : Held base w v l) (hr : Rd C w vx m) (hlen : l.length + m.length ≤ 140737488355328) (hbase : base ≤ w.heap.size) (ty : TypeId) :
    ∃ v' w', (Builtin.append_ #[30, 30] ty #[v, vx]).run Tryz.prog w = .ok v' w' ∧ Held base w' v' (l ++ m) ∧ Below base w w' := by
  obtain ⟨i0, hi, hz0, hz1, hz2⟩ := info_parts Tryz.info5
  rcases src_of_rd hr with ⟨rfl, rfl⟩ | ⟨ad, c, rfl, hc⟩
  · rw [List.append_nil]
    rcases hh with ⟨rfl, rfl⟩ | ⟨g, off, cap, rfl, h1, h2, h3, h4, h5, h6⟩
    · exact ⟨.slice none 0 0, w, by simp [Builtin.append_, run_underlying Tryz.underlying30, sizeOf, typeInfo, hi, Builtin.lenOf, Builtin.firstCells], .inl ⟨rfl, rfl⟩, Below.refl _ _⟩
    · have hs := Src.ofNil (P := Tryz.prog) (size := i0.size) w Tryz.underlying30 0
      have h := run_append_room_src (P := Tryz.prog) w 30 30 ty 5 i0 Tryz.underlying30 hi g off l.length cap _ 0 [] hs (by omega) (fun j hj => by simp at hj) (fun j hj => by simp at hj)
      exact ⟨_, _, h, .inr ⟨g, off, cap, rfl, h1, h2, h3, h4, h5, h6⟩, Below.refl _ _⟩
  · rcases hh with ⟨rfl, rfl⟩ | ⟨g, off, cap, rfl, h1, h2, h3, h4, h5, h6⟩
    · obtain ⟨v', w', hrun, ho, hg, _⟩ := run_append_own (P := Tryz.prog) w base 30 ty 5 i0 (.int .u8 0) 1 1 Tryz.underlying30 hi hz0 hz1 hz2 rfl (by decide) (.slice none 0 0) 0 [] (World.ownsRow_nil _ _ _ _) ad m.length c (bvs m) (by simp [bvs]) hc (bvs_one m) (by unfold maxLen; omega) (by omega) hbase
      exact ⟨v', w', hrun, Held.of_own (n := 0 + m.length) (by simpa using ho), (Below.refl _ _).grown hg hbase (fun k hk => by cases hk)⟩
    · by_cases hroom : l.length + m.length ≤ cap
      · have h := run_append_room_cells (P := Tryz.prog) w 30 ty 5 i0 Tryz.underlying30 hi g off l.length cap ad m.length c (bvs m) (by rw [hz1]; simp [bvs]) hc (bvs_one m) hroom
          (fun j hj => by rw [hz1, Nat.mul_one, Nat.add_assoc]; exact (h6 (l.length + j) (by rw [bvs_length] at hj; omega)).1) (fun j hj => by rw [hz1, Nat.mul_one, Nat.add_assoc]; exact (h6 (l.length + j) (by rw [bvs_length] at hj; omega)).2)
        rw [hz1, Nat.mul_one] at h
        have hbel : Below base w (w.setCells g (off + l.length) (bvs m)) := Lib.below_setCells g h3 (bvs m) _ (Below.refl _ _)
        have hll : (l ++ m).length = l.length + m.length := List.length_append
        refine ⟨_, _, h, .inr ⟨g, off, cap, by rw [hll], by omega, h2, h3, Nat.lt_of_lt_of_le h4 hbel.size, fun i hi => ?_, fun i hi => ?_⟩, hbel⟩
        · rw [getD_app]
          by_cases hil : i < l.length
          · rw [if_pos hil, World.cell?_setCells_out g (bvs m) _ w _ (fun _ _ => .inl (by show off + i < off + l.length; omega))]
            exact h5 i hil
          · rw [if_neg hil]
            have := World.cell?_setCells_in g (bvs m) (off + l.length) w (fun j hj => by rw [Nat.add_assoc]; exact (h6 (l.length + j) (by rw [bvs_length] at hj; omega)).1) (i - l.length) (by rw [bvs_length]; omega)
            rw [show off + l.length + (i - l.length) = off + i by omega] at this
            rw [this]
            have hg := bvs_getElem m (i - l.length) (by omega)
            rw [List.getElem?_eq_getElem (by rw [bvs_length]; omega)] at hg
            exact hg
        · exact ⟨World.isSome_setCells g (bvs m) _ w _ (h6 i hi).1, by rw [World.frozen?_setCells]; exact (h6 i hi).2⟩
      · obtain ⟨v', w', hrun, ho, hg⟩ := run_append_arg_grows (P := Tryz.prog) w 30 ty 5 i0 (.int .u8 0) 1 1 Tryz.underlying30 hi hz0 hz1 hz2 rfl (by decide) ⟨g, off, none⟩ l.length cap (bvs l) (by simp [bvs])
          (fun j u hj => by
            have hjl : j < l.length := by
              have := (List.getElem?_eq_some_iff.1 hj).1; simpa [bvs] using this
            rw [bvs_getElem l j hjl] at hj
            simp only [Option.some.injEq] at hj
            subst hj
            rw [Addr.add_mid]; exact h5 j hjl) ad m.length c (bvs m) (by simp [bvs]) hc (by omega) (by unfold maxLen; omega) (by omega)
        refine ⟨v', w', hrun, (Held.of_own (n := l.length + m.length) ?_).mono hbase, (Below.refl _ _).grown hg hbase (fun k hk => by cases hk)⟩
        rw [bvs_append]; exact ho

section
variable {ops : Array Oper} {rest : List Oper} {o : Oper} {a : Act} {Q : Exit → Act → World → Prop} {w : World}
theorem app_held (hgd : o.guard = none) (s x : Operand) (ho : o.op = .call { callee := .builtin .append, args := #[s, x], argTypes := #[30, 30] })
    {base C : Nat} {v vx : Value} {l m : List UInt8} (hs : a.eval s = v) (hh : Held base w v l) (hx : a.eval x = vx) (hr : Rd C w vx m) (hlen : l.length + m.length ≤ 140737488355328) (hbase : base ≤ w.heap.size)
    (h : ∀ v' w', Held base w' v' (l ++ m) → Below base w w' → wpList Tryz.prog ops Q rest (a.put o.dst v') w') : wpList Tryz.prog ops Q (o :: rest) a w := by
  refine wpList_plain hgd fun K hK' => ?_
  obtain ⟨v', w', hrun, r1, r2⟩ := run_held hh hr hlen hbase o.type
  unfold Oper.wp
  simp [execOp, ho, resolve, invoke, builtin, hs, hx, hrun, Result.andThen]
  exact hK' _ _ (h v' w' r1 r2)
end
end Go.Proofs.YtnnebfcggdbgpaaGreatDoor
