/-
  append of slices of bytes to a slice of slices of bytes of the call's own.
-/
import Derived.Test.YtikokimnhanloaaDoorRowsOf
import Derived.Test.YtikokimnhanloaaDoorApp
import Derived.Test.YtikokimnhanloaaDoorHeld
import Derived.Test.YtikokimnhanloaaDoorSame
namespace Go.Proofs.YtikokimnhanloaaDoor
open Go.ChangeShapes Go.WideShapes Go.ChangeAt Go.RowKit
set_option linter.unusedVariables false

theorem Tryd.infoS : (Tryd.prog.info? 22).map (fun i => (i.zero, i.size, i.bytes)) = some (some (.slice none 0 0), 1, 24) := by kernel_rfl
/-- v's row is the call's own from base on and holds slices that read as ks. -/
def RowAll (base B : Nat) (w : World) (v : Value) (ks : List (List UInt8)) : Prop :=
  ∃ xs : List Value, w.ownsRow base 22 1 v ks.length xs ∧ ∀ i, i < ks.length → ∃ u, xs[i]? = some u ∧ Rd B w u (ks.getD i [])
theorem RowAll.rdall {base B : Nat} {w : World} {v : Value} {ks : List (List UInt8)} (h : RowAll base B w v ks) (hB : B ≤ w.heap.size) : ∃ oa cap, v = .slice oa ks.length cap ∧ RdAll w.heap.size w oa ks := by
  obtain ⟨xs, hown, hrd⟩ := h
  rcases hown.2 with ⟨hv, hn⟩ | ⟨g, cap, cur, hv, hb, hg, h1, h2, h3, h4⟩
  · exact ⟨none, 0, by rw [hn]; exact hv, fun h => by omega⟩
  · refine ⟨_, cap, hv, fun _ => ⟨g, 0, rfl, (Array.getElem?_eq_some_iff.1 hg).1, fun i hi => ?_⟩⟩
    obtain ⟨u, hu, hr⟩ := hrd i hi
    refine ⟨u, ?_, hr.mono hB⟩
    rw [Nat.zero_add, cell_of_row w g i cur _ (0, 0) hg, ← hu, ← h4, List.getElem?_take, if_pos (by omega), Array.getElem?_toList]
theorem RowAll.nil (base B : Nat) (w : World) : RowAll base B w (.slice none 0 0) [] := ⟨[], World.ownsRow_nil _ _ _ _, fun i hi => by simp at hi⟩
theorem RowAll.new {B : Nat} {w : World} {u : Value} {k : List UInt8} (hu : Rd B w u k) (hB : B ≤ w.heap.size) : RowAll w.heap.size B (w.alloc (.cells #[u] 22)) (.slice (some ⟨w.heap.size, 0, none⟩) 1 1) [k] := by
  refine ⟨[u], ⟨rfl, .inr ⟨w.heap.size, 1, #[u], rfl, Nat.le_refl _, heap_alloc_new w _, Nat.le_refl _, by decide, rfl, rfl⟩⟩, fun i hi => ?_⟩
  obtain rfl : i = 0 := by simpa using hi
  exact ⟨u, rfl, hu.below ((Below.refl _ _).alloc (Nat.le_refl _) _) hB⟩
theorem RowAll.later {base B : Nat} {w w' : World} {v : Value} {ks : List (List UInt8)} (h : RowAll base B w v ks) (hb : Below w.heap.size w w') (hB : B ≤ w.heap.size) : RowAll base B w' v ks := by
  obtain ⟨xs, hown, hrd⟩ := h
  refine ⟨xs, ⟨hown.1, ?_⟩, fun i hi => ?_⟩
  · rcases hown.2 with h | ⟨g, cap, cur, hv, h0, hg, h⟩
    · exact .inl h
    · exact .inr ⟨g, cap, cur, hv, h0, (hb.block g (Array.getElem?_eq_some_iff.1 hg).1).trans hg, h⟩
  · obtain ⟨u, hu, hr⟩ := hrd i hi
    exact ⟨u, hu, hr.below hb hB⟩

theorem run_parts {w : World} {base B : Nat} {v : Value} {ks ls : List (List UInt8)} {oa : Option Addr} {cap : Nat} (hown : RowAll base B w v ks) (hr : RdAll B w oa ls) (hlen : (ks.length + ls.length) * 24 ≤ 140737488355328) (hB : B ≤ base) (hbase : base ≤ w.heap.size) (ty : TypeId) :
    ∃ v' w', (Builtin.append_ #[37, 37] ty #[v, .slice oa ls.length cap]).run Tryd.prog w = .ok v' w' ∧ RowAll base B w' v' (ks ++ ls) ∧ Below base w w' := by
  obtain ⟨i0, hi, hz0, hz1, hz2⟩ := info_parts Tryd.infoS
  obtain ⟨xs, hx, hrd⟩ := hown
  have key : ∀ (ad : Addr) (news : List Value), news.length = ls.length → (∀ j u, news[j]? = some u → w.cell? (ad.add j) = some u) → (∀ i, i < ls.length → ∃ u, news[i]? = some u ∧ Rd B w u (ls.getD i [])) →
      ∃ v' w', (Builtin.append_ #[37, 37] ty #[v, .slice (some ad) ls.length cap]).run Tryd.prog w = .ok v' w' ∧ RowAll base B w' v' (ks ++ ls) ∧ Below base w w' := by
    intro ad news hn hc hu
    have hone : ∀ u ∈ news, u.oneCell' = true := by
      intro u hu'
      obtain ⟨i, hi', e⟩ := List.getElem_of_mem hu'
      obtain ⟨u2, h2, h3⟩ := hu i (by omega)
      rw [List.getElem?_eq_getElem hi', e] at h2
      obtain rfl := Option.some.inj h2
      obtain ⟨q, c, rfl, _, _⟩ := h3.form
      rfl
    obtain ⟨v', w', hrun, ho, hg, _⟩ := run_append_own (P := Tryd.prog) w base 37 ty 22 i0 (.slice none 0 0) 1 24 Tryd.underlying37 hi hz0 hz1 hz2 rfl (by decide) v ks.length xs hx ad ls.length cap news (by simp [hn]) hc hone (by unfold maxLen; omega) hlen hbase
    have hbel : Below base w w' := (Below.refl _ _).grown hg hbase (fun k hk => (hx.lt k hk).1)
    refine ⟨v', w', hrun, ⟨xs ++ news, by rw [List.length_append]; exact ho, fun i hi' => ?_⟩, hbel⟩
    have hxl : xs.length = ks.length := by simpa using hx.1
    rw [List.length_append] at hi'
    by_cases hik : i < ks.length
    · obtain ⟨u, h1, h2⟩ := hrd i hik
      refine ⟨u, by rw [List.getElem?_append_left (by omega)]; exact h1, ?_⟩
      rw [show (ks ++ ls).getD i [] = ks.getD i [] by simp [List.getD_eq_getElem?_getD, List.getElem?_append_left hik]]
      exact h2.below hbel hB
    · obtain ⟨u, h1, h2⟩ := hu (i - ks.length) (by omega)
      refine ⟨u, by rw [List.getElem?_append_right (by omega), hxl]; exact h1, ?_⟩
      rw [show (ks ++ ls).getD i [] = ls.getD (i - ks.length) [] by simp [List.getD_eq_getElem?_getD, List.getElem?_append_right (show ks.length ≤ i by omega)]]
      exact h2.below hbel hB
  by_cases h0 : 0 < ls.length
  · obtain ⟨b, off, rfl, hbB, hc⟩ := hr h0
    refine key ⟨b, off, none⟩ ((List.range ls.length).map fun i => (w.cell? ⟨b, off + i, none⟩).getD undef) (by simp) (fun j u hu => ?_) (fun i hi' => ?_)
    · have hj : j < ls.length := by have := (List.getElem?_eq_some_iff.1 hu).1; simpa using this
      obtain ⟨u2, h2, _⟩ := hc j hj
      rw [List.getElem?_map, List.getElem?_range hj, Option.map_some, h2] at hu
      rw [Addr.add_mid, h2]; simpa using hu
    · obtain ⟨u2, h2, h3⟩ := hc i hi'
      exact ⟨u2, by rw [List.getElem?_map, List.getElem?_range hi', Option.map_some, h2]; rfl, h3⟩
  · obtain rfl : ls = [] := by cases ls with | nil => rfl | cons _ _ => simp at h0
    cases oa with
    | some ad => exact key ad [] rfl (fun j u hu => by simp at hu) (fun i hi' => by simp at hi')
    | none =>
      rw [List.append_nil]
      rcases hx.2 with ⟨hv, hn⟩ | ⟨g, cp, cur, hv, hb, hg, h1, h2, h3, h4⟩
      · subst hv
        exact ⟨.slice none 0 0, w, by simp [Builtin.append_, run_underlying Tryd.underlying37, sizeOf, typeInfo, hi, Builtin.lenOf, Builtin.firstCells], ⟨xs, hx, hrd⟩, Below.refl _ _⟩
      · subst hv
        refine ⟨_, w, ?_, ⟨xs, hx, hrd⟩, Below.refl _ _⟩
        simp [Builtin.append_, run_underlying Tryd.underlying37, sizeOf, typeInfo, hi, Builtin.lenOf, Builtin.firstCells, h1, storeCells]
section
variable {ops : Array Oper} {rest : List Oper} {o : Oper} {a : Act} {Q : Exit → Act → World → Prop} {w : World}
theorem app_parts (hgd : o.guard = none) (s x : Operand) (ho : o.op = .call { callee := .builtin .append, args := #[s, x], argTypes := #[37, 37] })
    {base B cap : Nat} {v : Value} {oa : Option Addr} {ks ls : List (List UInt8)} (hs : a.eval s = v) (hown : RowAll base B w v ks) (hx : a.eval x = .slice oa ls.length cap) (hr : RdAll B w oa ls) (hlen : (ks.length + ls.length) * 24 ≤ 140737488355328) (hB : B ≤ base) (hbase : base ≤ w.heap.size)
    (h : ∀ v' w', RowAll base B w' v' (ks ++ ls) → Below base w w' → wpList Tryd.prog ops Q rest (a.put o.dst v') w') : wpList Tryd.prog ops Q (o :: rest) a w := by
  refine wpList_plain hgd fun K hK' => ?_
  obtain ⟨v', w', hrun, r1, r2⟩ := run_parts (cap := cap) hown hr hlen hB hbase o.type
  obtain ⟨vx, hvx⟩ : ∃ vx, vx = Value.slice oa ls.length cap := ⟨_, rfl⟩
  rw [← hvx] at hx hrun
  unfold Oper.wp
  simp [execOp, ho, resolve, invoke, builtin, hs, hx, hrun, Result.andThen]
  exact hK' _ _ (h v' w' r1 r2)
end
end Go.Proofs.YtikokimnhanloaaDoor
