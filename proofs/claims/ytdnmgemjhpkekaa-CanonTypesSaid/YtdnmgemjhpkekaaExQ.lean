/-
  vestryref10.Leaves, Right.
-/
import Derived.Test.YtdnmgemjhpkekaaExO
import Derived.Test.YtdnmgemjhpkekaaExG
import Derived.Laws.AppendOwnNone
namespace Go.Proofs.Ytdnmgemjhpkekaa
open Go.ChangeShapes Go.WideShapes Go.ChangeAt Go.RowKit
set_option linter.unusedVariables false

/-- v is a slice of the call's own of expressions whose kids lie in blocks of P. -/
def LvRow (P : Nat → Prop) (base : Nat) (w : World) (v : Value) (ks : List Ex) : Prop := ∃ cs, w.ownsRow base 31 4 v ks.length cs ∧ CellsL P w ks cs
theorem LvRow.nil (P : Nat → Prop) (base : Nat) (w : World) : LvRow P base w (.slice none 0 0) [] := ⟨[], World.ownsRow_nil _ _ _ _, trivial⟩
theorem LvRow.form {P : Nat → Prop} {base : Nat} {w : World} {v : Value} {ks : List Ex} (h : LvRow P base w v ks) : ∃ q c, v = .slice q ks.length c := by
  obtain ⟨cs, h1, _⟩ := h
  rcases h1.2 with ⟨h, hn⟩ | ⟨g, cap, cur, hv, _⟩
  · exact ⟨none, 0, by rw [hn]; exact h⟩
  · exact ⟨_, _, hv⟩
theorem LvRow.later {P : Nat → Prop} {base : Nat} {w w' : World} {v : Value} {ks : List Ex} (h : LvRow P base w v ks) (hb : Below w.heap.size w w') (hP : ∀ b, P b → b < w.heap.size) : LvRow P base w' v ks := by
  obtain ⟨cs, h1, h2⟩ := h
  refine ⟨cs, ⟨h1.1, ?_⟩, h2.keep (cells_below hb hP)⟩
  rcases h1.2 with h | ⟨g, cap, cur, rfl, h0, hg, r⟩
  · exact .inl h
  · exact .inr ⟨g, cap, cur, rfl, h0, (hb.block g (Array.getElem?_eq_some_iff.1 hg).1).trans hg, r⟩
theorem CellsL.app {P : Nat → Prop} {w : World} : ∀ {ks : List Ex} {cs : List Value} {ls : List Ex} {ds : List Value}, CellsL P w ks cs → CellsL P w ls ds → CellsL P w (ks ++ ls) (cs ++ ds)
  | [], [], _, _, _, h2 => h2
  | e :: r, v0 :: v1 :: v2 :: v3 :: cs, _, _, h, h2 => ⟨h.1, CellsL.app h.2 h2⟩
  | [], _ :: _, _, _, h, _ => h.elim
  | _ :: _, [], _, _, h, _ => h.elim
  | _ :: _, [_], _, _, h, _ => h.elim
  | _ :: _, [_, _], _, _, h, _ => h.elim
  | _ :: _, [_, _, _], _, _, h, _ => h.elim
/-- The row read as a slice. -/
theorem LvRow.rdL {P : Nat → Prop} {base : Nat} {w : World} {q : Option Addr} {n c : Nat} {ks : List Ex} (h : LvRow P base w (.slice q n c) ks) : n = ks.length ∧ ks.length ≤ c ∧ (0 < ks.length → ∃ b, q = some ⟨b, 0, none⟩ ∧ base ≤ b ∧ b < w.heap.size ∧ RdL P w ks b 0) := by
  obtain ⟨cs, h1, h2⟩ := h
  rcases h1.2 with ⟨hv, hn⟩ | ⟨g, cap, cur, hv, h0, hg, hcap, _, hcz, htk⟩
  · simp only [Value.slice.injEq] at hv
    obtain ⟨rfl, rfl, rfl⟩ := hv
    exact ⟨hn.symm, by omega, fun h => by omega⟩
  · simp only [Value.slice.injEq] at hv
    obtain ⟨rfl, rfl, rfl⟩ := hv
    refine ⟨rfl, hcap, fun _ => ⟨g, rfl, h0, (Array.getElem?_eq_some_iff.1 hg).1, ?_⟩⟩
    refine h2.rdL fun j u hj => ?_
    rw [Nat.zero_add]
    have hjl : j < cs.length := (List.getElem?_eq_some_iff.1 hj).1
    rw [cell_of_row w g _ cur _ (0, 0) hg, ← Array.getElem?_toList]
    rw [← htk, List.getElem?_take, if_pos (by rw [h1.1] at hjl; exact hjl)] at hj
    exact hj
theorem app_lv {ops : Array Oper} {rest : List Oper} {o : Oper} {a : Act} {Q : Exit → Act → World → Prop} {w : World} (hgd : o.guard = none) (s x : Operand) (ho : o.op = .call { callee := .builtin .append, args := #[s, x], argTypes := #[29, 29] })
    {P : Nat → Prop} {base base2 : Nat} {v vx : Value} {ks ls : List Ex} (hs : a.eval s = v) (hown : LvRow P base w v ks) (hx : a.eval x = vx) (h2 : LvRow P base2 w vx ls) (hP : ∀ b, P b → b < base)
    (hlen : ks.length + ls.length ≤ 1000000) (hbase : base ≤ w.heap.size)
    (h : ∀ v' w', LvRow P base w' v' (ks ++ ls) → Below base w w' → wpList Try.prog ops Q rest (a.put o.dst v') w') : wpList Try.prog ops Q (o :: rest) a w := by
  obtain ⟨i0, hi, hz0, hz1, hz2⟩ := info_parts Try.infoEx
  obtain ⟨cs, h1, hc1⟩ := hown
  obtain ⟨ds, h3, hc3⟩ := h2
  rcases h3.2 with ⟨hv, hn⟩ | ⟨g, cap, cur, hv, h0, hg, hcap, _, hcz, htk⟩
  · obtain rfl : ls = [] := List.eq_nil_of_length_eq_zero hn
    rw [hv] at hx
    refine wpList_append_own_none hgd s x 29 ho base 31 i0 4 Try.underlying29 hi v ks.length cs hs h1 hx ?_
    refine h v w ⟨cs, by rw [List.append_nil]; exact h1, by rw [List.append_nil]; exact hc1⟩ (Below.refl _ _)
  · rw [hv] at hx
    refine wpList_append_own w hgd s x 29 ho base 31 i0 _ 4 64 Try.underlying29 hi hz0 hz1 hz2 rfl (by decide) v ks.length cs hs h1 ⟨g, 0, none⟩ ls.length cap ds hx h3.1 ?_ hc3.ones (by unfold maxLen; omega) (by omega) hbase ?_
    · intro j u hj
      have hjl : j < ds.length := (List.getElem?_eq_some_iff.1 hj).1
      rw [show (Addr.add ⟨g, 0, none⟩ j) = ⟨g, j, none⟩ by cases j <;> simp [Addr.add], cell_of_row w g _ cur _ (0, 0) hg, ← Array.getElem?_toList]
      rw [← htk, List.getElem?_take, if_pos (by rw [h3.1] at hjl; exact hjl)] at hj
      exact hj
    · intro v' w' r1 r2 _
      have hb : Below base w w' := (Below.refl _ _).grown r2 hbase (fun k hk => (h1.lt k hk).1)
      exact h v' w' ⟨cs ++ ds, by rw [List.length_append]; exact r1, (hc1.app hc3).keep (cells_below hb hP)⟩ hb

end Go.Proofs.Ytdnmgemjhpkekaa
