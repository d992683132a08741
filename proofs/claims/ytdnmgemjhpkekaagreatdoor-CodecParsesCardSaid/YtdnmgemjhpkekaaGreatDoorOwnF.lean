/-
  Rows of bytes of the call's own: later worlds, lower bases, the slice's form.
-/
import Derived.Test.YtdnmgemjhpkekaaGreatDoorSame
import Derived.Lib.SmallJoins
namespace Go.Proofs.YtdnmgemjhpkekaaGreatDoor
open Go.ChangeShapes Go.WideShapes Go.ChangeAt Go.RowKit
set_option linter.unusedVariables false

theorem own_below {w w' : World} {base n : Nat} {v : Value} {l : List UInt8} (h : w.ownsRow base 5 1 v n (bvs l)) (hb : Below w.heap.size w w') : w'.ownsRow base 5 1 v n (bvs l) := by
  refine ⟨h.1, ?_⟩
  rcases h.2 with h | ⟨g', cap, cur, e, a1, a2, r⟩
  · exact .inl h
  · exact .inr ⟨g', cap, cur, e, a1, (hb.block g' (Array.getElem?_eq_some_iff.1 a2).1).trans a2, r⟩
theorem own_le {w : World} {base base' n : Nat} {v : Value} {l : List UInt8} (h : w.ownsRow base 5 1 v n (bvs l)) (hb : base' ≤ base) : w.ownsRow base' 5 1 v n (bvs l) := Joins.ownsRow_le h hb
theorem own_form {w : World} {base n : Nat} {v : Value} {l : List UInt8} (h : w.ownsRow base 5 1 v n (bvs l)) : ∃ q c, v = .slice q n c := by
  obtain ⟨q, c, hv, _⟩ := (Rd.of_own h).form
  have := h.1
  rw [bvs_length, Nat.mul_one] at this
  exact ⟨q, c, by rw [hv, this]⟩
theorem own_len {w : World} {base n : Nat} {v : Value} {l : List UInt8} (h : w.ownsRow base 5 1 v l.length (bvs l)) (hn : l.length = n) : w.ownsRow base 5 1 v n (bvs l) := hn ▸ h
theorem rd_form {B : Nat} {w : World} {v : Value} {l : List UInt8} (h : Rd B w v l) : ∃ q c, v = .slice q l.length c := by
  obtain ⟨q, c, hv, _⟩ := h.form
  exact ⟨q, c, hv⟩
theorem eqB_refl (l : List UInt8) : eqB l l = true := by unfold eqB; exact beq_self_eq_true l
end Go.Proofs.YtdnmgemjhpkekaaGreatDoor
