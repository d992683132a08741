/-
  The method Cursor.Take of a positive number.
-/
import Derived.Test.YtdnmgemjhpkekaaGreatDoorNumberM
import Derived.Test.YtdnmgemjhpkekaaGreatDoorOwnF
namespace Go.Proofs.YtdnmgemjhpkekaaGreatDoor
open Go.ChangeShapes Go.WideShapes Go.ChangeAt Go.RowKit
set_option linter.unusedVariables false

theorem Cur.drewN {w : World} {c at' : Nat} {l : List UInt8} (h : Cur w c l at') (k : Nat) : Cur (w.drewN k) c l at' := by
  obtain ⟨v, h1, h2, h3, h4⟩ := h
  exact ⟨v, h1, h2.below (w' := w.drewN k) ⟨rfl, rfl, rfl, Nat.le_refl _, fun _ _ => rfl⟩ (Nat.le_refl _), h3, h4⟩
/-- The slice of the n first bytes of what is left, as wide as it is long. -/
theorem rd_cut3 {B : Nat} {w : World} {b off cap n : Nat} {l : List UInt8} (h1 : l.length ≤ cap) (h2 : cap ≤ maxLen) (h3 : b < B) (hc : ∀ i, i < l.length → w.cell? ⟨b, off + i, none⟩ = some (bv (l.getD i 0))) (hn : n ≤ l.length) :
    Rd B w (.slice (some ⟨b, off, none⟩) n n) (l.take n) := by
  have hl : (l.take n).length = n := by rw [List.length_take]; omega
  refine .inr ⟨b, off, n, by rw [hl], by omega, by omega, h3, fun i hi => ?_⟩
  rw [hl] at hi
  rw [hc i (by omega)]
  congr 2
  simp [List.getD_eq_getElem?_getD, hi]

end Go.Proofs.YtdnmgemjhpkekaaGreatDoor
