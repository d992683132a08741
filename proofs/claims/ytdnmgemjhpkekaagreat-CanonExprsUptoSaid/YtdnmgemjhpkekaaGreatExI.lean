/-
  expr.hasRightParts.
-/
import Derived.Test.YtdnmgemjhpkekaaGreatExH
namespace Go.Proofs.YtdnmgemjhpkekaaGreat
open Go.ChangeShapes Go.WideShapes Go.ChangeAt Go.RowKit
set_option linter.unusedVariables false

theorem formL_all : ∀ {ks : List Ex}, (∀ j, j < ks.length → formE (ks.getD j ex0) = true) → formL ks = true
  | [], _ => rfl
  | e :: r, h => by
    have h0 := h 0 (by simp)
    simp only [List.getD_cons_zero] at h0
    unfold formL
    rw [h0, formL_all (ks := r) (fun j hj => by have := h (j + 1) (by simpa using hj); simpa using this)]; rfl
theorem formE_bad {k : Int} {v n : List UInt8} {ks : List Ex} {j : Nat} (hj : j < ks.length) (h : formE (ks.getD j ex0) = false) : formE (.mk k v n ks) = false := by
  rw [Bool.eq_false_iff]
  intro e
  unfold formE at e
  simp only [Bool.and_eq_true] at e
  rw [formL_get hj e.2] at h
  cases h
end Go.Proofs.YtdnmgemjhpkekaaGreat
