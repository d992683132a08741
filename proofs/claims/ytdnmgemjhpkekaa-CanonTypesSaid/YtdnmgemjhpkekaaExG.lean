/-
  Which expressions are right; vestryref10.right.
-/
import Derived.Test.YtdnmgemjhpkekaaExF
import Derived.Test.YtdnmgemjhpkekaaNameR
namespace Go.Proofs.Ytdnmgemjhpkekaa
open Go.ChangeShapes Go.WideShapes Go.ChangeAt Go.RowKit
set_option linter.unusedVariables false

/-- A part is right, its kids apart: m, how many they are. -/
def partB (k : Int) (v n : List UInt8) (m : Nat) : Bool :=
  if k = 1 then decide (m = 0) && decide (v = []) && isName (bstr n)
  else if k = 2 then decide (m = 0) && isName (bstr v) && isName (bstr n)
  else if k = 3 ∨ k = 4 then decide (2 ≤ m) && decide (v = []) && decide (n = [])
  else if k = 5 then decide (m = 2) && decide (v = []) && decide (n = [])
  else false
mutual
def formE : Ex → Bool
  | .mk k v n ks => partB k v n ks.length && formL ks
def formL : List Ex → Bool
  | [] => true
  | e :: r => formE e && formL r
end
theorem good_all : ∀ {ks : List Ex} {d : Nat}, (∀ j, j < ks.length → (decide (depthE (ks.getD j ex0) ≤ d) && formE (ks.getD j ex0)) = true) → depthL ks ≤ d ∧ formL ks = true
  | [], d, _ => ⟨by unfold depthL; omega, rfl⟩
  | e :: r, d, h => by
    have h0 := h 0 (by simp)
    simp only [List.getD_cons_zero, Bool.and_eq_true, decide_eq_true_eq] at h0
    obtain ⟨g1, g2⟩ := good_all (ks := r) (d := d) (fun j hj => by have := h (j + 1) (by simpa using hj); simpa using this)
    unfold depthL formL
    exact ⟨by omega, by rw [h0.2, g2]; rfl⟩
theorem formL_get : ∀ {ks : List Ex} {j : Nat}, j < ks.length → formL ks = true → formE (ks.getD j ex0) = true
  | [], _, h, _ => by simp at h
  | e :: r, 0, _, h => by unfold formL at h; simp only [Bool.and_eq_true] at h; exact h.1
  | e :: r, j + 1, hj, h => by unfold formL at h; simp only [Bool.and_eq_true] at h; exact formL_get (j := j) (by simpa using hj) h.2
theorem bad_one {k : Int} {v n : List UInt8} {ks : List Ex} {d j : Nat} (hj : j < ks.length) (h : (decide (depthE (ks.getD j ex0) ≤ d) && formE (ks.getD j ex0)) = false) : (decide (depthE (.mk k v n ks) ≤ d + 1) && formE (.mk k v n ks)) = false := by
  rw [Bool.eq_false_iff] at h ⊢
  intro e
  simp only [Bool.and_eq_true, decide_eq_true_eq] at e
  refine h ?_
  simp only [Bool.and_eq_true, decide_eq_true_eq]
  obtain ⟨e1, e2⟩ := e
  unfold depthE at e1
  unfold formE at e2
  simp only [Bool.and_eq_true] at e2
  have := depthL_get ks j hj
  exact ⟨by omega, formL_get hj e2.2⟩
theorem all_good {k : Int} {v n : List UInt8} {ks : List Ex} {d : Nat} (h : ∀ j, j < ks.length → (decide (depthE (ks.getD j ex0) ≤ d) && formE (ks.getD j ex0)) = true) : (decide (depthE (.mk k v n ks) ≤ d + 1) && formE (.mk k v n ks)) = partB k v n ks.length := by
  obtain ⟨h1, h2⟩ := good_all h
  unfold depthE formE
  rw [h2, decide_eq_true (by omega)]; simp
theorem bstr_nil {l : List UInt8} (h : l = []) : ((bstr l).toList == []) = true := by rw [toList_data, bstr_data, h]; rfl
theorem bstr_nnil {l : List UInt8} (h : ¬ l = []) : ((bstr l).toList == []) = false := by rw [toList_data, bstr_data, beq_eq_false_iff_ne]; exact h
end Go.Proofs.Ytdnmgemjhpkekaa
