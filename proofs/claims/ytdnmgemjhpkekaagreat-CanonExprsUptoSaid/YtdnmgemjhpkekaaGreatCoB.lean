/-
  Facts on right expressions.
-/
import Derived.Test.YtdnmgemjhpkekaaGreatExQ
namespace Go.Proofs.YtdnmgemjhpkekaaGreat
open Go.ChangeShapes Go.WideShapes Go.ChangeAt Go.RowKit
set_option linter.unusedVariables false

theorem leaves_sum : ∀ l : List Ex, (l.map fun e => (leavesE e).length).sum = (leavesL l).length
  | [] => rfl
  | e :: r => by rw [List.map_cons, List.sum_cons, leaves_sum r, leavesL, List.length_append]
theorem formL_ofall : ∀ {l : List Ex}, (∀ e ∈ l, formE e = true) → formL l = true
  | [], _ => by unfold formL; rfl
  | e :: r, h => by unfold formL; rw [h e (by simp), formL_ofall fun x hx => h x (by simp [hx])]; rfl
theorem depthL_all : ∀ {l : List Ex} {d : Nat}, (∀ e ∈ l, depthE e ≤ d) → depthL l ≤ d
  | [], _, _ => by unfold depthL; exact Nat.zero_le _
  | e :: r, d, h => by
    unfold depthL
    have := h e (by simp)
    have := depthL_all (l := r) (d := d) fun x hx => h x (by simp [hx])
    omega
theorem formL_mem : ∀ {l : List Ex}, formL l = true → ∀ e ∈ l, formE e = true
  | [], _, e, he => by simp at he
  | a :: r, h, e, he => by
    unfold formL at h
    simp only [Bool.and_eq_true] at h
    rcases List.mem_cons.1 he with rfl | he
    · exact h.1
    · exact formL_mem h.2 e he
theorem depthL_mem : ∀ {l : List Ex} {d : Nat}, depthL l ≤ d → ∀ e ∈ l, depthE e ≤ d
  | [], d, _, e, he => by simp at he
  | a :: r, d, h, e, he => by
    unfold depthL at h
    rcases List.mem_cons.1 he with rfl | he
    · omega
    · exact depthL_mem (l := r) (by omega) e he
theorem right_all {e : Ex} (h : rightE e = true) : formE e = true ∧ depthE e ≤ 16 ∧ (leavesE e).length ≤ 32 := by
  unfold rightE at h
  simp only [Bool.and_eq_true, decide_eq_true_eq] at h
  exact ⟨h.2.2, h.2.1, h.1⟩
end Go.Proofs.YtdnmgemjhpkekaaGreat
