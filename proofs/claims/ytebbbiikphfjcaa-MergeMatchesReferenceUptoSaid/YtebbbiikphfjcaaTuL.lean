/-
  What sizes the strings of a tuple have.
-/
import Derived.Test.YtebbbiikphfjcaaTuB
import Derived.Deep.Cut
namespace Go.Proofs.Ytebbbiikphfjcaa
open Go.ChangeShapes Go.WideShapes Go.ChangeAt Go.RowKit
set_option linter.unusedVariables false

theorem ret_b {a b : Bool} (h : a = b) : Ending.returned (.bool a) = .returned (.bool b) := by rw [h]
def sizesT (t : Tu) (n : Nat) : Prop := t.ot.size ≤ n ∧ t.oi.size ≤ n ∧ t.re.size ≤ n ∧ t.st.size ≤ n ∧ t.si.size ≤ n ∧ t.us.size ≤ n
theorem tcells (w : World) (t : Tu) (T : TypeId) : (w.alloc (.cells (tc t).toArray T)).cell? ⟨w.heap.size, 0, none⟩ = some (.string t.ot) ∧ (w.alloc (.cells (tc t).toArray T)).cell? ⟨w.heap.size, 1, none⟩ = some (.string t.oi) ∧ (w.alloc (.cells (tc t).toArray T)).cell? ⟨w.heap.size, 2, none⟩ = some (.string t.re) ∧ (w.alloc (.cells (tc t).toArray T)).cell? ⟨w.heap.size, 3, none⟩ = some (.string t.st) ∧ (w.alloc (.cells (tc t).toArray T)).cell? ⟨w.heap.size, 4, none⟩ = some (.string t.si) ∧ (w.alloc (.cells (tc t).toArray T)).cell? ⟨w.heap.size, 5, none⟩ = some (.string t.us) :=
  let h := Arr.new' w T (tc t).toArray _ rfl
  ⟨h.cell 0, h.cell 1, h.cell 2, h.cell 3, h.cell 4, h.cell 5⟩
theorem below_tu (w : World) (t : Tu) (T : TypeId) : Below w.heap.size w (w.alloc (.cells (tc t).toArray T)) := (Below.refl _ _).alloc (Nat.le_refl _) _
def shortT (t : Tu) : Bool := decide (t.ot.size + t.oi.size + t.re.size + t.st.size + t.si.size + t.us.size ≤ 1500)
theorem shortT_sizes {t : Tu} (h : shortT t = true) : sizesT t 1500 := by
  have := of_decide_eq_true h
  exact ⟨by omega, by omega, by omega, by omega, by omega, by omega⟩
set_option maxRecDepth 100000 in
set_option maxHeartbeats 1000000 in
theorem short_any (t : Tu) (h : sizesT t 140737488355328) (w : World) : Calls Try.prog 14 #[tuV t] w fun e w' => e = .returned (.bool (shortT t)) ∧ Below w.heap.size w w' := by
  obtain ⟨h1, h2, h3, h4, h5, h6⟩ := h
  obtain ⟨c0, c1, c2, c3, c4, c5⟩ := tcells w t 34
  have HB := Lib.hid (below_tu w t 34)
  have HS : Hid (shortT t = decide (t.ot.size + t.oi.size + t.re.size + t.st.size + t.si.size + t.us.size ≤ 1500)) := rfl
  have g1 : (t.ot.size : Int) ≤ 140737488355328 := by omega
  have g2 : (t.oi.size : Int) ≤ 140737488355328 := by omega
  have g3 : (t.re.size : Int) ≤ 140737488355328 := by omega
  have g4 : (t.st.size : Int) ≤ 140737488355328 := by omega
  have g5 : (t.si.size : Int) ≤ 140737488355328 := by omega
  have g6 : (t.us.size : Int) ≤ 140737488355328 := by omega
  clear h1 h2 h3 h4 h5 h6
  go_enter Try.func14, Try.ntmps14
  go_wp2_with fail
  go_ret
  refine ⟨ret_b ?_, HB.out⟩
  rw [HS.out]
  rw [Bool.eq_iff_iff]
  simp only [decide_eq_true_eq]
  omega
theorem sizesT.mono {t : Tu} {n m : Nat} (h : sizesT t n) (hm : n ≤ m) : sizesT t m := ⟨Nat.le_trans h.1 hm, Nat.le_trans h.2.1 hm, Nat.le_trans h.2.2.1 hm, Nat.le_trans h.2.2.2.1 hm, Nat.le_trans h.2.2.2.2.1 hm, Nat.le_trans h.2.2.2.2.2 hm⟩
end Go.Proofs.Ytebbbiikphfjcaa
