/-
  fault.New; the law's told.
-/
import Derived.Test.YtdnmgemjhpkekaaGreatDoorErrFind
import Derived.Test.YtdnmgemjhpkekaaGreatDoorPlain
import Derived.WalkKit
import Derived.ProofKit
import Derived.OpenShut
import Derived.Below
import Derived.Lib.Hide
namespace Go.Proofs.YtdnmgemjhpkekaaGreatDoor
open Go.ChangeShapes Go.WideShapes Go.ChangeAt Go.RowKit
open errAs (ErrT)
set_option linter.unusedVariables false

def faultN (c n : Nat) : Value := .iface 105 (.agg #[.int .i64 c, .int .i64 n])
def errF (c n : Nat) : Value := if c = 0 then .nilIface else faultN c n
set_option maxRecDepth 100000 in
theorem fnew_any (c n : Int) (w : World) : Calls Tryz.prog 77 #[.int .i64 c, .int .i64 n] w fun e w' => e = .returned (.iface 105 (.agg #[.int .i64 c, .int .i64 n])) ∧ w = w' := by
  go_enter Tryz.func77, Tryz.ntmps77
  go_wp2_with fail
  go_ret
  exact ⟨rfl, rfl⟩
theorem errT_below {w w' : World} (h : ErrT w) (hb : Below w.heap.size w w') : ErrT w' := h.below hb h.lt
set_option maxRecDepth 100000 in
theorem told_none (n : Nat) (w : World) : Calls Tryz.prog 10 #[.nilIface, .int .i64 0, .int .i64 n] w fun e w' => e = .returned (.bool true) ∧ w = w' := by
  go_enter Tryz.func10, Tryz.ntmps10
  go_wp2_with fail
  go_ret
  exact ⟨rfl, rfl⟩
set_option maxRecDepth 100000 in
theorem told_fault (c n : Nat) (hc : c ≠ 0) (w : World) (hg : ErrT w) : Calls Tryz.prog 10 #[faultN c n, .int .i64 c, .int .i64 n] w fun e w' => e = .returned (.bool true) ∧ Below w.heap.size w w' := by
  have HE := Lib.hid hg
  have h0 : ¬ (c : Int) = 0 := by omega
  have h0' : ((c : Int) == 0) = false := by rw [beq_eq_false_iff_ne]; omega
  clear hg
  unfold faultN
  go_enter Tryz.func10, Tryz.ntmps10
  go_wp2_with fail
  refine (errAs.code_F c n _ HE.out).mono ?_
  rintro e w1 ⟨rfl, b1⟩
  have HE1 := Lib.hid (errT_below HE.out b1)
  have HB1 := Lib.hid b1
  clear b1
  go_wp2_with fail
  refine (errAs.at_F c n _ HE1.out).mono ?_
  rintro e w2 ⟨rfl, b2⟩
  have HB2 := Lib.hid (HB1.out.trans (b2.mono HB1.out.size))
  clear b2
  go_wp2_with fail
  go_ret
  exact ⟨rfl, HB2.out⟩
theorem told_any (c n : Nat) (w : World) (hg : ErrT w) : Calls Tryz.prog 10 #[errF c n, .int .i64 c, .int .i64 n] w fun e w' => e = .returned (.bool true) ∧ Below w.heap.size w w' := by
  by_cases hc : c = 0
  · subst hc
    exact (told_none n w).mono fun e w' ⟨h1, h2⟩ => ⟨h1, h2 ▸ Below.refl _ _⟩
  · unfold errF
    rw [if_neg hc]
    exact told_fault c n hc w hg
end Go.Proofs.YtdnmgemjhpkekaaGreatDoor
