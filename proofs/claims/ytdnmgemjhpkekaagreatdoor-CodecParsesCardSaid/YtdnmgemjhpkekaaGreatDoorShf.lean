/-
  fault.Shift of a code.
-/
import Derived.Test.YtdnmgemjhpkekaaGreatDoorTold
import Derived.Test.YtdnmgemjhpkekaaGreatDoorErrCode
namespace Go.Proofs.YtdnmgemjhpkekaaGreatDoor
open Go.ChangeShapes Go.WideShapes Go.ChangeAt Go.RowKit
open errAs (ErrT)
set_option linter.unusedVariables false

set_option maxRecDepth 100000 in
theorem shift_Cn (c n : Nat) (w : World) (hg : ErrT w) (hn : n ≤ 1000000000000) :
    Calls Tryz.prog 72 #[.iface 73 (.int .i64 c), .int .i64 n] w fun e w' => e = .returned (faultN c n) ∧ Below w.heap.size w w' := by
  have HE := Lib.hid hg
  have h0 : -9223372036854775808 ≤ (n : Int) := by omega
  have h1 : (n : Int) ≤ 9223372036854775807 := by omega
  clear hg
  go_enter Tryz.func72, Tryz.ntmps72
  go_wp2_with fail
  refine (errAs.code_C c _ HE.out).mono ?_
  rintro e w1 ⟨rfl, b1⟩
  have HE1 := Lib.hid (errT_below HE.out b1)
  have HB1 := Lib.hid b1
  clear b1
  go_wp2_with fail
  refine (errAs.at_C c _ HE1.out).mono ?_
  rintro e w2 ⟨rfl, b2⟩
  have HB2 := Lib.hid (HB1.out.trans (b2.mono HB1.out.size))
  clear b2
  go_wp2_with fail
  refine (fnew_any _ _ _).mono ?_
  rintro e w3 ⟨rfl, rfl⟩
  go_wp2_with fail
  go_ret
  exact ⟨rfl, HB2.out⟩
end Go.Proofs.YtdnmgemjhpkekaaGreatDoor
