/-
  fault.within's Unwrap, errors.Unwrap.
-/
import Derived.Test.YtnbeeahfohfgoaaDoorFltE
namespace Go.Proofs.YtnbeeahfohfgoaaDoor
open Go.ChangeShapes Go.WideShapes Go.ChangeAt Go.RowKit
set_option linter.unusedVariables false

set_option maxRecDepth 100000 in
theorem within_unwrap (p : ByteArray) (v : Value) (w : World) : Calls Tryd.prog 68 #[.agg #[.string p, v]] w fun e w' => e = .returned v ∧ Below w.heap.size w w' := by
  go_enter Tryd.func68, Tryd.ntmps68
  go_wp2_with fail
  go_ret
  exact ⟨rfl, (Below.refl _ _).alloc (Nat.le_refl _) _⟩
theorem unwrap_W (v : Value) (w : World) : (Go.method 235 52 v "Unwrap").run Tryd.prog w = .ok (68, v) w := by kernel_rfl
theorem assert_W (v : Value) (w : World) : (Instr.typeAssert (.iface 52 v) 28 53 true).run Tryd.prog w = .ok (.tuple #[.iface 52 v, .bool true]) w := by kernel_rfl
set_option maxRecDepth 100000 in
theorem eunwrap_any (p : ByteArray) (v : Value) (w : World) : Calls Tryd.prog 14 #[.iface 52 (.agg #[.string p, v])] w fun e w' => e = .returned v ∧ Below w.heap.size w w' := by
  have M := unwrap_W
  have T := assert_W
  go_enter Tryd.func14, Tryd.ntmps14
  go_wp2_with fail
  refine (within_unwrap p v w).mono ?_
  rintro e w1 ⟨rfl, b1⟩
  have HB := Lib.hid b1
  clear b1
  go_wp2_with fail
  go_ret
  exact ⟨rfl, HB.out⟩
end Go.Proofs.YtnbeeahfohfgoaaDoor
