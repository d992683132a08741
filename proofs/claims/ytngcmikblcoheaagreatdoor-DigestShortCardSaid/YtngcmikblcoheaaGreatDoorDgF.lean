/-
  DigestShort's awake, continued: Input of a schema that is not right.
-/
import Derived.Test.YtngcmikblcoheaaGreatDoorDgE
namespace Go.Proofs.YtngcmikblcoheaaGreatDoor
open Go.ChangeShapes Go.WideShapes Go.ChangeAt Go.RowKit
set_option linter.unusedVariables false

set_option maxRecDepth 100000 in
set_option maxHeartbeats 2000000 in
theorem canB1 (W : World) (g : Nat) (hg : Arr W 49 g [.string ByteArray.empty, .slice none 0 0]) : Calls Tryz.prog 12 #[.agg #[.func (.func 11) #[] #[]], .agg #[.slice (some ⟨g, 0, none⟩) 1 1]] W fun r w' => r = .returned (.tuple #[.slice none 0 0, .bool false]) ∧ Below W.heap.size W w' := by
  have HA := Lib.hid (right1 _ g ((hg.alloc (.cells #[.func (.func 11) #[] #[]] 40)).alloc (.cells #[.slice (some ⟨g, 0, none⟩) 1 1] 32)))
  go_enter Tryz.func12, Tryz.ntmps12
  go_wp2_with fail
  refine (HA.out).mono ?_
  rintro r w1 ⟨rfl, b1⟩
  go_wp2_with fail
  go_ret2
  first | exact ⟨rfl, b1⟩ | exact ⟨rfl, ba b1⟩ | exact ⟨rfl, ba (ba b1)⟩

set_option maxRecDepth 100000 in
set_option maxHeartbeats 2000000 in
theorem input1 (W : World) (g : Nat) (hg : Arr W 49 g [.string ByteArray.empty, .slice none 0 0]) : Calls Tryz.prog 6 #[.agg #[.slice (some ⟨g, 0, none⟩) 1 1]] W fun r w' => r = .returned (.tuple #[.slice none 0 0, .bool false]) ∧ Below W.heap.size W w' := by
  have HA := Lib.hid (canB1 _ g (hg.alloc (.cells #[.slice (some ⟨g, 0, none⟩) 1 1] 32)))
  go_enter Tryz.func6, Tryz.ntmps6
  go_wp2_with fail
  refine (HA.out).mono ?_
  rintro r w1 ⟨rfl, b1⟩
  go_wp2_with fail
  go_ret2
  first | exact ⟨rfl, b1⟩ | exact ⟨rfl, ba b1⟩ | exact ⟨rfl, ba (ba b1)⟩

end Go.Proofs.YtngcmikblcoheaaGreatDoor
