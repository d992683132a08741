/-
  DigestShort's awake, continued: what is written for an empty schema.
-/
import Derived.Test.YtngcmikblcoheaaGreatDoorDgA
import Derived.Test.YtngcmikblcoheaaGreatDoorSame
import Derived.Test.YtngcmikblcoheaaGreatDoorOwnF
namespace Go.Proofs.YtngcmikblcoheaaGreatDoor
open Go.ChangeShapes Go.WideShapes Go.ChangeAt Go.RowKit
set_option linter.unusedVariables false
def OwnT (W : World) (l : List UInt8) (r : Ending) (w' : World) : Prop := ∃ v, r = .returned (.tuple #[v, .bool true]) ∧ w'.ownsRow W.heap.size 5 1 v l.length (bvs l) ∧ Below W.heap.size W w'

set_option maxRecDepth 100000 in
set_option maxHeartbeats 2000000 in
theorem pc0 (W : World) : Calls Tryz.prog 20 #[.int .i64 0] W (Owned W (put 0)) := by
  have HP : Hid (∀ w, Calls Tryz.prog 43 #[.int .u64 0] w (Owned w (put 0))) := fun w => wput 0 (by decide) w
  go_enter Tryz.func20, Tryz.ntmps20
  go_wp2_with fail
  refine (HP.out _).mono ?_
  rintro e w1 ⟨v, rfl, ho, hb⟩
  have HO := Lib.hid (And.intro ho hb)
  clear ho hb
  go_wp2_with fail
  go_ret
  exact ⟨v, rfl, HO.out.1, HO.out.2⟩

set_option maxRecDepth 100000 in
set_option maxHeartbeats 2000000 in
theorem cput0 (W : World) : Calls Tryz.prog 11 #[.agg #[.slice none 0 0]] W (OwnT W (put 0)) := by
  go_enter Tryz.func11, Tryz.ntmps11
  go_wp2_with fail
  refine (form0 _).mono ?_
  rintro r w1 ⟨rfl, b1⟩
  have HX := Lib.hid ((Arr.new' W 32 #[.slice none 0 0] _ rfl).later b1)
  have x0 := HX.out.cell 0
  have y0 := HX.out.free 0
  simp only [List.getElem?_cons_zero] at x0
  go_wp2_with fail
  refine (pc0 _).mono ?_
  rintro e w2 ⟨v, rfl, ho, hb⟩
  have HO := Lib.hid (And.intro ho (And.intro (ba b1) hb))
  clear x0 y0
  have HX := Lib.hid (HX.out.later hb)
  have x0 := HX.out.cell 0
  have y0 := HX.out.free 0
  simp only [List.getElem?_cons_zero] at x0
  clear ho hb b1
  go_wp2_with fail
  refine wp_loop_rounds 1 ?_
  rw [rounds_succ]
  go_wp2_with fail
  go_ret2
  exact ⟨v, rfl, own_le HO.out.1 HO.out.2.1.size, HO.out.2.1.trans (HO.out.2.2.mono HO.out.2.1.size)⟩

set_option maxRecDepth 100000 in
set_option maxHeartbeats 2000000 in
theorem bstr0 (W : World) (b : Nat) (hb : Arr W 66 b [.pointer none, .slice none 0 0]) : Calls Tryz.prog 29 #[.pointer (some ⟨b, 0, none⟩)] W fun r w' => r = .returned (.string ⟨#[]⟩) ∧ Below W.heap.size W w' := by
  have r0 := hb.cell 0
  have r1 := hb.cell 1
  have f0 := hb.free 0
  have f1 := hb.free 1
  simp only [List.getElem?_cons_zero, List.getElem?_cons_succ] at r0 r1
  have q1 : ∀ w, Sem.run Tryz.prog (Builtin.unsafeSliceData_ #[27] 98 #[.slice none 0 0]) w = .ok (.pointer none) w := fun w => by kernel_rfl
  have q2 : ∀ w, Sem.run Tryz.prog (Builtin.unsafeString_ #[98, 3] 9 #[.pointer none, .int .i64 0]) w = .ok (.string ⟨#[]⟩) w := fun w => by kernel_rfl
  go_enter Tryz.func29, Tryz.ntmps29
  go_wp2_with fail
  go_region
  go_wp2_with fail
  go_ret
  exact ⟨rfl, (Below.refl _ _).drew⟩

end Go.Proofs.YtngcmikblcoheaaGreatDoor
