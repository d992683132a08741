/-
  DigestShort's awake, continued: one empty definition has no form. (idxDc, conD, cloD, allD as in ScA.)
-/
import Derived.Test.YtngcmikblcoheaaGreatDoorDgD
namespace Go.Proofs.YtngcmikblcoheaaGreatDoor
open Go.ChangeShapes Go.WideShapes Go.ChangeAt Go.RowKit
set_option linter.unusedVariables false

set_option maxRecDepth 100000 in
set_option maxHeartbeats 2000000 in
theorem idxDc {W : World} {g p : Nat} {b : Bool} {u0 u1 : Value} (hA : Arr W 49 g [u0, u1]) (HC : ∀ W', Below W.heap.size W W' → Calls Tryz.prog 66 #[.agg #[u0, u1], .pointer (some ⟨p, 0, none⟩)] W' fun r w' => r = .returned (.bool b) ∧ Below W'.heap.size W' w') :
    Calls Tryz.prog 96 #[.slice (some ⟨g, 0, none⟩) 1 1, .func (.func 66) #[] #[.pointer (some ⟨p, 0, none⟩)]] W fun r w' => r = .returned (.int .i64 (if b = true then 0 else -1)) ∧ Below W.heap.size W w' := by
  have HH := Lib.hid HC
  have a0 := hA.cell 0
  have a1 := hA.cell 1
  simp only [List.getElem?_cons_zero, List.getElem?_cons_succ] at a0 a1
  clear HC hA
  go_enter Tryz.func96, Tryz.ntmps96
  go_wp2_with fail
  refine wp_loop_rounds 2 ?_
  rw [rounds_succ]
  go_wp2_with fail
  refine (HH.out W (Below.refl _ _)).mono ?_
  rintro r w1 ⟨rfl, b1⟩
  have HB := Lib.hid b1
  clear b1
  cases b with
  | true =>
    go_wp2_with fail
    go_ret
    exact ⟨rfl, HB.out⟩
  | false =>
    go_wp2_with fail
    rw [rounds_succ]
    go_wp2_with fail
    go_ret
    exact ⟨rfl, HB.out⟩

set_option maxRecDepth 100000 in
set_option maxHeartbeats 2000000 in
theorem conD {W : World} {g p : Nat} {b : Bool} {u0 u1 : Value} (hA : Arr W 49 g [u0, u1]) (HC : ∀ W', Below W.heap.size W W' → Calls Tryz.prog 66 #[.agg #[u0, u1], .pointer (some ⟨p, 0, none⟩)] W' fun r w' => r = .returned (.bool b) ∧ Below W'.heap.size W' w') :
    Calls Tryz.prog 65 #[.slice (some ⟨g, 0, none⟩) 1 1, .func (.func 66) #[] #[.pointer (some ⟨p, 0, none⟩)]] W fun r w' => r = .returned (.bool b) ∧ Below W.heap.size W w' := by
  have HI := Lib.hid (idxDc hA HC)
  clear HC hA
  go_enter Tryz.func65, Tryz.ntmps65
  go_wp2_with fail
  refine HI.out.mono ?_
  rintro r w1 ⟨rfl, b1⟩
  have HB := Lib.hid b1
  clear b1
  cases b with
  | true =>
    go_wp2_with fail
    go_ret
    exact ⟨rfl, HB.out⟩
  | false =>
    go_wp2_with fail
    go_ret
    exact ⟨rfl, HB.out⟩

set_option maxRecDepth 100000 in
set_option maxHeartbeats 2000000 in
theorem cloD {W : World} {p : Nat} {b : Bool} {u0 u1 : Value} (hp : W.cell? ⟨p, 0, none⟩ = some (.func (.func 42) #[] #[])) (HS : ∀ W', Below W.heap.size W W' → Calls Tryz.prog 42 #[.agg #[u0, u1]] W' fun r w' => r = .returned (.bool b) ∧ Below W'.heap.size W' w') :
    Calls Tryz.prog 66 #[.agg #[u0, u1], .pointer (some ⟨p, 0, none⟩)] W fun r w' => r = .returned (.bool (!b)) ∧ Below W.heap.size W w' := by
  have HB0 : Hid (Below W.heap.size W (W.alloc (.cells #[u0, u1] 49))) := (Below.refl _ _).alloc (Nat.le_refl _) _
  have HH := Lib.hid (HS _ HB0.out)
  have hp1 := (HB0.out.cell (p := ⟨p, 0, none⟩) (World.block_lt_of_cell? W _ hp)).trans hp
  clear HS hp
  go_enter Tryz.func66, Tryz.ntmps66
  go_wp2_with fail
  refine HH.out.mono ?_
  rintro r w1 ⟨rfl, b1⟩
  have HB := Lib.hid (HB0.out.trans (b1.mono HB0.out.size))
  clear b1
  go_wp2_with fail
  go_ret
  exact ⟨rfl, HB.out⟩

set_option maxRecDepth 100000 in
set_option maxHeartbeats 2000000 in
theorem allD {W : World} {g : Nat} {b : Bool} {u0 u1 : Value} (hA : Arr W 49 g [u0, u1]) (HS : ∀ W', Below W.heap.size W W' → Calls Tryz.prog 42 #[.agg #[u0, u1]] W' fun r w' => r = .returned (.bool b) ∧ Below W'.heap.size W' w') :
    Calls Tryz.prog 41 #[.slice (some ⟨g, 0, none⟩) 1 1, .func (.func 42) #[] #[]] W fun r w' => r = .returned (.bool b) ∧ Below W.heap.size W w' := by
  have HB0 : Hid (Below W.heap.size W (W.alloc (.cells #[.func (.func 42) #[] #[]] 86))) := (Below.refl _ _).alloc (Nat.le_refl _) _
  have hbox : Arr (W.alloc (.cells #[.func (.func 42) #[] #[]] 86)) 86 W.heap.size [.func (.func 42) #[] #[]] := Arr.new' _ _ _ _ rfl
  have HI := Lib.hid (conD (p := W.heap.size) (b := !b) (hA.alloc _) fun W' hW => cloD (b := b) ((hW.cell (p := ⟨W.heap.size, 0, none⟩) hbox.lt).trans (hbox.cell 0)) fun W2 h2 => HS W2 (HB0.out.trans (((hW.trans (h2.mono hW.size))).mono HB0.out.size)))
  clear HS hA hbox
  go_enter Tryz.func41, Tryz.ntmps41
  go_wp2_with fail
  refine HI.out.mono ?_
  rintro r w1 ⟨rfl, b1⟩
  have HB := Lib.hid (HB0.out.trans (b1.mono HB0.out.size))
  clear b1
  go_wp2_with fail
  go_ret
  exact ⟨rfl, HB.out⟩

set_option maxRecDepth 100000 in
set_option maxHeartbeats 2000000 in
theorem cons0 (fn : Fn) (q1 q2 : Array Value) (W : World) : Calls Tryz.prog 97 #[.string ByteArray.empty, .int .i64 64, .func fn q1 q2] W fun r w' => r = .returned (.bool false) ∧ Below W.heap.size W w' := by
  go_enter Tryz.func97, Tryz.ntmps97
  go_wp2_with fail
  go_ret
  exact ⟨rfl, Below.refl _ _⟩

set_option maxRecDepth 100000 in
set_option maxHeartbeats 2000000 in
theorem is0 (W : World) : Calls Tryz.prog 67 #[.string ByteArray.empty] W fun r w' => r = .returned (.bool false) ∧ Below W.heap.size W w' := by
  go_enter Tryz.func67, Tryz.ntmps67
  go_wp2_with fail
  refine (cons0 _ _ _ _).mono ?_
  rintro r w1 ⟨rfl, b1⟩
  go_wp2_with fail
  go_ret
  first | exact ⟨rfl, b1⟩ | exact ⟨rfl, ba b1⟩ | exact ⟨rfl, ba (ba b1)⟩

set_option maxRecDepth 100000 in
set_option maxHeartbeats 2000000 in
theorem hf0 (W : World) : Calls Tryz.prog 42 #[.agg #[.string ByteArray.empty, .slice none 0 0]] W fun r w' => r = .returned (.bool false) ∧ Below W.heap.size W w' := by
  go_enter Tryz.func42, Tryz.ntmps42
  go_wp2_with fail
  refine (is0 _).mono ?_
  rintro r w1 ⟨rfl, b1⟩
  go_wp2_with fail
  go_ret
  first | exact ⟨rfl, b1⟩ | exact ⟨rfl, ba b1⟩ | exact ⟨rfl, ba (ba b1)⟩

set_option maxRecDepth 100000 in
set_option maxHeartbeats 2000000 in
theorem form1 (W : World) (g : Nat) (hg : Arr W 49 g [.string ByteArray.empty, .slice none 0 0]) : Calls Tryz.prog 19 #[.agg #[.slice (some ⟨g, 0, none⟩) 1 1]] W fun r w' => r = .returned (.bool false) ∧ Below W.heap.size W w' := by
  have HA := Lib.hid (allD (b := false) (hg.alloc (.cells #[.slice (some ⟨g, 0, none⟩) 1 1] 32)) fun W' hW => hf0 W')
  go_enter Tryz.func19, Tryz.ntmps19
  go_wp2_with fail
  refine (HA.out).mono ?_
  rintro r w1 ⟨rfl, b1⟩
  go_wp2_with fail
  go_ret
  first | exact ⟨rfl, b1⟩ | exact ⟨rfl, ba b1⟩ | exact ⟨rfl, ba (ba b1)⟩

set_option maxRecDepth 100000 in
set_option maxHeartbeats 2000000 in
theorem chk1 (W : World) (g : Nat) (hg : Arr W 49 g [.string ByteArray.empty, .slice none 0 0]) : Calls Tryz.prog 30 #[.agg #[.slice (some ⟨g, 0, none⟩) 1 1]] W fun r w' => r = .returned (.iface 99 (.int .i64 6)) ∧ Below W.heap.size W w' := by
  have HA := Lib.hid (form1 _ g (hg.alloc (.cells #[.slice (some ⟨g, 0, none⟩) 1 1] 32)))
  go_enter Tryz.func30, Tryz.ntmps30
  go_wp2_with fail
  refine (HA.out).mono ?_
  rintro r w1 ⟨rfl, b1⟩
  go_wp2_with fail
  go_ret
  first | exact ⟨rfl, b1⟩ | exact ⟨rfl, ba b1⟩ | exact ⟨rfl, ba (ba b1)⟩

set_option maxRecDepth 100000 in
set_option maxHeartbeats 2000000 in
theorem right1 (W : World) (g : Nat) (hg : Arr W 49 g [.string ByteArray.empty, .slice none 0 0]) : Calls Tryz.prog 16 #[.agg #[.slice (some ⟨g, 0, none⟩) 1 1]] W fun r w' => r = .returned (.bool false) ∧ Below W.heap.size W w' := by
  have HA := Lib.hid (chk1 _ g (hg.alloc (.cells #[.slice (some ⟨g, 0, none⟩) 1 1] 32)))
  go_enter Tryz.func16, Tryz.ntmps16
  go_wp2_with fail
  refine (HA.out).mono ?_
  rintro r w1 ⟨rfl, b1⟩
  go_wp2_with fail
  go_ret
  first | exact ⟨rfl, b1⟩ | exact ⟨rfl, ba b1⟩ | exact ⟨rfl, ba (ba b1)⟩

end Go.Proofs.YtngcmikblcoheaaGreatDoor
