/-
  What DigestShort's awake calls, on an empty schema and on one empty definition.
-/
import Derived.WalkKit
import Derived.Test.YtngcmikblcoheaaGreatDoorArr
import Derived.Test.YtngcmikblcoheaaGreatDoorPut
namespace Go.Proofs.YtngcmikblcoheaaGreatDoor
open Go.ChangeShapes Go.WideShapes Go.ChangeAt Go.RowKit
set_option linter.unusedVariables false

theorem ba {W w1 : World} {b : Obj} (h : Below (W.alloc b).heap.size (W.alloc b) w1) : Below W.heap.size W w1 :=
  ((Below.refl _ _).alloc (Nat.le_refl _) _).trans (h.mono (by simp [World.size_alloc]))
theorem eqSlD0 (w : World) : (binOp BinOp.eql 30 (.slice none 0 0) (.slice none 0 0)).run Tryz.prog w = .ok (.bool true) w := by kernel_rfl

set_option maxRecDepth 100000 in
set_option maxHeartbeats 2000000 in
theorem idx0 (fn : Fn) (q1 q2 : Array Value) (W : World) : Calls Tryz.prog 96 #[.slice none 0 0, .func fn q1 q2] W fun r w' => r = .returned (.int .i64 (-1)) ∧ Below W.heap.size W w' := by
  go_enter Tryz.func96, Tryz.ntmps96
  go_wp2_with fail
  refine wp_loop_rounds 1 ?_
  rw [rounds_succ]
  go_wp2_with fail
  go_ret
  exact ⟨rfl, Below.refl _ _⟩

set_option maxRecDepth 100000 in
set_option maxHeartbeats 2000000 in
theorem con0 (fn : Fn) (q1 q2 : Array Value) (W : World) : Calls Tryz.prog 65 #[.slice none 0 0, .func fn q1 q2] W fun r w' => r = .returned (.bool false) ∧ Below W.heap.size W w' := by
  go_enter Tryz.func65, Tryz.ntmps65
  go_wp2_with fail
  refine (idx0 _ _ _ _).mono ?_
  rintro r w1 ⟨rfl, b1⟩
  go_wp2_with fail
  go_ret
  first | exact ⟨rfl, b1⟩ | exact ⟨rfl, ba b1⟩ | exact ⟨rfl, ba (ba b1)⟩

set_option maxRecDepth 100000 in
set_option maxHeartbeats 2000000 in
theorem all0 (fn : Fn) (q1 q2 : Array Value) (W : World) : Calls Tryz.prog 41 #[.slice none 0 0, .func fn q1 q2] W fun r w' => r = .returned (.bool true) ∧ Below W.heap.size W w' := by
  go_enter Tryz.func41, Tryz.ntmps41
  go_wp2_with fail
  refine (con0 _ _ _ _).mono ?_
  rintro r w1 ⟨rfl, b1⟩
  go_wp2_with fail
  go_ret
  first | exact ⟨rfl, b1⟩ | exact ⟨rfl, ba b1⟩ | exact ⟨rfl, ba (ba b1)⟩

set_option maxRecDepth 100000 in
set_option maxHeartbeats 2000000 in
theorem form0 (W : World) : Calls Tryz.prog 19 #[.agg #[.slice none 0 0]] W fun r w' => r = .returned (.bool true) ∧ Below W.heap.size W w' := by
  go_enter Tryz.func19, Tryz.ntmps19
  go_wp2_with fail
  refine (all0 _ _ _ _).mono ?_
  rintro r w1 ⟨rfl, b1⟩
  go_wp2_with fail
  go_ret
  first | exact ⟨rfl, b1⟩ | exact ⟨rfl, ba b1⟩ | exact ⟨rfl, ba (ba b1)⟩

set_option maxRecDepth 100000 in
set_option maxHeartbeats 2000000 in
theorem chk0 (W : World) : Calls Tryz.prog 30 #[.agg #[.slice none 0 0]] W fun r w' => r = .returned .nilIface ∧ Below W.heap.size W w' := by
  have hmm := @run_makeMap Tryz.prog
  go_enter Tryz.func30, Tryz.ntmps30
  go_wp2_with fail
  refine (form0 _).mono ?_
  rintro r w1 ⟨rfl, b1⟩
  have HX := Lib.hid (((Arr.new' W 32 #[.slice none 0 0] _ rfl).later b1).alloc (.map #[] 0))
  have x0 := HX.out.cell 0
  have y0 := HX.out.free 0
  simp only [List.getElem?_cons_zero] at x0
  go_wp2_with fail
  refine wp_loop_rounds 1 ?_
  rw [rounds_succ]
  go_wp2_with fail
  go_ret
  exact ⟨rfl, (ba b1).alloc (ba b1).size _⟩

set_option maxRecDepth 100000 in
set_option maxHeartbeats 2000000 in
theorem right0 (W : World) : Calls Tryz.prog 16 #[.agg #[.slice none 0 0]] W fun r w' => r = .returned (.bool true) ∧ Below W.heap.size W w' := by
  go_enter Tryz.func16, Tryz.ntmps16
  go_wp2_with fail
  refine (chk0 _).mono ?_
  rintro r w1 ⟨rfl, b1⟩
  go_wp2_with fail
  go_ret
  first | exact ⟨rfl, b1⟩ | exact ⟨rfl, ba b1⟩ | exact ⟨rfl, ba (ba b1)⟩

set_option maxRecDepth 100000 in
set_option maxHeartbeats 2000000 in
theorem clone0 (W : World) : Calls Tryz.prog 55 #[.slice none 0 0] W fun r w' => r = .returned (.slice none 0 0) ∧ Below W.heap.size W w' := by
  have hq := eqSlD0
  go_enter Tryz.func55, Tryz.ntmps55
  go_wp2_with fail
  go_ret
  exact ⟨rfl, Below.refl _ _⟩

set_option maxRecDepth 100000 in
set_option maxHeartbeats 2000000 in
theorem sclone0 (W : World) : Calls Tryz.prog 33 #[.agg #[.slice none 0 0]] W fun r w' => r = .returned (.agg #[.slice none 0 0]) ∧ Below W.heap.size W w' := by
  go_enter Tryz.func33, Tryz.ntmps33
  go_wp2_with fail
  refine (clone0 _).mono ?_
  rintro r w1 ⟨rfl, b1⟩
  have HR := (Arr.new' (W.alloc (.cells #[.slice none 0 0] 32)) 32 #[.slice none 0 0] _ rfl).later b1
  rw [World.size_alloc] at HR
  have HR := Lib.hid HR
  have HB := Lib.hid (ba (ba b1))
  have r0 := HR.out.cell 0
  have f0 := HR.out.free 0
  simp only [List.getElem?_cons_zero] at r0
  go_wp2_with fail
  refine wp_loop_rounds 1 ?_
  rw [rounds_succ]
  go_wp2_with fail
  have hA := HR.out.set 0 (.slice none 0 0)
  have hB := HB.out.setCell (p := ⟨W.heap.size + 1, 0, none⟩) (Nat.le_succ _) (.slice none 0 0)
  have c0 := hA.cell 0
  refine bodyPost_ret (v := .agg #[.slice none 0 0]) ?_ rfl ⟨rfl, hB⟩
  simp only [List.set_cons_zero, List.getElem?_cons_zero] at c0
  simp [results, Tryz.results33, go_sem, c0]

set_option maxRecDepth 100000 in
set_option maxHeartbeats 2000000 in
theorem ins0 (fn : Fn) (q1 q2 : Array Value) (W : World) : Calls Tryz.prog 83 #[.slice none 0 0, .int .i64 0, .int .i64 0, .func fn q1 q2] W fun r w' => r = .returned (.tuple #[]) ∧ Below W.heap.size W w' := by
  go_enter Tryz.func83, Tryz.ntmps83
  go_wp2_with fail
  refine wp_loop_rounds 1 ?_
  rw [rounds_succ]
  go_wp2_with fail
  go_end0
  exact ⟨rfl, Below.refl _ _⟩

set_option maxRecDepth 100000 in
set_option maxHeartbeats 2000000 in
theorem stab0 (fn : Fn) (q1 q2 : Array Value) (W : World) : Calls Tryz.prog 57 #[.slice none 0 0, .int .i64 0, .func fn q1 q2] W fun r w' => r = .returned (.tuple #[]) ∧ Below W.heap.size W w' := by
  go_enter Tryz.func57, Tryz.ntmps57
  go_wp2_with fail
  refine wp_loop_rounds 1 ?_
  rw [rounds_succ]
  go_wp2_with fail
  refine (ins0 _ _ _ _).mono ?_
  rintro r w1 ⟨rfl, b1⟩
  go_wp2_with fail
  refine wp_loop_rounds 1 ?_
  rw [rounds_succ]
  go_wp2_with fail
  go_end0
  first | exact ⟨rfl, b1⟩ | exact ⟨rfl, ba b1⟩ | exact ⟨rfl, ba (ba b1)⟩

set_option maxRecDepth 100000 in
set_option maxHeartbeats 2000000 in
theorem sortst0 (fn : Fn) (q1 q2 : Array Value) (W : World) : Calls Tryz.prog 34 #[.slice none 0 0, .func fn q1 q2] W fun r w' => r = .returned (.tuple #[]) ∧ Below W.heap.size W w' := by
  go_enter Tryz.func34, Tryz.ntmps34
  go_wp2_with fail
  refine (stab0 _ _ _ _).mono ?_
  rintro r w1 ⟨rfl, b1⟩
  go_wp2_with fail
  go_end0
  first | exact ⟨rfl, b1⟩ | exact ⟨rfl, ba b1⟩ | exact ⟨rfl, ba (ba b1)⟩

set_option maxRecDepth 100000 in
set_option maxHeartbeats 2000000 in
theorem canon0 (W : World) : Calls Tryz.prog 18 #[.agg #[.slice none 0 0]] W fun r w' => r = .returned (.agg #[.slice none 0 0]) ∧ Below W.heap.size W w' := by
  go_enter Tryz.func18, Tryz.ntmps18
  go_wp2_with fail
  refine (sclone0 _).mono ?_
  rintro r w1 ⟨rfl, b1⟩
  have HR := (Arr.new' (W.alloc (.cells #[.slice none 0 0] 32)) 32 #[.slice none 0 0] _ rfl).later b1
  rw [World.size_alloc] at HR
  have HR := Lib.hid HR
  have HB := Lib.hid (ba (ba b1))
  have r0 := HR.out.cell 0
  have f0 := HR.out.free 0
  simp only [List.getElem?_cons_zero] at r0
  go_wp2_with fail
  refine (sortst0 _ _ _ _).mono ?_
  rintro r w2 ⟨rfl, b2⟩
  have HC := Lib.hid ((Arr.new' w1 32 #[.slice none 0 0] _ rfl).later b2)
  have HR := Lib.hid ((HR.out.alloc _).later b2)
  have HB := Lib.hid (HB.out.trans ((ba b2).mono HB.out.size))
  clear r0 f0
  have r0 := HR.out.cell 0
  have f0 := HR.out.free 0
  have c0 := HC.out.cell 0
  have d0 := HC.out.free 0
  simp only [List.getElem?_cons_zero] at r0 c0
  go_wp2_with fail
  refine wp_loop_rounds 1 ?_
  rw [rounds_succ]
  go_wp2_with fail
  have hA := HR.out.set 0 (.slice none 0 0)
  have hB := HB.out.setCell (p := ⟨W.heap.size + 1, 0, none⟩) (Nat.le_succ _) (.slice none 0 0)
  have c0 := hA.cell 0
  refine bodyPost_ret (v := .agg #[.slice none 0 0]) ?_ rfl ⟨rfl, hB⟩
  simp only [List.set_cons_zero, List.getElem?_cons_zero] at c0
  simp [results, Tryz.results18, go_sem, c0]

set_option maxRecDepth 100000 in
set_option maxHeartbeats 2000000 in
theorem eqf0 (fn : Fn) (q1 q2 : Array Value) (W : World) : Calls Tryz.prog 31 #[.slice none 0 0, .slice none 0 0, .func fn q1 q2] W fun r w' => r = .returned (.bool true) ∧ Below W.heap.size W w' := by
  go_enter Tryz.func31, Tryz.ntmps31
  go_wp2_with fail
  refine wp_loop_rounds 1 ?_
  rw [rounds_succ]
  go_wp2_with fail
  go_ret
  exact ⟨rfl, Below.refl _ _⟩

set_option maxRecDepth 100000 in
set_option maxHeartbeats 2000000 in
theorem same0 (W : World) : Calls Tryz.prog 17 #[.agg #[.slice none 0 0], .agg #[.slice none 0 0]] W fun r w' => r = .returned (.bool true) ∧ Below W.heap.size W w' := by
  go_enter Tryz.func17, Tryz.ntmps17
  go_wp2_with fail
  refine (eqf0 _ _ _ _).mono ?_
  rintro r w1 ⟨rfl, b1⟩
  go_wp2_with fail
  go_ret
  first | exact ⟨rfl, b1⟩ | exact ⟨rfl, ba b1⟩ | exact ⟨rfl, ba (ba b1)⟩

end Go.Proofs.YtngcmikblcoheaaGreatDoor
