/-
  schema's generic functions over a list of one element.
-/
import Derived.Test.YtijokgddfcfcbaaDoorNameB
import Derived.Test.YtijokgddfcfcbaaDoorArr
namespace Go.Proofs.YtijokgddfcfcbaaDoor
open Go.ChangeShapes Go.WideShapes Go.ChangeAt Go.RowKit
set_option linter.unusedVariables false

set_option maxRecDepth 100000 in
set_option maxHeartbeats 2000000 in
theorem idxDf {W : World} {g p : Nat} {b : Bool} {u0 u1 : Value} (hA : Arr W 34 g [u0, u1]) (HC : ∀ W', Below W.heap.size W W' → Calls Tryd.prog 28 #[.agg #[u0, u1], .pointer (some ⟨p, 0, none⟩)] W' fun r w' => r = .returned (.bool b) ∧ Below W'.heap.size W' w') :
    Calls Tryd.prog 40 #[.slice (some ⟨g, 0, none⟩) 1 1, .func (.func 28) #[] #[.pointer (some ⟨p, 0, none⟩)]] W fun r w' => r = .returned (.int .i64 (if b = true then 0 else -1)) ∧ Below W.heap.size W w' := by
  have HH := Lib.hid HC
  have a0 := hA.cell 0
  have a1 := hA.cell 1
  simp only [List.getElem?_cons_zero, List.getElem?_cons_succ] at a0 a1
  clear HC hA
  go_enter Tryd.func40, Tryd.ntmps40
  go_wp2_with fail
  refine wp_loop_rounds 2 ?_
  rw [rounds_succ]
  go_wp2_with fail
  refine (HH.out W (Below.refl _ _)).mono ?_
  rintro r w1 ⟨rfl, b1⟩
  have HB := Lib.hid b1
  clear b1
  cases b with
  | true =>
    go_wp2_with fail
    go_ret
    exact ⟨rfl, HB.out⟩
  | false =>
    go_wp2_with fail
    rw [rounds_succ]
    go_wp2_with fail
    go_ret
    exact ⟨rfl, HB.out⟩
set_option maxRecDepth 100000 in
set_option maxHeartbeats 2000000 in
theorem idxMf {W : World} {g p : Nat} {b : Bool} {u0 u1 u2 u3 u4 u5 u6 : Value} (hA : Arr W 27 g [u0, u1, u2, u3, u4, u5, u6]) (HC : ∀ W', Below W.heap.size W W' → Calls Tryd.prog 16 #[.agg #[u0, u1, u2, u3, u4, u5, u6], .pointer (some ⟨p, 0, none⟩)] W' fun r w' => r = .returned (.bool b) ∧ Below W'.heap.size W' w') :
    Calls Tryd.prog 29 #[.slice (some ⟨g, 0, none⟩) 1 1, .func (.func 16) #[] #[.pointer (some ⟨p, 0, none⟩)]] W fun r w' => r = .returned (.int .i64 (if b = true then 0 else -1)) ∧ Below W.heap.size W w' := by
  have HH := Lib.hid HC
  have a0 := hA.cell 0
  have a1 := hA.cell 1
  have a2 := hA.cell 2
  have a3 := hA.cell 3
  have a4 := hA.cell 4
  have a5 := hA.cell 5
  have a6 := hA.cell 6
  simp only [List.getElem?_cons_zero, List.getElem?_cons_succ] at a0 a1 a2 a3 a4 a5 a6
  clear HC hA
  go_enter Tryd.func29, Tryd.ntmps29
  go_wp2_with fail
  refine wp_loop_rounds 2 ?_
  rw [rounds_succ]
  go_wp2_with fail
  refine (HH.out W (Below.refl _ _)).mono ?_
  rintro r w1 ⟨rfl, b1⟩
  have HB := Lib.hid b1
  clear b1
  cases b with
  | true =>
    go_wp2_with fail
    go_ret
    exact ⟨rfl, HB.out⟩
  | false =>
    go_wp2_with fail
    rw [rounds_succ]
    go_wp2_with fail
    go_ret
    exact ⟨rfl, HB.out⟩
set_option maxRecDepth 100000 in
set_option maxHeartbeats 2000000 in
theorem idxDc {W : World} {g p : Nat} {b : Bool} {u0 u1 : Value} (hA : Arr W 34 g [u0, u1]) (HC : ∀ W', Below W.heap.size W W' → Calls Tryd.prog 31 #[.agg #[u0, u1], .pointer (some ⟨p, 0, none⟩)] W' fun r w' => r = .returned (.bool b) ∧ Below W'.heap.size W' w') :
    Calls Tryd.prog 40 #[.slice (some ⟨g, 0, none⟩) 1 1, .func (.func 31) #[] #[.pointer (some ⟨p, 0, none⟩)]] W fun r w' => r = .returned (.int .i64 (if b = true then 0 else -1)) ∧ Below W.heap.size W w' := by
  have HH := Lib.hid HC
  have a0 := hA.cell 0
  have a1 := hA.cell 1
  simp only [List.getElem?_cons_zero, List.getElem?_cons_succ] at a0 a1
  clear HC hA
  go_enter Tryd.func40, Tryd.ntmps40
  go_wp2_with fail
  refine wp_loop_rounds 2 ?_
  rw [rounds_succ]
  go_wp2_with fail
  refine (HH.out W (Below.refl _ _)).mono ?_
  rintro r w1 ⟨rfl, b1⟩
  have HB := Lib.hid b1
  clear b1
  cases b with
  | true =>
    go_wp2_with fail
    go_ret
    exact ⟨rfl, HB.out⟩
  | false =>
    go_wp2_with fail
    rw [rounds_succ]
    go_wp2_with fail
    go_ret
    exact ⟨rfl, HB.out⟩
set_option maxRecDepth 100000 in
set_option maxHeartbeats 2000000 in
theorem conD {W : World} {g p : Nat} {b : Bool} {u0 u1 : Value} (hA : Arr W 34 g [u0, u1]) (HC : ∀ W', Below W.heap.size W W' → Calls Tryd.prog 31 #[.agg #[u0, u1], .pointer (some ⟨p, 0, none⟩)] W' fun r w' => r = .returned (.bool b) ∧ Below W'.heap.size W' w') :
    Calls Tryd.prog 30 #[.slice (some ⟨g, 0, none⟩) 1 1, .func (.func 31) #[] #[.pointer (some ⟨p, 0, none⟩)]] W fun r w' => r = .returned (.bool b) ∧ Below W.heap.size W w' := by
  have HI := Lib.hid (idxDc hA HC)
  clear HC hA
  go_enter Tryd.func30, Tryd.ntmps30
  go_wp2_with fail
  refine HI.out.mono ?_
  rintro r w1 ⟨rfl, b1⟩
  have HB := Lib.hid b1
  clear b1
  cases b with
  | true =>
    go_wp2_with fail
    go_ret
    exact ⟨rfl, HB.out⟩
  | false =>
    go_wp2_with fail
    go_ret
    exact ⟨rfl, HB.out⟩
set_option maxRecDepth 100000 in
set_option maxHeartbeats 2000000 in
theorem cloD {W : World} {p : Nat} {b : Bool} {u0 u1 : Value} (hp : W.cell? ⟨p, 0, none⟩ = some (.func (.func 18) #[] #[])) (HS : ∀ W', Below W.heap.size W W' → Calls Tryd.prog 18 #[.agg #[u0, u1]] W' fun r w' => r = .returned (.bool b) ∧ Below W'.heap.size W' w') :
    Calls Tryd.prog 31 #[.agg #[u0, u1], .pointer (some ⟨p, 0, none⟩)] W fun r w' => r = .returned (.bool (!b)) ∧ Below W.heap.size W w' := by
  have HB0 : Hid (Below W.heap.size W (W.alloc (.cells #[u0, u1] 34))) := (Below.refl _ _).alloc (Nat.le_refl _) _
  have HH := Lib.hid (HS _ HB0.out)
  have hp1 := (HB0.out.cell (p := ⟨p, 0, none⟩) (World.block_lt_of_cell? W _ hp)).trans hp
  clear HS hp
  go_enter Tryd.func31, Tryd.ntmps31
  go_wp2_with fail
  refine HH.out.mono ?_
  rintro r w1 ⟨rfl, b1⟩
  have HB := Lib.hid (HB0.out.trans (b1.mono HB0.out.size))
  clear b1
  go_wp2_with fail
  go_ret
  exact ⟨rfl, HB.out⟩
set_option maxRecDepth 100000 in
set_option maxHeartbeats 2000000 in
theorem allD {W : World} {g : Nat} {b : Bool} {u0 u1 : Value} (hA : Arr W 34 g [u0, u1]) (HS : ∀ W', Below W.heap.size W W' → Calls Tryd.prog 18 #[.agg #[u0, u1]] W' fun r w' => r = .returned (.bool b) ∧ Below W'.heap.size W' w') :
    Calls Tryd.prog 17 #[.slice (some ⟨g, 0, none⟩) 1 1, .func (.func 18) #[] #[]] W fun r w' => r = .returned (.bool b) ∧ Below W.heap.size W w' := by
  have HB0 : Hid (Below W.heap.size W (W.alloc (.cells #[.func (.func 18) #[] #[]] 55))) := (Below.refl _ _).alloc (Nat.le_refl _) _
  have hbox : Arr (W.alloc (.cells #[.func (.func 18) #[] #[]] 55)) 55 W.heap.size [.func (.func 18) #[] #[]] := Arr.new' _ _ _ _ rfl
  have HI := Lib.hid (conD (p := W.heap.size) (b := !b) (hA.alloc _) fun W' hW => cloD (b := b) ((hW.cell (p := ⟨W.heap.size, 0, none⟩) hbox.lt).trans (hbox.cell 0)) fun W2 h2 => HS W2 (HB0.out.trans (((hW.trans (h2.mono hW.size))).mono HB0.out.size)))
  clear HS hA hbox
  go_enter Tryd.func17, Tryd.ntmps17
  go_wp2_with fail
  refine HI.out.mono ?_
  rintro r w1 ⟨rfl, b1⟩
  have HB := Lib.hid (HB0.out.trans (b1.mono HB0.out.size))
  clear b1
  go_wp2_with fail
  go_ret
  exact ⟨rfl, HB.out⟩
set_option maxRecDepth 100000 in
set_option maxHeartbeats 2000000 in
theorem idxMc {W : World} {g p : Nat} {b : Bool} {u0 u1 u2 u3 u4 u5 u6 : Value} (hA : Arr W 27 g [u0, u1, u2, u3, u4, u5, u6]) (HC : ∀ W', Below W.heap.size W W' → Calls Tryd.prog 46 #[.agg #[u0, u1, u2, u3, u4, u5, u6], .pointer (some ⟨p, 0, none⟩)] W' fun r w' => r = .returned (.bool b) ∧ Below W'.heap.size W' w') :
    Calls Tryd.prog 29 #[.slice (some ⟨g, 0, none⟩) 1 1, .func (.func 46) #[] #[.pointer (some ⟨p, 0, none⟩)]] W fun r w' => r = .returned (.int .i64 (if b = true then 0 else -1)) ∧ Below W.heap.size W w' := by
  have HH := Lib.hid HC
  have a0 := hA.cell 0
  have a1 := hA.cell 1
  have a2 := hA.cell 2
  have a3 := hA.cell 3
  have a4 := hA.cell 4
  have a5 := hA.cell 5
  have a6 := hA.cell 6
  simp only [List.getElem?_cons_zero, List.getElem?_cons_succ] at a0 a1 a2 a3 a4 a5 a6
  clear HC hA
  go_enter Tryd.func29, Tryd.ntmps29
  go_wp2_with fail
  refine wp_loop_rounds 2 ?_
  rw [rounds_succ]
  go_wp2_with fail
  refine (HH.out W (Below.refl _ _)).mono ?_
  rintro r w1 ⟨rfl, b1⟩
  have HB := Lib.hid b1
  clear b1
  cases b with
  | true =>
    go_wp2_with fail
    go_ret
    exact ⟨rfl, HB.out⟩
  | false =>
    go_wp2_with fail
    rw [rounds_succ]
    go_wp2_with fail
    go_ret
    exact ⟨rfl, HB.out⟩
set_option maxRecDepth 100000 in
set_option maxHeartbeats 2000000 in
theorem conM {W : World} {g p : Nat} {b : Bool} {u0 u1 u2 u3 u4 u5 u6 : Value} (hA : Arr W 27 g [u0, u1, u2, u3, u4, u5, u6]) (HC : ∀ W', Below W.heap.size W W' → Calls Tryd.prog 46 #[.agg #[u0, u1, u2, u3, u4, u5, u6], .pointer (some ⟨p, 0, none⟩)] W' fun r w' => r = .returned (.bool b) ∧ Below W'.heap.size W' w') :
    Calls Tryd.prog 45 #[.slice (some ⟨g, 0, none⟩) 1 1, .func (.func 46) #[] #[.pointer (some ⟨p, 0, none⟩)]] W fun r w' => r = .returned (.bool b) ∧ Below W.heap.size W w' := by
  have HI := Lib.hid (idxMc hA HC)
  clear HC hA
  go_enter Tryd.func45, Tryd.ntmps45
  go_wp2_with fail
  refine HI.out.mono ?_
  rintro r w1 ⟨rfl, b1⟩
  have HB := Lib.hid b1
  clear b1
  cases b with
  | true =>
    go_wp2_with fail
    go_ret
    exact ⟨rfl, HB.out⟩
  | false =>
    go_wp2_with fail
    go_ret
    exact ⟨rfl, HB.out⟩
set_option maxRecDepth 100000 in
set_option maxHeartbeats 2000000 in
theorem cloM {W : World} {p : Nat} {b : Bool} {u0 u1 u2 u3 u4 u5 u6 : Value} (hp : W.cell? ⟨p, 0, none⟩ = some (.func (.func 34) #[] #[])) (HS : ∀ W', Below W.heap.size W W' → Calls Tryd.prog 34 #[.agg #[u0, u1, u2, u3, u4, u5, u6]] W' fun r w' => r = .returned (.bool b) ∧ Below W'.heap.size W' w') :
    Calls Tryd.prog 46 #[.agg #[u0, u1, u2, u3, u4, u5, u6], .pointer (some ⟨p, 0, none⟩)] W fun r w' => r = .returned (.bool (!b)) ∧ Below W.heap.size W w' := by
  have HB0 : Hid (Below W.heap.size W (W.alloc (.cells #[u0, u1, u2, u3, u4, u5, u6] 27))) := (Below.refl _ _).alloc (Nat.le_refl _) _
  have HH := Lib.hid (HS _ HB0.out)
  have hp1 := (HB0.out.cell (p := ⟨p, 0, none⟩) (World.block_lt_of_cell? W _ hp)).trans hp
  clear HS hp
  go_enter Tryd.func46, Tryd.ntmps46
  go_wp2_with fail
  refine HH.out.mono ?_
  rintro r w1 ⟨rfl, b1⟩
  have HB := Lib.hid (HB0.out.trans (b1.mono HB0.out.size))
  clear b1
  go_wp2_with fail
  go_ret
  exact ⟨rfl, HB.out⟩
set_option maxRecDepth 100000 in
set_option maxHeartbeats 2000000 in
theorem allM {W : World} {g : Nat} {b : Bool} {u0 u1 u2 u3 u4 u5 u6 : Value} (hA : Arr W 27 g [u0, u1, u2, u3, u4, u5, u6]) (HS : ∀ W', Below W.heap.size W W' → Calls Tryd.prog 34 #[.agg #[u0, u1, u2, u3, u4, u5, u6]] W' fun r w' => r = .returned (.bool b) ∧ Below W'.heap.size W' w') :
    Calls Tryd.prog 33 #[.slice (some ⟨g, 0, none⟩) 1 1, .func (.func 34) #[] #[]] W fun r w' => r = .returned (.bool b) ∧ Below W.heap.size W w' := by
  have HB0 : Hid (Below W.heap.size W (W.alloc (.cells #[.func (.func 34) #[] #[]] 53))) := (Below.refl _ _).alloc (Nat.le_refl _) _
  have hbox : Arr (W.alloc (.cells #[.func (.func 34) #[] #[]] 53)) 53 W.heap.size [.func (.func 34) #[] #[]] := Arr.new' _ _ _ _ rfl
  have HI := Lib.hid (conM (p := W.heap.size) (b := !b) (hA.alloc _) fun W' hW => cloM (b := b) ((hW.cell (p := ⟨W.heap.size, 0, none⟩) hbox.lt).trans (hbox.cell 0)) fun W2 h2 => HS W2 (HB0.out.trans (((hW.trans (h2.mono hW.size))).mono HB0.out.size)))
  clear HS hA hbox
  go_enter Tryd.func33, Tryd.ntmps33
  go_wp2_with fail
  refine HI.out.mono ?_
  rintro r w1 ⟨rfl, b1⟩
  have HB := Lib.hid (HB0.out.trans (b1.mono HB0.out.size))
  clear b1
  go_wp2_with fail
  go_ret
  exact ⟨rfl, HB.out⟩
set_option maxRecDepth 100000 in
set_option maxHeartbeats 2000000 in
theorem idxAc {W : World} {g p : Nat} {b : Bool} {u0 u1 : Value} (hA : Arr W 29 g [u0, u1]) (HC : ∀ W', Below W.heap.size W W' → Calls Tryd.prog 56 #[.agg #[u0, u1], .pointer (some ⟨p, 0, none⟩)] W' fun r w' => r = .returned (.bool b) ∧ Below W'.heap.size W' w') :
    Calls Tryd.prog 64 #[.slice (some ⟨g, 0, none⟩) 1 1, .func (.func 56) #[] #[.pointer (some ⟨p, 0, none⟩)]] W fun r w' => r = .returned (.int .i64 (if b = true then 0 else -1)) ∧ Below W.heap.size W w' := by
  have HH := Lib.hid HC
  have a0 := hA.cell 0
  have a1 := hA.cell 1
  simp only [List.getElem?_cons_zero, List.getElem?_cons_succ] at a0 a1
  clear HC hA
  go_enter Tryd.func64, Tryd.ntmps64
  go_wp2_with fail
  refine wp_loop_rounds 2 ?_
  rw [rounds_succ]
  go_wp2_with fail
  refine (HH.out W (Below.refl _ _)).mono ?_
  rintro r w1 ⟨rfl, b1⟩
  have HB := Lib.hid b1
  clear b1
  cases b with
  | true =>
    go_wp2_with fail
    go_ret
    exact ⟨rfl, HB.out⟩
  | false =>
    go_wp2_with fail
    rw [rounds_succ]
    go_wp2_with fail
    go_ret
    exact ⟨rfl, HB.out⟩
set_option maxRecDepth 100000 in
set_option maxHeartbeats 2000000 in
theorem conA {W : World} {g p : Nat} {b : Bool} {u0 u1 : Value} (hA : Arr W 29 g [u0, u1]) (HC : ∀ W', Below W.heap.size W W' → Calls Tryd.prog 56 #[.agg #[u0, u1], .pointer (some ⟨p, 0, none⟩)] W' fun r w' => r = .returned (.bool b) ∧ Below W'.heap.size W' w') :
    Calls Tryd.prog 55 #[.slice (some ⟨g, 0, none⟩) 1 1, .func (.func 56) #[] #[.pointer (some ⟨p, 0, none⟩)]] W fun r w' => r = .returned (.bool b) ∧ Below W.heap.size W w' := by
  have HI := Lib.hid (idxAc hA HC)
  clear HC hA
  go_enter Tryd.func55, Tryd.ntmps55
  go_wp2_with fail
  refine HI.out.mono ?_
  rintro r w1 ⟨rfl, b1⟩
  have HB := Lib.hid b1
  clear b1
  cases b with
  | true =>
    go_wp2_with fail
    go_ret
    exact ⟨rfl, HB.out⟩
  | false =>
    go_wp2_with fail
    go_ret
    exact ⟨rfl, HB.out⟩
set_option maxRecDepth 100000 in
set_option maxHeartbeats 2000000 in
theorem cloA {W : World} {p : Nat} {b : Bool} {u0 u1 : Value} (hp : W.cell? ⟨p, 0, none⟩ = some (.func (.func 48) #[] #[])) (HS : ∀ W', Below W.heap.size W W' → Calls Tryd.prog 48 #[.agg #[u0, u1]] W' fun r w' => r = .returned (.bool b) ∧ Below W'.heap.size W' w') :
    Calls Tryd.prog 56 #[.agg #[u0, u1], .pointer (some ⟨p, 0, none⟩)] W fun r w' => r = .returned (.bool (!b)) ∧ Below W.heap.size W w' := by
  have HB0 : Hid (Below W.heap.size W (W.alloc (.cells #[u0, u1] 29))) := (Below.refl _ _).alloc (Nat.le_refl _) _
  have HH := Lib.hid (HS _ HB0.out)
  have hp1 := (HB0.out.cell (p := ⟨p, 0, none⟩) (World.block_lt_of_cell? W _ hp)).trans hp
  clear HS hp
  go_enter Tryd.func56, Tryd.ntmps56
  go_wp2_with fail
  refine HH.out.mono ?_
  rintro r w1 ⟨rfl, b1⟩
  have HB := Lib.hid (HB0.out.trans (b1.mono HB0.out.size))
  clear b1
  go_wp2_with fail
  go_ret
  exact ⟨rfl, HB.out⟩
set_option maxRecDepth 100000 in
set_option maxHeartbeats 2000000 in
theorem allA {W : World} {g : Nat} {b : Bool} {u0 u1 : Value} (hA : Arr W 29 g [u0, u1]) (HS : ∀ W', Below W.heap.size W W' → Calls Tryd.prog 48 #[.agg #[u0, u1]] W' fun r w' => r = .returned (.bool b) ∧ Below W'.heap.size W' w') :
    Calls Tryd.prog 47 #[.slice (some ⟨g, 0, none⟩) 1 1, .func (.func 48) #[] #[]] W fun r w' => r = .returned (.bool b) ∧ Below W.heap.size W w' := by
  have HB0 : Hid (Below W.heap.size W (W.alloc (.cells #[.func (.func 48) #[] #[]] 78))) := (Below.refl _ _).alloc (Nat.le_refl _) _
  have hbox : Arr (W.alloc (.cells #[.func (.func 48) #[] #[]] 78)) 78 W.heap.size [.func (.func 48) #[] #[]] := Arr.new' _ _ _ _ rfl
  have HI := Lib.hid (conA (p := W.heap.size) (b := !b) (hA.alloc _) fun W' hW => cloA (b := b) ((hW.cell (p := ⟨W.heap.size, 0, none⟩) hbox.lt).trans (hbox.cell 0)) fun W2 h2 => HS W2 (HB0.out.trans (((hW.trans (h2.mono hW.size))).mono HB0.out.size)))
  clear HS hA hbox
  go_enter Tryd.func47, Tryd.ntmps47
  go_wp2_with fail
  refine HI.out.mono ?_
  rintro r w1 ⟨rfl, b1⟩
  have HB := Lib.hid (HB0.out.trans (b1.mono HB0.out.size))
  clear b1
  go_wp2_with fail
  go_ret
  exact ⟨rfl, HB.out⟩
set_option maxRecDepth 100000 in
set_option maxHeartbeats 2000000 in
theorem fstD_true {W : World} {g p : Nat} {a : ByteArray} {q : Option Addr} {n c : Nat} (hA : Arr W 34 g [.string a, .slice q n c]) (HC : ∀ W', Below W.heap.size W W' → Calls Tryd.prog 28 #[.agg #[.string a, .slice q n c], .pointer (some ⟨p, 0, none⟩)] W' fun r w' => r = .returned (.bool true) ∧ Below W'.heap.size W' w') :
    Calls Tryd.prog 27 #[.slice (some ⟨g, 0, none⟩) 1 1, .func (.func 28) #[] #[.pointer (some ⟨p, 0, none⟩)]] W fun r w' => r = .returned (.tuple #[.agg #[.string a, .slice q n c], .bool true]) ∧ Below W.heap.size W w' := by
  have HB0 : Hid (Below W.heap.size W (W.alloc (.cells #[.string ByteArray.empty, .slice none 0 0] 34))) := (Below.refl _ _).alloc (Nat.le_refl _) _
  have HR0 : Hid (Arr (W.alloc (.cells #[.string ByteArray.empty, .slice none 0 0] 34)) 34 W.heap.size [.string ByteArray.empty, .slice none 0 0]) := Arr.new' _ _ _ _ rfl
  have HE0 := Lib.hid (hA.alloc (.cells #[.string ByteArray.empty, .slice none 0 0] 34))
  have hI := idxDf (b := true) HE0.out fun W' hW => HC W' (HB0.out.trans (hW.mono HB0.out.size))
  rw [show (if true = true then (0 : Int) else -1) = 0 from rfl] at hI
  have HI := Lib.hid hI
  clear HC hA hI
  go_enter Tryd.func27, Tryd.ntmps27
  go_wp2_with fail
  refine HI.out.mono ?_
  rintro r w1 ⟨rfl, b1⟩
  have HB := Lib.hid (HB0.out.trans (b1.mono HB0.out.size))
  have HR := Lib.hid (HR0.out.later b1)
  have HE := Lib.hid (HE0.out.later b1)
  clear b1
  have r0 := HR.out.cell 0
  have r1 := HR.out.cell 1
  have rf0 := HR.out.free 0
  have rf1 := HR.out.free 1
  simp only [List.getElem?_cons_zero, List.getElem?_cons_succ] at r0 r1
  have e0 := HE.out.cell 0
  have e1 := HE.out.cell 1
  have ef0 := HE.out.free 0
  have ef1 := HE.out.free 1
  simp only [List.getElem?_cons_zero, List.getElem?_cons_succ] at e0 e1
  go_wp2_with fail
  have hA := ((HR.out.set 0 (.string a)).set 1 (.slice q n c))
  have hB := ((HB.out.setCell (p := ⟨W.heap.size, 0, none⟩) (Nat.le_refl _) (.string a)).setCell (p := ⟨W.heap.size, 1, none⟩) (Nat.le_refl _) (.slice q n c))
  have c0 := hA.cell 0
  have c1 := hA.cell 1
  refine bodyPost_ret (v := .tuple #[.agg #[.string a, .slice q n c], .bool true]) ?_ rfl ⟨rfl, hB⟩
  simp only [List.set_cons_zero, List.set_cons_succ, List.getElem?_cons_zero, List.getElem?_cons_succ] at c0 c1
  simp [results, Tryd.results27, go_sem, c0, c1]
set_option maxRecDepth 100000 in
set_option maxHeartbeats 2000000 in
theorem fstD_false {W : World} {g p : Nat} {a : ByteArray} {q : Option Addr} {n c : Nat} (hA : Arr W 34 g [.string a, .slice q n c]) (HC : ∀ W', Below W.heap.size W W' → Calls Tryd.prog 28 #[.agg #[.string a, .slice q n c], .pointer (some ⟨p, 0, none⟩)] W' fun r w' => r = .returned (.bool false) ∧ Below W'.heap.size W' w') :
    Calls Tryd.prog 27 #[.slice (some ⟨g, 0, none⟩) 1 1, .func (.func 28) #[] #[.pointer (some ⟨p, 0, none⟩)]] W fun r w' => r = .returned (.tuple #[.agg #[.string ByteArray.empty, .slice none 0 0], .bool false]) ∧ Below W.heap.size W w' := by
  have HB0 : Hid (Below W.heap.size W (W.alloc (.cells #[.string ByteArray.empty, .slice none 0 0] 34))) := (Below.refl _ _).alloc (Nat.le_refl _) _
  have HR0 : Hid (Arr (W.alloc (.cells #[.string ByteArray.empty, .slice none 0 0] 34)) 34 W.heap.size [.string ByteArray.empty, .slice none 0 0]) := Arr.new' _ _ _ _ rfl
  have HE0 := Lib.hid (hA.alloc (.cells #[.string ByteArray.empty, .slice none 0 0] 34))
  have hI := idxDf (b := false) HE0.out fun W' hW => HC W' (HB0.out.trans (hW.mono HB0.out.size))
  rw [show (if false = true then (0 : Int) else -1) = -1 from rfl] at hI
  have HI := Lib.hid hI
  clear HC hA hI
  go_enter Tryd.func27, Tryd.ntmps27
  go_wp2_with fail
  refine HI.out.mono ?_
  rintro r w1 ⟨rfl, b1⟩
  have HB := Lib.hid (HB0.out.trans (b1.mono HB0.out.size))
  have HR := Lib.hid (HR0.out.later b1)
  have HE := Lib.hid (HE0.out.later b1)
  clear b1
  have r0 := HR.out.cell 0
  have r1 := HR.out.cell 1
  have rf0 := HR.out.free 0
  have rf1 := HR.out.free 1
  simp only [List.getElem?_cons_zero, List.getElem?_cons_succ] at r0 r1
  have e0 := HE.out.cell 0
  have e1 := HE.out.cell 1
  have ef0 := HE.out.free 0
  have ef1 := HE.out.free 1
  simp only [List.getElem?_cons_zero, List.getElem?_cons_succ] at e0 e1
  go_wp2_with fail
  have hA := ((HR.out.set 0 (.string ByteArray.empty)).set 1 (.slice none 0 0))
  have hB := ((HB.out.setCell (p := ⟨W.heap.size, 0, none⟩) (Nat.le_refl _) (.string ByteArray.empty)).setCell (p := ⟨W.heap.size, 1, none⟩) (Nat.le_refl _) (.slice none 0 0))
  have c0 := hA.cell 0
  have c1 := hA.cell 1
  refine bodyPost_ret (v := .tuple #[.agg #[.string ByteArray.empty, .slice none 0 0], .bool false]) ?_ rfl ⟨rfl, hB⟩
  simp only [List.set_cons_zero, List.set_cons_succ, List.getElem?_cons_zero, List.getElem?_cons_succ] at c0 c1
  simp [results, Tryd.results27, go_sem, c0, c1]
set_option maxRecDepth 100000 in
set_option maxHeartbeats 2000000 in
theorem fstM_true {W : World} {g p : Nat} {a : ByteArray} {k k2 : Int} {q q2 : Option Addr} {n c n2 cc2 : Nat} {s1 s2 : ByteArray} (hA : Arr W 27 g [.string a, .int .i64 k, .slice q n c, .int .i64 k2, .string s1, .string s2, .slice q2 n2 cc2]) (HC : ∀ W', Below W.heap.size W W' → Calls Tryd.prog 16 #[.agg #[.string a, .int .i64 k, .slice q n c, .int .i64 k2, .string s1, .string s2, .slice q2 n2 cc2], .pointer (some ⟨p, 0, none⟩)] W' fun r w' => r = .returned (.bool true) ∧ Below W'.heap.size W' w') :
    Calls Tryd.prog 15 #[.slice (some ⟨g, 0, none⟩) 1 1, .func (.func 16) #[] #[.pointer (some ⟨p, 0, none⟩)]] W fun r w' => r = .returned (.tuple #[.agg #[.string a, .int .i64 k, .slice q n c, .int .i64 k2, .string s1, .string s2, .slice q2 n2 cc2], .bool true]) ∧ Below W.heap.size W w' := by
  have HB0 : Hid (Below W.heap.size W (W.alloc (.cells #[.string ByteArray.empty, .int .i64 0, .slice none 0 0, .int .i64 0, .string ByteArray.empty, .string ByteArray.empty, .slice none 0 0] 27))) := (Below.refl _ _).alloc (Nat.le_refl _) _
  have HR0 : Hid (Arr (W.alloc (.cells #[.string ByteArray.empty, .int .i64 0, .slice none 0 0, .int .i64 0, .string ByteArray.empty, .string ByteArray.empty, .slice none 0 0] 27)) 27 W.heap.size [.string ByteArray.empty, .int .i64 0, .slice none 0 0, .int .i64 0, .string ByteArray.empty, .string ByteArray.empty, .slice none 0 0]) := Arr.new' _ _ _ _ rfl
  have HE0 := Lib.hid (hA.alloc (.cells #[.string ByteArray.empty, .int .i64 0, .slice none 0 0, .int .i64 0, .string ByteArray.empty, .string ByteArray.empty, .slice none 0 0] 27))
  have hI := idxMf (b := true) HE0.out fun W' hW => HC W' (HB0.out.trans (hW.mono HB0.out.size))
  rw [show (if true = true then (0 : Int) else -1) = 0 from rfl] at hI
  have HI := Lib.hid hI
  clear HC hA hI
  go_enter Tryd.func15, Tryd.ntmps15
  go_wp2_with fail
  refine HI.out.mono ?_
  rintro r w1 ⟨rfl, b1⟩
  have HB := Lib.hid (HB0.out.trans (b1.mono HB0.out.size))
  have HR := Lib.hid (HR0.out.later b1)
  have HE := Lib.hid (HE0.out.later b1)
  clear b1
  have r0 := HR.out.cell 0
  have r1 := HR.out.cell 1
  have r2 := HR.out.cell 2
  have r3 := HR.out.cell 3
  have r4 := HR.out.cell 4
  have r5 := HR.out.cell 5
  have r6 := HR.out.cell 6
  have rf0 := HR.out.free 0
  have rf1 := HR.out.free 1
  have rf2 := HR.out.free 2
  have rf3 := HR.out.free 3
  have rf4 := HR.out.free 4
  have rf5 := HR.out.free 5
  have rf6 := HR.out.free 6
  simp only [List.getElem?_cons_zero, List.getElem?_cons_succ] at r0 r1 r2 r3 r4 r5 r6
  have e0 := HE.out.cell 0
  have e1 := HE.out.cell 1
  have e2 := HE.out.cell 2
  have e3 := HE.out.cell 3
  have e4 := HE.out.cell 4
  have e5 := HE.out.cell 5
  have e6 := HE.out.cell 6
  have ef0 := HE.out.free 0
  have ef1 := HE.out.free 1
  have ef2 := HE.out.free 2
  have ef3 := HE.out.free 3
  have ef4 := HE.out.free 4
  have ef5 := HE.out.free 5
  have ef6 := HE.out.free 6
  simp only [List.getElem?_cons_zero, List.getElem?_cons_succ] at e0 e1 e2 e3 e4 e5 e6
  go_wp2_with fail
  have hA := (((((((HR.out.set 0 (.string a)).set 1 (.int .i64 k)).set 2 (.slice q n c)).set 3 (.int .i64 k2)).set 4 (.string s1)).set 5 (.string s2)).set 6 (.slice q2 n2 cc2))
  have hB := (((((((HB.out.setCell (p := ⟨W.heap.size, 0, none⟩) (Nat.le_refl _) (.string a)).setCell (p := ⟨W.heap.size, 1, none⟩) (Nat.le_refl _) (.int .i64 k)).setCell (p := ⟨W.heap.size, 2, none⟩) (Nat.le_refl _) (.slice q n c)).setCell (p := ⟨W.heap.size, 3, none⟩) (Nat.le_refl _) (.int .i64 k2)).setCell (p := ⟨W.heap.size, 4, none⟩) (Nat.le_refl _) (.string s1)).setCell (p := ⟨W.heap.size, 5, none⟩) (Nat.le_refl _) (.string s2)).setCell (p := ⟨W.heap.size, 6, none⟩) (Nat.le_refl _) (.slice q2 n2 cc2))
  have c0 := hA.cell 0
  have c1 := hA.cell 1
  have c2 := hA.cell 2
  have c3 := hA.cell 3
  have c4 := hA.cell 4
  have c5 := hA.cell 5
  have c6 := hA.cell 6
  refine bodyPost_ret (v := .tuple #[.agg #[.string a, .int .i64 k, .slice q n c, .int .i64 k2, .string s1, .string s2, .slice q2 n2 cc2], .bool true]) ?_ rfl ⟨rfl, hB⟩
  simp only [List.set_cons_zero, List.set_cons_succ, List.getElem?_cons_zero, List.getElem?_cons_succ] at c0 c1 c2 c3 c4 c5 c6
  simp [results, Tryd.results15, go_sem, c0, c1, c2, c3, c4, c5, c6]
set_option maxRecDepth 100000 in
set_option maxHeartbeats 2000000 in
theorem fstM_false {W : World} {g p : Nat} {a : ByteArray} {k k2 : Int} {q q2 : Option Addr} {n c n2 cc2 : Nat} {s1 s2 : ByteArray} (hA : Arr W 27 g [.string a, .int .i64 k, .slice q n c, .int .i64 k2, .string s1, .string s2, .slice q2 n2 cc2]) (HC : ∀ W', Below W.heap.size W W' → Calls Tryd.prog 16 #[.agg #[.string a, .int .i64 k, .slice q n c, .int .i64 k2, .string s1, .string s2, .slice q2 n2 cc2], .pointer (some ⟨p, 0, none⟩)] W' fun r w' => r = .returned (.bool false) ∧ Below W'.heap.size W' w') :
    Calls Tryd.prog 15 #[.slice (some ⟨g, 0, none⟩) 1 1, .func (.func 16) #[] #[.pointer (some ⟨p, 0, none⟩)]] W fun r w' => r = .returned (.tuple #[.agg #[.string ByteArray.empty, .int .i64 0, .slice none 0 0, .int .i64 0, .string ByteArray.empty, .string ByteArray.empty, .slice none 0 0], .bool false]) ∧ Below W.heap.size W w' := by
  have HB0 : Hid (Below W.heap.size W (W.alloc (.cells #[.string ByteArray.empty, .int .i64 0, .slice none 0 0, .int .i64 0, .string ByteArray.empty, .string ByteArray.empty, .slice none 0 0] 27))) := (Below.refl _ _).alloc (Nat.le_refl _) _
  have HR0 : Hid (Arr (W.alloc (.cells #[.string ByteArray.empty, .int .i64 0, .slice none 0 0, .int .i64 0, .string ByteArray.empty, .string ByteArray.empty, .slice none 0 0] 27)) 27 W.heap.size [.string ByteArray.empty, .int .i64 0, .slice none 0 0, .int .i64 0, .string ByteArray.empty, .string ByteArray.empty, .slice none 0 0]) := Arr.new' _ _ _ _ rfl
  have HE0 := Lib.hid (hA.alloc (.cells #[.string ByteArray.empty, .int .i64 0, .slice none 0 0, .int .i64 0, .string ByteArray.empty, .string ByteArray.empty, .slice none 0 0] 27))
  have hI := idxMf (b := false) HE0.out fun W' hW => HC W' (HB0.out.trans (hW.mono HB0.out.size))
  rw [show (if false = true then (0 : Int) else -1) = -1 from rfl] at hI
  have HI := Lib.hid hI
  clear HC hA hI
  go_enter Tryd.func15, Tryd.ntmps15
  go_wp2_with fail
  refine HI.out.mono ?_
  rintro r w1 ⟨rfl, b1⟩
  have HB := Lib.hid (HB0.out.trans (b1.mono HB0.out.size))
  have HR := Lib.hid (HR0.out.later b1)
  have HE := Lib.hid (HE0.out.later b1)
  clear b1
  have r0 := HR.out.cell 0
  have r1 := HR.out.cell 1
  have r2 := HR.out.cell 2
  have r3 := HR.out.cell 3
  have r4 := HR.out.cell 4
  have r5 := HR.out.cell 5
  have r6 := HR.out.cell 6
  have rf0 := HR.out.free 0
  have rf1 := HR.out.free 1
  have rf2 := HR.out.free 2
  have rf3 := HR.out.free 3
  have rf4 := HR.out.free 4
  have rf5 := HR.out.free 5
  have rf6 := HR.out.free 6
  simp only [List.getElem?_cons_zero, List.getElem?_cons_succ] at r0 r1 r2 r3 r4 r5 r6
  have e0 := HE.out.cell 0
  have e1 := HE.out.cell 1
  have e2 := HE.out.cell 2
  have e3 := HE.out.cell 3
  have e4 := HE.out.cell 4
  have e5 := HE.out.cell 5
  have e6 := HE.out.cell 6
  have ef0 := HE.out.free 0
  have ef1 := HE.out.free 1
  have ef2 := HE.out.free 2
  have ef3 := HE.out.free 3
  have ef4 := HE.out.free 4
  have ef5 := HE.out.free 5
  have ef6 := HE.out.free 6
  simp only [List.getElem?_cons_zero, List.getElem?_cons_succ] at e0 e1 e2 e3 e4 e5 e6
  go_wp2_with fail
  have hA := (((((((HR.out.set 0 (.string ByteArray.empty)).set 1 (.int .i64 0)).set 2 (.slice none 0 0)).set 3 (.int .i64 0)).set 4 (.string ByteArray.empty)).set 5 (.string ByteArray.empty)).set 6 (.slice none 0 0))
  have hB := (((((((HB.out.setCell (p := ⟨W.heap.size, 0, none⟩) (Nat.le_refl _) (.string ByteArray.empty)).setCell (p := ⟨W.heap.size, 1, none⟩) (Nat.le_refl _) (.int .i64 0)).setCell (p := ⟨W.heap.size, 2, none⟩) (Nat.le_refl _) (.slice none 0 0)).setCell (p := ⟨W.heap.size, 3, none⟩) (Nat.le_refl _) (.int .i64 0)).setCell (p := ⟨W.heap.size, 4, none⟩) (Nat.le_refl _) (.string ByteArray.empty)).setCell (p := ⟨W.heap.size, 5, none⟩) (Nat.le_refl _) (.string ByteArray.empty)).setCell (p := ⟨W.heap.size, 6, none⟩) (Nat.le_refl _) (.slice none 0 0))
  have c0 := hA.cell 0
  have c1 := hA.cell 1
  have c2 := hA.cell 2
  have c3 := hA.cell 3
  have c4 := hA.cell 4
  have c5 := hA.cell 5
  have c6 := hA.cell 6
  refine bodyPost_ret (v := .tuple #[.agg #[.string ByteArray.empty, .int .i64 0, .slice none 0 0, .int .i64 0, .string ByteArray.empty, .string ByteArray.empty, .slice none 0 0], .bool false]) ?_ rfl ⟨rfl, hB⟩
  simp only [List.set_cons_zero, List.set_cons_succ, List.getElem?_cons_zero, List.getElem?_cons_succ] at c0 c1 c2 c3 c4 c5 c6
  simp [results, Tryd.results15, go_sem, c0, c1, c2, c3, c4, c5, c6]
end Go.Proofs.YtijokgddfcfcbaaDoor
