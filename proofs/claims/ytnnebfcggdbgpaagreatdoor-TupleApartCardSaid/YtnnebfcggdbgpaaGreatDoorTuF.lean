/-
  tuple.isUserset, tuple.visit, tuple.Right.
-/
import Derived.Test.YtnnebfcggdbgpaaGreatDoorTuB
import Derived.Test.YtnnebfcggdbgpaaGreatDoorNameP
namespace Go.Proofs.YtnnebfcggdbgpaaGreatDoor
open Go.ChangeShapes Go.WideShapes Go.ChangeAt Go.RowKit
set_option linter.unusedVariables false

set_option maxRecDepth 100000 in
theorem isUs_any (s : ByteArray) (w : World) (hr : ResT w) : Calls Tryz.prog 100 #[.string s] w fun e w' => e = .returned (.bool (isUs s)) ∧ Below w.heap.size w w' := by
  by_cases h0 : s = e0
  · subst h0
    go_enter Tryz.func100, Tryz.ntmps100
    unfold e0
    go_wp2_with fail
    go_ret
    exact ⟨rfl, Below.refl _ _⟩
  · have H : Hid (isUs s = isName s) := by show _ = _; unfold isUs; simp [h0]
    have HC := Lib.hid (isName_any s w hr)
    obtain ⟨n1, n2⟩ := empty_ne h0
    clear h0
    go_enter Tryz.func100, Tryz.ntmps100
    go_wp2_with fail
    refine HC.out.mono ?_
    rintro e w1 ⟨rfl, b1⟩
    go_wp2_with fail
    go_ret
    exact ⟨by rw [H.out]; rfl, b1⟩

set_option maxRecDepth 100000 in
set_option maxHeartbeats 1000000 in
theorem visitR (I : Nat → World → Prop) {bt : Nat} {x : Value} {w : World} (h0 : I 0 w)
    (s0 : ∀ W, I 0 W → Calls Tryz.prog 58 #[.pointer (some ⟨bt, 0, none⟩), .int .i64 64, .func (.func 64) #[] #[], x] W fun e W' => e = .returned (.tuple #[]) ∧ I 1 W')
    (s1 : ∀ W, I 1 W → Calls Tryz.prog 58 #[.pointer (some ⟨bt, 1, none⟩), .int .i64 128, .func (.func 99) #[] #[], x] W fun e W' => e = .returned (.tuple #[]) ∧ I 2 W')
    (s2 : ∀ W, I 2 W → Calls Tryz.prog 58 #[.pointer (some ⟨bt, 2, none⟩), .int .i64 64, .func (.func 64) #[] #[], x] W fun e W' => e = .returned (.tuple #[]) ∧ I 3 W')
    (s3 : ∀ W, I 3 W → Calls Tryz.prog 58 #[.pointer (some ⟨bt, 3, none⟩), .int .i64 64, .func (.func 64) #[] #[], x] W fun e W' => e = .returned (.tuple #[]) ∧ I 4 W')
    (s4 : ∀ W, I 4 W → Calls Tryz.prog 58 #[.pointer (some ⟨bt, 4, none⟩), .int .i64 128, .func (.func 99) #[] #[], x] W fun e W' => e = .returned (.tuple #[]) ∧ I 5 W')
    (s5 : ∀ W, I 5 W → Calls Tryz.prog 58 #[.pointer (some ⟨bt, 5, none⟩), .int .i64 64, .func (.func 100) #[] #[], x] W fun e W' => e = .returned (.tuple #[]) ∧ I 6 W')
    : Calls Tryz.prog 55 #[.pointer (some ⟨bt, 0, none⟩), .func (.func 58) #[] #[x]] w fun e w' => e = .returned (.tuple #[]) ∧ I 6 w' := by
  have S0 := Lib.hid s0
  have S1 := Lib.hid s1
  have S2 := Lib.hid s2
  have S3 := Lib.hid s3
  have S4 := Lib.hid s4
  have S5 := Lib.hid s5
  clear s0 s1 s2 s3 s4 s5
  go_enter Tryz.func55, Tryz.ntmps55
  go_wp2_with fail
  refine (S0.out _ h0).mono ?_
  rintro e w1 ⟨rfl, h1⟩
  clear h0
  go_wp2_with fail
  refine (S1.out _ h1).mono ?_
  rintro e w2 ⟨rfl, h2⟩
  clear h1
  go_wp2_with fail
  refine (S2.out _ h2).mono ?_
  rintro e w3 ⟨rfl, h3⟩
  clear h2
  go_wp2_with fail
  refine (S3.out _ h3).mono ?_
  rintro e w4 ⟨rfl, h4⟩
  clear h3
  go_wp2_with fail
  refine (S4.out _ h4).mono ?_
  rintro e w5 ⟨rfl, h5⟩
  clear h4
  go_wp2_with fail
  refine (S5.out _ h5).mono ?_
  rintro e w6 ⟨rfl, h6⟩
  clear h5
  go_wp2_with fail
  go_end0
  exact ⟨rfl, h6⟩

set_option maxRecDepth 100000 in
set_option maxHeartbeats 1000000 in
theorem visitP (I : Nat → World → Prop) {bt : Nat} {x : Value} {w : World} (h0 : I 0 w)
    (s0 : ∀ W, I 0 W → Calls Tryz.prog 56 #[.pointer (some ⟨bt, 0, none⟩), .int .i64 64, .func (.func 64) #[] #[], x] W fun e W' => e = .returned (.tuple #[]) ∧ I 1 W')
    (s1 : ∀ W, I 1 W → Calls Tryz.prog 56 #[.pointer (some ⟨bt, 1, none⟩), .int .i64 128, .func (.func 99) #[] #[], x] W fun e W' => e = .returned (.tuple #[]) ∧ I 2 W')
    (s2 : ∀ W, I 2 W → Calls Tryz.prog 56 #[.pointer (some ⟨bt, 2, none⟩), .int .i64 64, .func (.func 64) #[] #[], x] W fun e W' => e = .returned (.tuple #[]) ∧ I 3 W')
    (s3 : ∀ W, I 3 W → Calls Tryz.prog 56 #[.pointer (some ⟨bt, 3, none⟩), .int .i64 64, .func (.func 64) #[] #[], x] W fun e W' => e = .returned (.tuple #[]) ∧ I 4 W')
    (s4 : ∀ W, I 4 W → Calls Tryz.prog 56 #[.pointer (some ⟨bt, 4, none⟩), .int .i64 128, .func (.func 99) #[] #[], x] W fun e W' => e = .returned (.tuple #[]) ∧ I 5 W')
    (s5 : ∀ W, I 5 W → Calls Tryz.prog 56 #[.pointer (some ⟨bt, 5, none⟩), .int .i64 64, .func (.func 100) #[] #[], x] W fun e W' => e = .returned (.tuple #[]) ∧ I 6 W')
    : Calls Tryz.prog 55 #[.pointer (some ⟨bt, 0, none⟩), .func (.func 56) #[] #[x]] w fun e w' => e = .returned (.tuple #[]) ∧ I 6 w' := by
  have S0 := Lib.hid s0
  have S1 := Lib.hid s1
  have S2 := Lib.hid s2
  have S3 := Lib.hid s3
  have S4 := Lib.hid s4
  have S5 := Lib.hid s5
  clear s0 s1 s2 s3 s4 s5
  go_enter Tryz.func55, Tryz.ntmps55
  go_wp2_with fail
  refine (S0.out _ h0).mono ?_
  rintro e w1 ⟨rfl, h1⟩
  clear h0
  go_wp2_with fail
  refine (S1.out _ h1).mono ?_
  rintro e w2 ⟨rfl, h2⟩
  clear h1
  go_wp2_with fail
  refine (S2.out _ h2).mono ?_
  rintro e w3 ⟨rfl, h3⟩
  clear h2
  go_wp2_with fail
  refine (S3.out _ h3).mono ?_
  rintro e w4 ⟨rfl, h4⟩
  clear h3
  go_wp2_with fail
  refine (S4.out _ h4).mono ?_
  rintro e w5 ⟨rfl, h5⟩
  clear h4
  go_wp2_with fail
  refine (S5.out _ h5).mono ?_
  rintro e w6 ⟨rfl, h6⟩
  clear h5
  go_wp2_with fail
  go_end0
  exact ⟨rfl, h6⟩

set_option maxRecDepth 100000 in
set_option maxHeartbeats 1000000 in
theorem visitD (I : Nat → World → Prop) {bt : Nat} {x y : Value} {w : World} (h0 : I 0 w)
    (s0 : ∀ W, I 0 W → Calls Tryz.prog 73 #[.pointer (some ⟨bt, 0, none⟩), .int .i64 64, .func (.func 64) #[] #[], x, y] W fun e W' => e = .returned (.tuple #[]) ∧ I 1 W')
    (s1 : ∀ W, I 1 W → Calls Tryz.prog 73 #[.pointer (some ⟨bt, 1, none⟩), .int .i64 128, .func (.func 99) #[] #[], x, y] W fun e W' => e = .returned (.tuple #[]) ∧ I 2 W')
    (s2 : ∀ W, I 2 W → Calls Tryz.prog 73 #[.pointer (some ⟨bt, 2, none⟩), .int .i64 64, .func (.func 64) #[] #[], x, y] W fun e W' => e = .returned (.tuple #[]) ∧ I 3 W')
    (s3 : ∀ W, I 3 W → Calls Tryz.prog 73 #[.pointer (some ⟨bt, 3, none⟩), .int .i64 64, .func (.func 64) #[] #[], x, y] W fun e W' => e = .returned (.tuple #[]) ∧ I 4 W')
    (s4 : ∀ W, I 4 W → Calls Tryz.prog 73 #[.pointer (some ⟨bt, 4, none⟩), .int .i64 128, .func (.func 99) #[] #[], x, y] W fun e W' => e = .returned (.tuple #[]) ∧ I 5 W')
    (s5 : ∀ W, I 5 W → Calls Tryz.prog 73 #[.pointer (some ⟨bt, 5, none⟩), .int .i64 64, .func (.func 100) #[] #[], x, y] W fun e W' => e = .returned (.tuple #[]) ∧ I 6 W')
    : Calls Tryz.prog 55 #[.pointer (some ⟨bt, 0, none⟩), .func (.func 73) #[] #[x, y]] w fun e w' => e = .returned (.tuple #[]) ∧ I 6 w' := by
  have S0 := Lib.hid s0
  have S1 := Lib.hid s1
  have S2 := Lib.hid s2
  have S3 := Lib.hid s3
  have S4 := Lib.hid s4
  have S5 := Lib.hid s5
  clear s0 s1 s2 s3 s4 s5
  go_enter Tryz.func55, Tryz.ntmps55
  go_wp2_with fail
  refine (S0.out _ h0).mono ?_
  rintro e w1 ⟨rfl, h1⟩
  clear h0
  go_wp2_with fail
  refine (S1.out _ h1).mono ?_
  rintro e w2 ⟨rfl, h2⟩
  clear h1
  go_wp2_with fail
  refine (S2.out _ h2).mono ?_
  rintro e w3 ⟨rfl, h3⟩
  clear h2
  go_wp2_with fail
  refine (S3.out _ h3).mono ?_
  rintro e w4 ⟨rfl, h4⟩
  clear h3
  go_wp2_with fail
  refine (S4.out _ h4).mono ?_
  rintro e w5 ⟨rfl, h5⟩
  clear h4
  go_wp2_with fail
  refine (S5.out _ h5).mono ?_
  rintro e w6 ⟨rfl, h6⟩
  clear h5
  go_wp2_with fail
  go_end0
  exact ⟨rfl, h6⟩

set_option maxRecDepth 100000 in
theorem rightC0 {W : World} {bt i br : Nat} {s : ByteArray} {b : Bool} {m : Int} (hs : W.cell? ⟨bt, i, none⟩ = some (.string s)) (hb : Arr W 4 br [.bool b]) (hr : ResT W) :
    Calls Tryz.prog 58 #[.pointer (some ⟨bt, i, none⟩), .int .i64 m, .func (.func 64) #[] #[], .pointer (some ⟨br, 0, none⟩)] W fun e w' => e = .returned (.tuple #[]) ∧ ∃ w1, Below W.heap.size W w1 ∧ w' = w1.setCell ⟨br, 0, none⟩ (.bool (b && isName s)) := by
  have HR := Lib.hid hr
  have HB := Lib.hid hb
  have c0 := hb.cell 0
  have f0 := hb.free 0
  simp only [List.getElem?_cons_zero] at c0
  clear hr hb
  cases b with
  | false =>
    go_enter Tryz.func58, Tryz.ntmps58
    go_wp2_with fail
    go_end0
    exact ⟨rfl, W, Below.refl _ _, rfl⟩
  | true =>
    go_enter Tryz.func58, Tryz.ntmps58
    go_wp2_with fail
    refine (isName_any s _ HR.out).mono ?_
    rintro e w1 ⟨rfl, b1⟩
    have hb1 := HB.out.later b1
    have HW := Lib.hid b1
    have c1 := hb1.cell 0
    have f1 := hb1.free 0
    simp only [List.getElem?_cons_zero] at c1
    clear b1 hb1 c0 f0 HB
    go_wp2_with fail
    go_end0
    exact ⟨rfl, w1, HW.out, rfl⟩

set_option maxRecDepth 100000 in
theorem rightC1 {W : World} {bt i br : Nat} {s : ByteArray} {b : Bool} {m : Int} (hs : W.cell? ⟨bt, i, none⟩ = some (.string s)) (hb : Arr W 4 br [.bool b]) (hr : ResT W) :
    Calls Tryz.prog 58 #[.pointer (some ⟨bt, i, none⟩), .int .i64 m, .func (.func 99) #[] #[], .pointer (some ⟨br, 0, none⟩)] W fun e w' => e = .returned (.tuple #[]) ∧ ∃ w1, Below W.heap.size W w1 ∧ w' = w1.setCell ⟨br, 0, none⟩ (.bool (b && isId s)) := by
  have HR := Lib.hid hr
  have HB := Lib.hid hb
  have c0 := hb.cell 0
  have f0 := hb.free 0
  simp only [List.getElem?_cons_zero] at c0
  clear hr hb
  cases b with
  | false =>
    go_enter Tryz.func58, Tryz.ntmps58
    go_wp2_with fail
    go_end0
    exact ⟨rfl, W, Below.refl _ _, rfl⟩
  | true =>
    go_enter Tryz.func58, Tryz.ntmps58
    go_wp2_with fail
    refine (isId_any s _).mono ?_
    rintro e w1 ⟨rfl, b1⟩
    have hb1 := HB.out.later b1
    have HW := Lib.hid b1
    have c1 := hb1.cell 0
    have f1 := hb1.free 0
    simp only [List.getElem?_cons_zero] at c1
    clear b1 hb1 c0 f0 HB
    go_wp2_with fail
    go_end0
    exact ⟨rfl, w1, HW.out, rfl⟩

set_option maxRecDepth 100000 in
theorem rightC2 {W : World} {bt i br : Nat} {s : ByteArray} {b : Bool} {m : Int} (hs : W.cell? ⟨bt, i, none⟩ = some (.string s)) (hb : Arr W 4 br [.bool b]) (hr : ResT W) :
    Calls Tryz.prog 58 #[.pointer (some ⟨bt, i, none⟩), .int .i64 m, .func (.func 100) #[] #[], .pointer (some ⟨br, 0, none⟩)] W fun e w' => e = .returned (.tuple #[]) ∧ ∃ w1, Below W.heap.size W w1 ∧ w' = w1.setCell ⟨br, 0, none⟩ (.bool (b && isUs s)) := by
  have HR := Lib.hid hr
  have HB := Lib.hid hb
  have c0 := hb.cell 0
  have f0 := hb.free 0
  simp only [List.getElem?_cons_zero] at c0
  clear hr hb
  cases b with
  | false =>
    go_enter Tryz.func58, Tryz.ntmps58
    go_wp2_with fail
    go_end0
    exact ⟨rfl, W, Below.refl _ _, rfl⟩
  | true =>
    go_enter Tryz.func58, Tryz.ntmps58
    go_wp2_with fail
    refine (isUs_any s _ HR.out).mono ?_
    rintro e w1 ⟨rfl, b1⟩
    have hb1 := HB.out.later b1
    have HW := Lib.hid b1
    have c1 := hb1.cell 0
    have f1 := hb1.free 0
    simp only [List.getElem?_cons_zero] at c1
    clear b1 hb1 c0 f0 HB
    go_wp2_with fail
    go_end0
    exact ⟨rfl, w1, HW.out, rfl⟩

/-- What Right's visitor keeps. -/
def RI (w0 : World) (t : Tu) (bt br : Nat) (acc : Bool) (W : World) : Prop := TuAt W bt t ∧ Arr W 4 br [.bool acc] ∧ Below w0.heap.size w0 W ∧ bt ≠ br ∧ w0.heap.size ≤ br
theorem RI.step {w0 W w1 W' : World} {t : Tu} {bt br : Nat} {acc b : Bool} (h : RI w0 t bt br acc W) (hb : Below W.heap.size W w1) (he : W' = w1.setCell ⟨br, 0, none⟩ (.bool b)) : RI w0 t bt br b W' := by
  subst he
  refine ⟨(h.1.later hb).setCell (a := ⟨br, 0, none⟩) h.2.2.2.1 _, ?_, (h.2.2.1.trans (hb.mono h.2.2.1.size)).setCell (p := ⟨br, 0, none⟩) h.2.2.2.2 _, h.2.2.2⟩
  exact (h.2.1.later hb).set 0 _
def accR (t : Tu) : Nat → Bool
  | 0 => true
  | 1 => true && isName t.ot
  | 2 => (true && isName t.ot) && isId t.oi
  | 3 => ((true && isName t.ot) && isId t.oi) && isName t.re
  | 4 => (((true && isName t.ot) && isId t.oi) && isName t.re) && isName t.st
  | 5 => ((((true && isName t.ot) && isId t.oi) && isName t.re) && isName t.st) && isId t.si
  | _ => (((((true && isName t.ot) && isId t.oi) && isName t.re) && isName t.st) && isId t.si) && isUs t.us
theorem accR_all (t : Tu) : accR t 6 = rightT t := by
  simp only [accR, rightT, Bool.true_and, Bool.and_assoc]
set_option maxRecDepth 100000 in
theorem right_any' (t : Tu) (w : World) (hr : ResT w) : Calls Tryz.prog 17 #[tuV t] w fun e w' => e = .returned (.bool (rightT t)) ∧ Below w.heap.size w w' := by
  have b0 : Below w.heap.size w (w.alloc (.cells (tc t).toArray 25)) := (Below.refl _ _).alloc (Nat.le_refl _) _
  have h1 := (tu_new w t).alloc (.cells #[.bool true] 4)
  have h2 := Arr.new2 w (.cells (tc t).toArray 25) 4 #[.bool true] [.bool true] rfl
  have b1 := b0.alloc b0.size (.cells #[.bool true] 4)
  have HI : Hid (RI w t w.heap.size (w.heap.size + 1) true ((w.alloc (.cells (tc t).toArray 25)).alloc (.cells #[.bool true] 4))) := ⟨h1, h2, b1, by omega, by omega⟩
  have HR := Lib.hid hr
  have st : ∀ {b : Bool} {W : World}, RI w t w.heap.size (w.heap.size + 1) b W → ResT W := fun h => HR.out.below h.2.2.1 HR.out.lt
  have HV := Lib.hid (visitR (fun i W => RI w t w.heap.size (w.heap.size + 1) (accR t i) W) (bt := w.heap.size) (x := .pointer (some ⟨w.heap.size + 1, 0, none⟩)) HI.out
    (fun W h => (rightC0 (TuAt.cells h.1).1 h.2.1 (st h)).mono fun e W' ⟨he, w1, hb, hw⟩ => ⟨he, h.step hb hw⟩)
    (fun W h => (rightC1 (TuAt.cells h.1).2.1 h.2.1 (st h)).mono fun e W' ⟨he, w1, hb, hw⟩ => ⟨he, h.step hb hw⟩)
    (fun W h => (rightC0 (TuAt.cells h.1).2.2.1 h.2.1 (st h)).mono fun e W' ⟨he, w1, hb, hw⟩ => ⟨he, h.step hb hw⟩)
    (fun W h => (rightC0 (TuAt.cells h.1).2.2.2.1 h.2.1 (st h)).mono fun e W' ⟨he, w1, hb, hw⟩ => ⟨he, h.step hb hw⟩)
    (fun W h => (rightC1 (TuAt.cells h.1).2.2.2.2.1 h.2.1 (st h)).mono fun e W' ⟨he, w1, hb, hw⟩ => ⟨he, h.step hb hw⟩)
    (fun W h => (rightC2 (TuAt.cells h.1).2.2.2.2.2 h.2.1 (st h)).mono fun e W' ⟨he, w1, hb, hw⟩ => ⟨he, h.step hb hw⟩))
  clear hr b0 h1 h2 b1 st HI
  go_enter Tryz.func17, Tryz.ntmps17
  go_wp2_with fail
  refine HV.out.mono ?_
  rintro e w1 ⟨rfl, h6⟩
  rw [accR_all] at h6
  have c1 := h6.2.1.cell 0
  simp only [List.getElem?_cons_zero] at c1
  have HB := Lib.hid h6.2.2.1
  clear h6 HV
  go_wp2_with fail
  go_ret
  exact ⟨rfl, HB.out⟩
end Go.Proofs.YtnnebfcggdbgpaaGreatDoor
