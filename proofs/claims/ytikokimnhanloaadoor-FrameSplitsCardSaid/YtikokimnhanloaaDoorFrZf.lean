/-
  vestrylaw05.FrameSplits for every argument.
-/
import Derived.Test.YtikokimnhanloaaDoorFrZ
namespace Go.Proofs.YtikokimnhanloaaDoor
open Go.ChangeShapes Go.WideShapes Go.ChangeAt Go.RowKit
open errAs (ErrT)
set_option linter.unusedVariables false

set_option maxRecDepth 100000 in
set_option maxHeartbeats 2000000 in
theorem splits_long {w : World} {v : Value} {l : List UInt8} (s : Nat) (hl : 2000 < l.length) (hv : Rd w.heap.size w v l) (he : ErrT w) :
    Calls Tryd.prog 5 #[v, .int .u8 s] w fun e w' => e = .returned (.bool true) ∧ Below w.heap.size w w' := by
  have HE := Lib.hid he
  have HV := Lib.hid hv
  obtain ⟨q, c, rfl, _, _⟩ := hv.form
  have h1 : (2000 : Int) < l.length := by omega
  clear hv he
  refine calls_marks Tryd.func5 rfl ?_
  simp only [Tryd.ntmps5, List.size_toArray, List.length_cons, List.length_nil, Nat.reduceAdd, Nat.reduceSub, Array.replicate_succ, Array.replicate_zero, List.push_toArray, List.append_toArray, List.nil_append, List.cons_append]
  go_wp2_with fail
  have hb0 : Below w.heap.size w ((w.alloc (.cells #[.int .u8 s] 5)).alloc (.cells #[.bool false] 4)) := ((Below.refl _ _).alloc (Nat.le_refl _) _).alloc (by simp) _
  have HS0 : Hid (SW w (.slice q l.length c) l s ((w.alloc (.cells #[.int .u8 s] 5)).alloc (.cells #[.bool false] 4))) :=
    ⟨(Arr.new' w 5 #[.int .u8 s] _ rfl).alloc _, Arr.new2 w _ 4 #[.bool false] _ rfl, errT_below HE.out hb0, (HV.out.below hb0 (Nat.le_refl _)).mono hb0.size, hb0⟩
  clear hb0 HV HE
  generalize (w.alloc (.cells #[.int .u8 s] 5)).alloc (.cells #[.bool false] 4) = w0 at HS0 ⊢
  refine (eawake_any w0 HS0.out.2.2.1).mono ?_
  rintro e w1 ⟨rfl, b1⟩
  have HS1 := Lib.hid (HS0.out.later b1)
  clear b1 HS0
  go_wp2_with fail
  refine (eawake_any w1 HS1.out.2.2.1).mono ?_
  rintro e w2 ⟨rfl, b2⟩
  have HS2 := Lib.hid (HS1.out.later b2)
  clear b2 HS1
  have hr := HS2.out.2.1.cell 0
  have hf := HS2.out.2.1.free 0
  simp only [List.getElem?_cons_zero] at hr
  have HRC := Lib.hid hr
  go_wp2_with fail
  have hcf := World.cell?_setCell_same w2 ⟨w.heap.size + 1, 0, none⟩ (.bool true) HRC.out
  refine ⟨.bool true, ?_, rfl, ?_⟩
  · simp [results, Tryd.results5, go_sem, hcf]
  · exact HS2.out.2.2.2.2.setCell (p := ⟨w.heap.size + 1, 0, none⟩) (by simp) _
theorem splits_any {w : World} {v : Value} {l : List UInt8} (s : Nat) (hs : s < 256) (hv : Rd w.heap.size w v l) (he : ErrT w) :
    Calls Tryd.prog 5 #[v, .int .u8 s] w fun e w' => e = .returned (.bool true) ∧ Below w.heap.size w w' := by
  by_cases hl : l.length ≤ 2000
  · exact splits_walk s hs hl hv he
  · exact splits_long s (by omega) hv he
end Go.Proofs.YtikokimnhanloaaDoor
