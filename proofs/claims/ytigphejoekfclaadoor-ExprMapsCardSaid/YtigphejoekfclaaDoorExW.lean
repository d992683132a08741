/-
  What the laws on expressions keep; few parts; vestrylaw10.ExprMatchesReference.
-/
import Derived.Test.YtigphejoekfclaaDoorExU
import Derived.Test.YtigphejoekfclaaDoorExS
import Derived.Test.YtigphejoekfclaaDoorExQ
import Derived.Deep.Cut
import Derived.Deep.CutRange
namespace Go.Proofs.YtigphejoekfclaaDoor
open Go.ChangeShapes Go.WideShapes Go.ChangeAt Go.RowKit
set_option linter.unusedVariables false

/-- An expression that came in, and the cell that it was put in. -/
def InE (w : World) (g : Nat) (k : Int) (xv xn : List UInt8) (ks : List Ex) (q : Option Addr) (c : Nat) (W : World) : Prop :=
  Arr W 24 g [.int .i64 k, .string (bstr xv), .string (bstr xn), .slice q ks.length c] ∧ RdE (fun b => b < w.heap.size) W (.mk k xv xn ks) (.agg #[.int .i64 k, .string (bstr xv), .string (bstr xn), .slice q ks.length c])
theorem InE.later {w : World} {g : Nat} {k : Int} {xv xn : List UInt8} {ks : List Ex} {q : Option Addr} {c : Nat} {W W' : World} (h : InE w g k xv xn ks q c W) (hw : w.heap.size ≤ W.heap.size) (hb : Below W.heap.size W W') : InE w g k xv xn ks q c W' :=
  ⟨h.1.later hb, h.2.below hb fun b hb => Nat.lt_of_lt_of_le hb hw⟩
def SE (w : World) (k : Int) (xv xn : List UInt8) (ks : List Ex) (q : Option Addr) (c : Nat) (W : World) : Prop := InE w w.heap.size k xv xn ks q c W ∧ ResT W ∧ Below w.heap.size w W
theorem SE.later {w : World} {k : Int} {xv xn : List UInt8} {ks : List Ex} {q : Option Addr} {c : Nat} {W W' : World} (h : SE w k xv xn ks q c W) (hb : Below W.heap.size W W') : SE w k xv xn ks q c W' :=
  ⟨h.1.later h.2.2.size hb, h.2.1.below hb h.2.1.lt, h.2.2.trans (hb.mono h.2.2.size)⟩
/-- What few parts mean. -/
def FewE (e : Ex) : Prop := sizeE e ≤ 900000 ∧ okE 100000 e ∧ wE e ≤ 900000000
theorem few_of {e : Ex} (h : cntE 31 e ≤ 150) : FewE e := by
  obtain ⟨h1, h2, _⟩ := cntE_few 31 e (by omega)
  refine ⟨by omega, h2, Nat.le_trans (wE_le 100000 e h2) ?_⟩
  exact Nat.le_trans (Nat.mul_le_mul_right _ (Nat.le_trans h1 h)) (by decide)
theorem form_of_right {e : Ex} (h : rightE e = true) : formE e = true := by
  unfold rightE at h
  simp only [Bool.and_eq_true] at h
  exact h.2.2
section
variable {w W : World} {k : Int} {xv xn : List UInt8} {ks : List Ex} {q : Option Addr} {c : Nat}
theorem SE.lt (h : SE w k xv xn ks q c W) : ∀ b, b < w.heap.size → b < W.heap.size := fun b hb => Nat.lt_of_lt_of_le hb h.2.2.size
theorem cRight (hf : FewE (.mk k xv xn ks)) (h : SE w k xv xn ks q c W) : Calls Tryd.prog 12 #[.agg #[.int .i64 k, .string (bstr xv), .string (bstr xn), .slice q ks.length c]] W fun e w' => ∃ v, e = .returned v ∧ (v = .bool (rightE (.mk k xv xn ks)) ∧ SE w k xv xn ks q c w') :=
  (eright_any _ _ _ W hf.1 h.1.2 h.lt h.2.1).mono fun e w' ⟨h1, h2⟩ => ⟨_, h1, rfl, h.later h2⟩
theorem crRight (hf : FewE (.mk k xv xn ks)) (h : SE w k xv xn ks q c W) : Calls Tryd.prog 10 #[.agg #[.int .i64 k, .string (bstr xv), .string (bstr xn), .slice q ks.length c]] W fun e w' => ∃ v, e = .returned v ∧ (v = .bool (rightE (.mk k xv xn ks)) ∧ SE w k xv xn ks q c w') :=
  (rRight_any _ _ _ W hf.2.1 hf.1 h.1.2 h.lt).mono fun e w' ⟨h1, h2⟩ => ⟨_, h1, rfl, h.later h2⟩
theorem cDepth (hf : FewE (.mk k xv xn ks)) (h : SE w k xv xn ks q c W) : Calls Tryd.prog 13 #[.agg #[.int .i64 k, .string (bstr xv), .string (bstr xn), .slice q ks.length c]] W fun e w' => ∃ v, e = .returned v ∧ (v = .int .i64 (depthE (.mk k xv xn ks) : Nat) ∧ SE w k xv xn ks q c w') :=
  (depth_any _ _ _ _ W (Nat.le_refl _) (Nat.le_trans hf.1 (by decide)) h.1.2 h.lt).mono fun e w' ⟨h1, h2⟩ => ⟨_, h1, rfl, h.later h2⟩
theorem crDepth (hf : FewE (.mk k xv xn ks)) (h : SE w k xv xn ks q c W) : Calls Tryd.prog 14 #[.agg #[.int .i64 k, .string (bstr xv), .string (bstr xn), .slice q ks.length c]] W fun e w' => ∃ v, e = .returned v ∧ (v = .int .i64 (depthE (.mk k xv xn ks) : Nat) ∧ SE w k xv xn ks q c w') :=
  (rdepth_any _ _ _ _ W (Nat.le_refl _) (Nat.le_trans hf.1 (by decide)) h.1.2 h.lt).mono fun e w' ⟨h1, h2⟩ => ⟨_, h1, rfl, h.later h2⟩
theorem cText (hf : FewE (.mk k xv xn ks)) (h : SE w k xv xn ks q c W) : Calls Tryd.prog 15 #[.agg #[.int .i64 k, .string (bstr xv), .string (bstr xn), .slice q ks.length c]] W fun e w' => ∃ v, e = .returned v ∧ (v = .string (bstr (if rightE (.mk k xv xn ks) = true then textE (.mk k xv xn ks) else [])) ∧ SE w k xv xn ks q c w') :=
  (etext_any _ _ _ W hf.1 hf.2.2 h.1.2 h.lt h.2.1).mono fun e w' ⟨h1, h2⟩ => ⟨_, h1, rfl, h.later h2⟩
theorem crText (hf : FewE (.mk k xv xn ks)) (hr : rightE (.mk k xv xn ks) = true) (h : SE w k xv xn ks q c W) : Calls Tryd.prog 11 #[.agg #[.int .i64 k, .string (bstr xv), .string (bstr xn), .slice q ks.length c]] W fun e w' => ∃ v, e = .returned v ∧ (v = .string (bstr (textE (.mk k xv xn ks))) ∧ SE w k xv xn ks q c w') :=
  (rtext_any _ _ _ _ W (Nat.le_refl _) hf.1 hf.2.2 (form_of_right hr) h.1.2 h.lt).mono fun e w' ⟨h1, h2⟩ => ⟨_, h1, rfl, h.later h2⟩
theorem cAwake (h : SE w k xv xn ks q c W) : Calls Tryd.prog 8 #[] W fun e w' => e = .returned (.bool true) ∧ SE w k xv xn ks q c w' :=
  (awake_any W h.2.1).mono fun e w' ⟨h1, h2⟩ => ⟨h1, h.later h2⟩
theorem cFew (ho : okE bigM (.mk k xv xn ks)) (h : SE w k xv xn ks q c W) : Calls Tryd.prog 9 #[.agg #[.int .i64 k, .string (bstr xv), .string (bstr xn), .slice q ks.length c]] W fun e w' => e = .returned (.bool (decide (cntE 31 (.mk k xv xn ks) ≤ 150))) ∧ SE w k xv xn ks q c w' :=
  (few_any _ _ _ W ho h.1.2 h.lt).mono fun e w' ⟨h1, h2⟩ => ⟨h1, h.later h2⟩
end
theorem SE.start {w : World} {k : Int} {xv xn : List UInt8} {ks : List Ex} {q : Option Addr} {c : Nat} (hr : ResT w) (h : RdE (fun b => b < w.heap.size) w (.mk k xv xn ks) (.agg #[.int .i64 k, .string (bstr xv), .string (bstr xn), .slice q ks.length c])) : SE w k xv xn ks q c (w.alloc (.cells #[.int .i64 k, .string (bstr xv), .string (bstr xn), .slice q ks.length c] 24)) := by
  have hb : Below w.heap.size w (w.alloc (.cells #[.int .i64 k, .string (bstr xv), .string (bstr xn), .slice q ks.length c] 24)) := (Below.refl _ _).alloc (Nat.le_refl _) _
  exact ⟨⟨Arr.new' _ _ _ _ rfl, h.below hb fun _ h => h⟩, hr.below hb hr.lt, hb⟩
set_option maxRecDepth 100000 in
set_option maxHeartbeats 8000000 in
theorem matches_any (e : Ex) (v : Value) (w : World) (ho : okE bigM e) (h : RdE (fun b => b < w.heap.size) w e v) (hr : ResT w) : Calls Tryd.prog 3 #[v] w fun r w' => r = .returned (.bool true) ∧ Below w.heap.size w w' := by
  obtain ⟨q, c, rfl, _, _⟩ := h.form
  obtain ⟨k, xv, xn, ks⟩ := e
  unfold exv at h ⊢
  show Calls _ _ #[.agg #[.int .i64 k, .string (bstr xv), .string (bstr xn), .slice q ks.length c]] _ _
  have HS : Hid (SE w k xv xn ks q c (w.alloc (.cells #[.int .i64 k, .string (bstr xv), .string (bstr xn), .slice q ks.length c] 24))) := SE.start hr h
  have HO := Lib.hid ho
  clear ho h hr
  go_enter Tryd.func3, Tryd.ntmps3
  go_wp2_with fail
  generalize w.alloc (.cells #[.int .i64 k, .string (bstr xv), .string (bstr xn), .slice q ks.length c] 24) = w0 at HS ⊢
  refine (cAwake HS.out).mono ?_
  rintro r w1 ⟨rfl, s1⟩
  have HS1 := Lib.hid s1
  have z0 := s1.1.1.cell 0
  have z1 := s1.1.1.cell 1
  have z2 := s1.1.1.cell 2
  have z3 := s1.1.1.cell 3
  simp only [List.getElem?_cons_zero, List.getElem?_cons_succ] at z0 z1 z2 z3
  have HFC := Lib.hid (cFew HO.out s1)
  obtain ⟨fw, hfw⟩ : ∃ f, f = decide (cntE 31 (.mk k xv xn ks) ≤ 150) := ⟨_, rfl⟩
  rw [← hfw] at HFC
  have HFW := Lib.hid hfw
  clear s1 HS hfw
  go_wp2_with fail
  refine HFC.out.mono ?_
  rintro r w2 ⟨rfl, s2⟩
  have HS2 := Lib.hid s2
  clear s2 HFC HS1 z0 z1 z2 z3
  cases fw with
  | false =>
    go_wp2_with fail
    refine (cAwake HS2.out).mono ?_
    rintro r w3 ⟨rfl, s3⟩
    have HB := Lib.hid s3.2.2
    clear s3
    go_wp2_with fail
    go_ret
    exact ⟨rfl, HB.out⟩
  | true =>
    have HF := Lib.hid (few_of (of_decide_eq_true HFW.out.symm))
    obtain ⟨R, hR⟩ : ∃ R, R = rightE (.mk k xv xn ks) := ⟨_, rfl⟩
    obtain ⟨sT, hsT⟩ : ∃ s, s = bstr (if rightE (.mk k xv xn ks) = true then textE (.mk k xv xn ks) else []) := ⟨_, rfl⟩
    have HR := Lib.hid hR
    have HT := Lib.hid hsT
    clear hR hsT
    have z0 := HS2.out.1.1.cell 0
    have z1 := HS2.out.1.1.cell 1
    have z2 := HS2.out.1.1.cell 2
    have z3 := HS2.out.1.1.cell 3
    simp only [List.getElem?_cons_zero, List.getElem?_cons_succ] at z0 z1 z2 z3
    have HRC := Lib.hid (crRight HF.out HS2.out)
    rw [← HR.out] at HRC
    go_wp2_with fail
    refine HRC.out.mono ?_
    rintro r w3 ⟨v3, rfl, rfl, s3⟩
    have HS3 := Lib.hid s3
    have y0 := s3.1.1.cell 0
    have y1 := s3.1.1.cell 1
    have y2 := s3.1.1.cell 2
    have y3 := s3.1.1.cell 3
    simp only [List.getElem?_cons_zero, List.getElem?_cons_succ] at y0 y1 y2 y3
    clear s3 HRC z0 z1 z2 z3 HS2
    go_upto_if 13 with (fail)
    go_cut [3] from 12 (fun x W => x = .string sT ∧ Hid (SE w k xv xn ks q c W))
    case first =>
      cases R with
      | true =>
        have HTC := Lib.hid (crText HF.out HR.out.symm HS3.out)
        have HTT : Hid (bstr (textE (.mk k xv xn ks)) = sT) := by show _ = _; rw [HT.out, ← HR.out]; rfl
        rw [HTT.out] at HTC
        go_wp2_with fail
        refine HTC.out.mono ?_
        rintro r w4 ⟨v4, rfl, rfl, s4⟩
        have HS4 := Lib.hid s4
        clear s4
        go_wp2_with fail
        go_meet
        case rel => exact ⟨rfl, HS4⟩
      | false =>
        have HTT : Hid (sT = ⟨#[]⟩) := by show _ = _; rw [HT.out, ← HR.out]; rfl
        go_wp2_with fail
        go_meet
        case rel => exact ⟨by rw [HTT.out], HS3⟩
    case rest =>
      obtain ⟨rfl, HS4⟩ := hcut
      clear HS3
      clear y0 y1 y2 y3
      go_upto_region 6 with (fail)
      obtain ⟨D, hD⟩ : ∃ D, D = depthE (.mk k xv xn ks) := ⟨_, rfl⟩
      have HD := Lib.hid hD
      clear hD
      refine wp_region_noPanic ?_
      refine wp_region_held_drew (S := SE w k xv xn ks q c) (by kernel_rfl) (HS4.out.later (Below.refl _ _).drew) (fun hHeld => ?_)
      try simp only [Act.put]
      generalize wc.drew = wd at hHeld ⊢
      clear HS4
      refine wpAnyH_take (i := 0) (oi := ⟨some 16, _, _, _, _, _⟩) (v := .agg #[.int .i64 k, .string (bstr xv), .string (bstr xn), .slice q ks.length c]) rfl (by kernel_rfl) (by kernel_rfl) (by kernel_rfl) (fun _ _ _ h => h) (.inl ⟨by rfl, fun w' hSw => ?_⟩) hHeld ?_
      focus (have q0 := hSw.1.1.cell 0; have q1 := hSw.1.1.cell 1; have q2 := hSw.1.1.cell 2; have q3 := hSw.1.1.cell 3; simp only [List.getElem?_cons_zero, List.getElem?_cons_succ] at q0 q1 q2 q3; clear hHeld; go_simp)
      try simp only [Act.put, List.setIfInBounds_toArray, List.set_cons_zero, List.set_cons_succ]
      refine wpAnyH_take (i := 2) (oi := ⟨some 18, _, _, _, _, _⟩) (v := .agg #[.int .i64 k, .string (bstr xv), .string (bstr xn), .slice q ks.length c]) rfl (by kernel_rfl) (by kernel_rfl) (by kernel_rfl) (fun _ _ _ h => h) (.inl ⟨by rfl, fun w' hSw => ?_⟩) hHeld ?_
      focus (have q0 := hSw.1.1.cell 0; have q1 := hSw.1.1.cell 1; have q2 := hSw.1.1.cell 2; have q3 := hSw.1.1.cell 3; simp only [List.getElem?_cons_zero, List.getElem?_cons_succ] at q0 q1 q2 q3; clear hHeld; go_simp)
      try simp only [Act.put, List.setIfInBounds_toArray, List.set_cons_zero, List.set_cons_succ]
      refine wpAnyH_ready (rs := [1]) (by kernel_rfl) (by simp) ?_
      refine AllReadyH.cons (o := ⟨some 17, _, _, _, _, _⟩) rfl (fun K' hK' => ?_) AllReadyH.nil
      refine stepw_call (R := fun v w'' => v = .bool R ∧ SE w k xv xn ks q c w'') (by rfl) ?_ ((by rw [HR.out]; exact cRight HF.out hHeld)) ?_
      focus go_simp
      rintro v w5 ⟨rfl, hkn⟩
      refine hK'.out _ _ hkn (fun _ => ?_)
      clear hK' K' hHeld
      have hHeld := hkn
      clear hkn
      try simp only [Act.put, List.setIfInBounds_toArray, List.set_cons_zero, List.set_cons_succ]
      refine wpAnyH_ready (rs := [3]) (by kernel_rfl) (by simp) ?_
      refine AllReadyH.cons (o := ⟨some 19, _, _, _, _, _⟩) rfl (fun K' hK' => ?_) AllReadyH.nil
      refine stepw_call (R := fun v w'' => v = .bool R ∧ SE w k xv xn ks q c w'') (by rfl) ?_ ((by rw [HR.out]; exact crRight HF.out hHeld)) ?_
      focus go_simp
      rintro v w6 ⟨rfl, hkn⟩
      refine hK'.out _ _ hkn (fun _ => ?_)
      clear hK' K' hHeld
      have hHeld := hkn
      clear hkn
      try simp only [Act.put, List.setIfInBounds_toArray, List.set_cons_zero, List.set_cons_succ]
      refine wpAnyH_take (i := 4) (oi := ⟨some 20, _, _, _, _, _⟩) (v := .bool true) rfl (by kernel_rfl) (by kernel_rfl) (by kernel_rfl) (fun _ _ _ h => h) (.inl ⟨by rfl, fun w' hSw => ?_⟩) hHeld ?_
      focus (skip; clear hHeld; go_simp)
      try simp only [Act.put, List.setIfInBounds_toArray, List.set_cons_zero, List.set_cons_succ]
      refine wpAnyH_take (i := 5) (oi := ⟨some 21, _, _, _, _, _⟩) (v := .bool true) rfl (by kernel_rfl) (by kernel_rfl) (by kernel_rfl) (fun _ _ _ h => h) (.inl ⟨by rfl, fun w' hSw => ?_⟩) hHeld ?_
      focus (skip; clear hHeld; go_simp)
      try simp only [Act.put, List.setIfInBounds_toArray, List.set_cons_zero, List.set_cons_succ]
      refine wpAnyH_take (i := 6) (oi := ⟨some 22, _, _, _, _, _⟩) (v := .agg #[.int .i64 k, .string (bstr xv), .string (bstr xn), .slice q ks.length c]) rfl (by kernel_rfl) (by kernel_rfl) (by kernel_rfl) (fun _ _ _ h => h) (.inl ⟨by rfl, fun w' hSw => ?_⟩) hHeld ?_
      focus (have q0 := hSw.1.1.cell 0; have q1 := hSw.1.1.cell 1; have q2 := hSw.1.1.cell 2; have q3 := hSw.1.1.cell 3; simp only [List.getElem?_cons_zero, List.getElem?_cons_succ] at q0 q1 q2 q3; clear hHeld; go_simp)
      try simp only [Act.put, List.setIfInBounds_toArray, List.set_cons_zero, List.set_cons_succ]
      refine wpAnyH_take (i := 8) (oi := ⟨some 24, _, _, _, _, _⟩) (v := .agg #[.int .i64 k, .string (bstr xv), .string (bstr xn), .slice q ks.length c]) rfl (by kernel_rfl) (by kernel_rfl) (by kernel_rfl) (fun _ _ _ h => h) (.inl ⟨by rfl, fun w' hSw => ?_⟩) hHeld ?_
      focus (have q0 := hSw.1.1.cell 0; have q1 := hSw.1.1.cell 1; have q2 := hSw.1.1.cell 2; have q3 := hSw.1.1.cell 3; simp only [List.getElem?_cons_zero, List.getElem?_cons_succ] at q0 q1 q2 q3; clear hHeld; go_simp)
      try simp only [Act.put, List.setIfInBounds_toArray, List.set_cons_zero, List.set_cons_succ]
      refine wpAnyH_ready (rs := [7]) (by kernel_rfl) (by simp) ?_
      refine AllReadyH.cons (o := ⟨some 23, _, _, _, _, _⟩) rfl (fun K' hK' => ?_) AllReadyH.nil
      refine stepw_call (R := fun v w'' => v = .int .i64 (D : Nat) ∧ SE w k xv xn ks q c w'') (by rfl) ?_ ((by rw [HD.out]; exact cDepth HF.out hHeld)) ?_
      focus go_simp
      rintro v w7 ⟨rfl, hkn⟩
      refine hK'.out _ _ hkn (fun _ => ?_)
      clear hK' K' hHeld
      have hHeld := hkn
      clear hkn
      try simp only [Act.put, List.setIfInBounds_toArray, List.set_cons_zero, List.set_cons_succ]
      refine wpAnyH_ready (rs := [9]) (by kernel_rfl) (by simp) ?_
      refine AllReadyH.cons (o := ⟨some 25, _, _, _, _, _⟩) rfl (fun K' hK' => ?_) AllReadyH.nil
      refine stepw_call (R := fun v w'' => v = .int .i64 (D : Nat) ∧ SE w k xv xn ks q c w'') (by rfl) ?_ ((by rw [HD.out]; exact crDepth HF.out hHeld)) ?_
      focus go_simp
      rintro v w8 ⟨rfl, hkn⟩
      refine hK'.out _ _ hkn (fun _ => ?_)
      clear hK' K' hHeld
      have hHeld := hkn
      clear hkn
      try simp only [Act.put, List.setIfInBounds_toArray, List.set_cons_zero, List.set_cons_succ]
      refine wpAnyH_take (i := 10) (oi := ⟨some 26, _, _, _, _, _⟩) (v := .bool true) rfl (by kernel_rfl) (by kernel_rfl) (by kernel_rfl) (fun _ _ _ h => h) (.inl ⟨by rfl, fun w' hSw => ?_⟩) hHeld ?_
      focus (skip; clear hHeld; go_simp)
      try simp only [Act.put, List.setIfInBounds_toArray, List.set_cons_zero, List.set_cons_succ]
      refine wpAnyH_take (i := 11) (oi := ⟨some 27, _, _, _, _, _⟩) (v := .bool true) rfl (by kernel_rfl) (by kernel_rfl) (by kernel_rfl) (fun _ _ _ h => h) (.inl ⟨by rfl, fun w' hSw => ?_⟩) hHeld ?_
      focus (skip; clear hHeld; go_simp)
      try simp only [Act.put, List.setIfInBounds_toArray, List.set_cons_zero, List.set_cons_succ]
      refine wpAnyH_take (i := 12) (oi := ⟨some 28, _, _, _, _, _⟩) (v := .bool true) rfl (by kernel_rfl) (by kernel_rfl) (by kernel_rfl) (fun _ _ _ h => h) (.inl ⟨by rfl, fun w' hSw => ?_⟩) hHeld ?_
      focus (skip; clear hHeld; go_simp)
      try simp only [Act.put, List.setIfInBounds_toArray, List.set_cons_zero, List.set_cons_succ]
      refine wpAnyH_take (i := 13) (oi := ⟨some 29, _, _, _, _, _⟩) (v := .agg #[.int .i64 k, .string (bstr xv), .string (bstr xn), .slice q ks.length c]) rfl (by kernel_rfl) (by kernel_rfl) (by kernel_rfl) (fun _ _ _ h => h) (.inl ⟨by rfl, fun w' hSw => ?_⟩) hHeld ?_
      focus (have q0 := hSw.1.1.cell 0; have q1 := hSw.1.1.cell 1; have q2 := hSw.1.1.cell 2; have q3 := hSw.1.1.cell 3; simp only [List.getElem?_cons_zero, List.getElem?_cons_succ] at q0 q1 q2 q3; clear hHeld; go_simp)
      try simp only [Act.put, List.setIfInBounds_toArray, List.set_cons_zero, List.set_cons_succ]
      refine wpAnyH_take (i := 15) (oi := ⟨some 31, _, _, _, _, _⟩) (v := .string sT) rfl (by kernel_rfl) (by kernel_rfl) (by kernel_rfl) (fun _ _ _ h => h) (.inl ⟨by rfl, fun w' hSw => ?_⟩) hHeld ?_
      focus (skip; clear hHeld; go_simp)
      try simp only [Act.put, List.setIfInBounds_toArray, List.set_cons_zero, List.set_cons_succ]
      refine wpAnyH_ready (rs := [14]) (by kernel_rfl) (by simp) ?_
      refine AllReadyH.cons (o := ⟨some 30, _, _, _, _, _⟩) rfl (fun K' hK' => ?_) AllReadyH.nil
      refine stepw_call (R := fun v w'' => v = .string sT ∧ SE w k xv xn ks q c w'') (by rfl) ?_ ((by rw [HT.out]; exact cText HF.out hHeld)) ?_
      focus go_simp
      rintro v w9 ⟨rfl, hkn⟩
      refine hK'.out _ _ hkn (fun _ => ?_)
      clear hK' K' hHeld
      have hHeld := hkn
      clear hkn
      try simp only [Act.put, List.setIfInBounds_toArray, List.set_cons_zero, List.set_cons_succ]
      refine wpAnyH_take (i := 16) (oi := ⟨some 32, _, _, _, _, _⟩) (v := .bool true) rfl (by kernel_rfl) (by kernel_rfl) (by kernel_rfl) (fun _ _ _ h => h) (.inl ⟨by rfl, fun w' hSw => ?_⟩) hHeld ?_
      focus (skip; clear hHeld; go_simp)
      try simp only [Act.put, List.setIfInBounds_toArray, List.set_cons_zero, List.set_cons_succ]
      refine wpAnyH_take (i := 17) (oi := ⟨some 33, _, _, _, _, _⟩) (v := .bool true) rfl (by kernel_rfl) (by kernel_rfl) (by kernel_rfl) (fun _ _ _ h => h) (.inl ⟨by rfl, fun w' hSw => ?_⟩) hHeld ?_
      focus (skip; clear hHeld; go_simp)
      try simp only [Act.put, List.setIfInBounds_toArray, List.set_cons_zero, List.set_cons_succ]
      refine wpAnyH_take (i := 18) (oi := ⟨some 2, _, _, _, _, _⟩) (v := .bool true) rfl (by kernel_rfl) (by kernel_rfl) (by kernel_rfl) (fun _ _ _ h => h) (.inl ⟨by rfl, fun w' hSw => ?_⟩) hHeld ?_
      focus (skip; clear hHeld; go_simp)
      try simp only [Act.put, List.setIfInBounds_toArray, List.set_cons_zero, List.set_cons_succ]
      refine wpAnyH_done (by kernel_rfl) ?_ _
      refine NoPanic.normal ?_
      have HB := Lib.hid hHeld.2.2
      clear hHeld
      go_wp2_with fail
      go_ret
      exact ⟨rfl, HB.out⟩
end Go.Proofs.YtigphejoekfclaaDoor
