/-
  vestrylaw10.ExprTexts.
-/
import Derived.Test.YtigphejoekfclaaDoorExXl
import Derived.Test.YtigphejoekfclaaDoorExY
namespace Go.Proofs.YtigphejoekfclaaDoor
open Go.ChangeShapes Go.WideShapes Go.ChangeAt Go.RowKit
set_option linter.unusedVariables false

set_option maxRecDepth 100000 in
set_option maxHeartbeats 16000000 in
theorem texts_any (ea : Ex) (ya : Value) (eb : Ex) (yb : Value) (w : World) (oa : okE bigM ea) (ha : RdE (fun b => b < w.heap.size) w ea ya) (ob : okE bigM eb) (hb : RdE (fun b => b < w.heap.size) w eb yb) (hr : ResT w) : Calls Tryd.prog 5 #[ya, yb] w fun r w' => r = .returned (.bool true) ∧ Below w.heap.size w w' := by
  obtain ⟨qa, ca, rfl, _, _⟩ := ha.form
  obtain ⟨ka, va, na, sa⟩ := ea
  unfold exv at ha ⊢
  obtain ⟨qb, cb, rfl, _, _⟩ := hb.form
  obtain ⟨kb, vb, nb, sb⟩ := eb
  unfold exv at hb ⊢
  show Calls _ _ #[.agg #[.int .i64 ka, .string (bstr va), .string (bstr na), .slice qa sa.length ca], .agg #[.int .i64 kb, .string (bstr vb), .string (bstr nb), .slice qb sb.length cb]] _ _
  have HS0 : Hid (S2 w ka va na sa qa ca kb vb nb sb qb cb ((w.alloc (.cells #[.int .i64 ka, .string (bstr va), .string (bstr na), .slice qa sa.length ca] 24)).alloc (.cells #[.int .i64 kb, .string (bstr vb), .string (bstr nb), .slice qb sb.length cb] 24))) := S2.start hr ha hb
  have HOa := Lib.hid oa
  have HOb := Lib.hid ob
  clear oa ha ob hb hr
  go_enter Tryd.func5, Tryd.ntmps5
  go_wp2_with fail
  generalize ((w.alloc (.cells #[.int .i64 ka, .string (bstr va), .string (bstr na), .slice qa sa.length ca] 24)).alloc (.cells #[.int .i64 kb, .string (bstr vb), .string (bstr nb), .slice qb sb.length cb] 24)) = w0 at HS0 ⊢
  refine (awake_any _ HS0.out.2.2.1).mono ?_
  rintro r w1 ⟨rfl, b1⟩
  have HS1 := Lib.hid (HS0.out.later b1)
  clear b1 HS0
  have za0 := HS1.out.1.1.cell 0
  have za1 := HS1.out.1.1.cell 1
  have za2 := HS1.out.1.1.cell 2
  have za3 := HS1.out.1.1.cell 3
  have zb0 := HS1.out.2.1.1.cell 0
  have zb1 := HS1.out.2.1.1.cell 1
  have zb2 := HS1.out.2.1.1.cell 2
  have zb3 := HS1.out.2.1.1.cell 3
  simp only [List.getElem?_cons_zero, List.getElem?_cons_succ] at za0 za1 za2 za3 zb0 zb1 zb2 zb3
  obtain ⟨fa, hfa⟩ : ∃ f, f = decide (cntE 31 (.mk ka va na sa) ≤ 150) := ⟨_, rfl⟩
  have HFWa := Lib.hid hfa
  have HCa := Lib.hid (iFew HOa.out HS1.out.1 HS1.out.2.2.2.size)
  rw [← hfa] at HCa
  clear hfa
  go_wp2_with fail
  refine (HCa.out).mono ?_
  rintro r w2 ⟨rfl, b2⟩
  have HS2 := Lib.hid (HS1.out.later b2)
  clear b2 HS1 za0 za1 za2 za3 zb0 zb1 zb2 zb3
  have za0 := HS2.out.1.1.cell 0
  have za1 := HS2.out.1.1.cell 1
  have za2 := HS2.out.1.1.cell 2
  have za3 := HS2.out.1.1.cell 3
  have zb0 := HS2.out.2.1.1.cell 0
  have zb1 := HS2.out.2.1.1.cell 1
  have zb2 := HS2.out.2.1.1.cell 2
  have zb3 := HS2.out.2.1.1.cell 3
  simp only [List.getElem?_cons_zero, List.getElem?_cons_succ] at za0 za1 za2 za3 zb0 zb1 zb2 zb3
  clear HCa
  cases fa
  case false =>
    go_wp2_with fail
    refine (awake_any _ HS2.out.2.2.1).mono ?_
    rintro r we ⟨rfl, be⟩
    have HB := Lib.hid (HS2.out.2.2.2.trans (be.mono HS2.out.2.2.2.size))
    clear be
    go_wp2_with fail
    go_ret
    exact ⟨rfl, HB.out⟩
  have HFa := Lib.hid (few_of (of_decide_eq_true HFWa.out.symm))
  obtain ⟨fb, hfb⟩ : ∃ f, f = decide (cntE 31 (.mk kb vb nb sb) ≤ 150) := ⟨_, rfl⟩
  have HFWb := Lib.hid hfb
  have HCb := Lib.hid (iFew HOb.out HS2.out.2.1 HS2.out.2.2.2.size)
  rw [← hfb] at HCb
  clear hfb
  go_wp2_with fail
  refine (HCb.out).mono ?_
  rintro r w3 ⟨rfl, b3⟩
  have HS3 := Lib.hid (HS2.out.later b3)
  clear b3 HS2 za0 za1 za2 za3 zb0 zb1 zb2 zb3
  have za0 := HS3.out.1.1.cell 0
  have za1 := HS3.out.1.1.cell 1
  have za2 := HS3.out.1.1.cell 2
  have za3 := HS3.out.1.1.cell 3
  have zb0 := HS3.out.2.1.1.cell 0
  have zb1 := HS3.out.2.1.1.cell 1
  have zb2 := HS3.out.2.1.1.cell 2
  have zb3 := HS3.out.2.1.1.cell 3
  simp only [List.getElem?_cons_zero, List.getElem?_cons_succ] at za0 za1 za2 za3 zb0 zb1 zb2 zb3
  clear HCb
  cases fb
  case false =>
    go_wp2_with fail
    refine (awake_any _ HS3.out.2.2.1).mono ?_
    rintro r we ⟨rfl, be⟩
    have HB := Lib.hid (HS3.out.2.2.2.trans (be.mono HS3.out.2.2.2.size))
    clear be
    go_wp2_with fail
    go_ret
    exact ⟨rfl, HB.out⟩
  have HFb := Lib.hid (few_of (of_decide_eq_true HFWb.out.symm))
  obtain ⟨ra, hra⟩ : ∃ r, r = rightE (.mk ka va na sa) := ⟨_, rfl⟩
  have HRa := Lib.hid hra
  have HCa := Lib.hid (iRight HFa.out HS3.out.1 HS3.out.2.2.2.size)
  rw [← hra] at HCa
  clear hra
  go_wp2_with fail
  refine (HCa.out).mono ?_
  rintro r w4 ⟨rfl, b4⟩
  have HS4 := Lib.hid (HS3.out.later b4)
  clear b4 HS3 za0 za1 za2 za3 zb0 zb1 zb2 zb3
  have za0 := HS4.out.1.1.cell 0
  have za1 := HS4.out.1.1.cell 1
  have za2 := HS4.out.1.1.cell 2
  have za3 := HS4.out.1.1.cell 3
  have zb0 := HS4.out.2.1.1.cell 0
  have zb1 := HS4.out.2.1.1.cell 1
  have zb2 := HS4.out.2.1.1.cell 2
  have zb3 := HS4.out.2.1.1.cell 3
  simp only [List.getElem?_cons_zero, List.getElem?_cons_succ] at za0 za1 za2 za3 zb0 zb1 zb2 zb3
  clear HCa
  cases ra
  case false =>
    go_wp2_with fail
    refine (awake_any _ HS4.out.2.2.1).mono ?_
    rintro r we ⟨rfl, be⟩
    have HB := Lib.hid (HS4.out.2.2.2.trans (be.mono HS4.out.2.2.2.size))
    clear be
    go_wp2_with fail
    go_ret
    exact ⟨rfl, HB.out⟩
  obtain ⟨rb, hrb⟩ : ∃ r, r = rightE (.mk kb vb nb sb) := ⟨_, rfl⟩
  have HRb := Lib.hid hrb
  have HCb := Lib.hid (iRight HFb.out HS4.out.2.1 HS4.out.2.2.2.size)
  rw [← hrb] at HCb
  clear hrb
  go_wp2_with fail
  refine (HCb.out).mono ?_
  rintro r w5 ⟨rfl, b5⟩
  have HS5 := Lib.hid (HS4.out.later b5)
  clear b5 HS4 za0 za1 za2 za3 zb0 zb1 zb2 zb3
  have za0 := HS5.out.1.1.cell 0
  have za1 := HS5.out.1.1.cell 1
  have za2 := HS5.out.1.1.cell 2
  have za3 := HS5.out.1.1.cell 3
  have zb0 := HS5.out.2.1.1.cell 0
  have zb1 := HS5.out.2.1.1.cell 1
  have zb2 := HS5.out.2.1.1.cell 2
  have zb3 := HS5.out.2.1.1.cell 3
  simp only [List.getElem?_cons_zero, List.getElem?_cons_succ] at za0 za1 za2 za3 zb0 zb1 zb2 zb3
  clear HCb
  cases rb
  case false =>
    go_wp2_with fail
    refine (awake_any _ HS5.out.2.2.1).mono ?_
    rintro r we ⟨rfl, be⟩
    have HB := Lib.hid (HS5.out.2.2.2.trans (be.mono HS5.out.2.2.2.size))
    clear be
    go_wp2_with fail
    go_ret
    exact ⟨rfl, HB.out⟩
  obtain ⟨n, hn⟩ : ∃ n, n = cmpE (.mk ka va na sa) (.mk kb vb nb sb) := ⟨_, rfl⟩
  obtain ⟨ta, hta⟩ : ∃ s, s = bstr (textE (.mk ka va na sa)) := ⟨_, rfl⟩
  obtain ⟨tb, htb⟩ : ∃ s, s = bstr (textE (.mk kb vb nb sb)) := ⟨_, rfl⟩
  have HEQ : Hid ((ta.toList == tb.toList) = (n == 0)) := by
    show _ = _
    rw [hta, htb, hn]
    by_cases h : textE (.mk ka va na sa) = textE (.mk kb vb nb sb)
    · have e := textE_inj (form_of_right HRa.out.symm) (form_of_right HRb.out.symm) h
      rw [bstr_eqv h, e, cmpE_self]; rfl
    · rw [bstr_ne h]
      have : cmpE (.mk ka va na sa) (.mk kb vb nb sb) ≠ 0 := fun hz => h (by rw [cmpE_eq hz])
      exact (beq_eq_false_iff_ne.2 this).symm
  have HN := Lib.hid hn
  have HTA := Lib.hid hta
  have HTB := Lib.hid htb
  clear hn hta htb
  go_upto_region 3 with (fail)
  refine wp_region_noPanic ?_
  refine wp_region_held_drew (S := S2 w ka va na sa qa ca kb vb nb sb qb cb) (by kernel_rfl) (HS5.out.later (Below.refl _ _).drew) (fun hHeld => ?_)
  try simp only [Act.put]
  generalize w5.drew = wd at hHeld ⊢
  clear HS5
  refine wpAnyH_take (i := 0) (oi := ⟨some 28, _, _, _, _, _⟩) (v := .agg #[.int .i64 ka, .string (bstr va), .string (bstr na), .slice qa sa.length ca]) rfl (by kernel_rfl) (by kernel_rfl) (by kernel_rfl) (fun _ _ _ h => h) (.inl ⟨by rfl, fun w' hSw => ?_⟩) hHeld ?_
  focus (have q0 := hSw.1.1.cell 0; have q1 := hSw.1.1.cell 1; have q2 := hSw.1.1.cell 2; have q3 := hSw.1.1.cell 3; simp only [List.getElem?_cons_zero, List.getElem?_cons_succ] at q0 q1 q2 q3; clear hHeld; go_simp)
  try simp only [Act.put, List.setIfInBounds_toArray, List.set_cons_zero, List.set_cons_succ]
  refine wpAnyH_take (i := 2) (oi := ⟨some 30, _, _, _, _, _⟩) (v := .agg #[.int .i64 kb, .string (bstr vb), .string (bstr nb), .slice qb sb.length cb]) rfl (by kernel_rfl) (by kernel_rfl) (by kernel_rfl) (fun _ _ _ h => h) (.inl ⟨by rfl, fun w' hSw => ?_⟩) hHeld ?_
  focus (have q0 := hSw.2.1.1.cell 0; have q1 := hSw.2.1.1.cell 1; have q2 := hSw.2.1.1.cell 2; have q3 := hSw.2.1.1.cell 3; simp only [List.getElem?_cons_zero, List.getElem?_cons_succ] at q0 q1 q2 q3; clear hHeld; go_simp)
  try simp only [Act.put, List.setIfInBounds_toArray, List.set_cons_zero, List.set_cons_succ]
  refine wpAnyH_take (i := 5) (oi := ⟨some 33, _, _, _, _, _⟩) (v := .agg #[.int .i64 ka, .string (bstr va), .string (bstr na), .slice qa sa.length ca]) rfl (by kernel_rfl) (by kernel_rfl) (by kernel_rfl) (fun _ _ _ h => h) (.inl ⟨by rfl, fun w' hSw => ?_⟩) hHeld ?_
  focus (have q0 := hSw.1.1.cell 0; have q1 := hSw.1.1.cell 1; have q2 := hSw.1.1.cell 2; have q3 := hSw.1.1.cell 3; simp only [List.getElem?_cons_zero, List.getElem?_cons_succ] at q0 q1 q2 q3; clear hHeld; go_simp)
  try simp only [Act.put, List.setIfInBounds_toArray, List.set_cons_zero, List.set_cons_succ]
  refine wpAnyH_take (i := 6) (oi := ⟨some 34, _, _, _, _, _⟩) (v := .agg #[.int .i64 kb, .string (bstr vb), .string (bstr nb), .slice qb sb.length cb]) rfl (by kernel_rfl) (by kernel_rfl) (by kernel_rfl) (fun _ _ _ h => h) (.inl ⟨by rfl, fun w' hSw => ?_⟩) hHeld ?_
  focus (have q0 := hSw.2.1.1.cell 0; have q1 := hSw.2.1.1.cell 1; have q2 := hSw.2.1.1.cell 2; have q3 := hSw.2.1.1.cell 3; simp only [List.getElem?_cons_zero, List.getElem?_cons_succ] at q0 q1 q2 q3; clear hHeld; go_simp)
  try simp only [Act.put, List.setIfInBounds_toArray, List.set_cons_zero, List.set_cons_succ]
  refine wpAnyH_ready (rs := [1]) (by kernel_rfl) (by simp) ?_
  refine AllReadyH.cons (o := ⟨some 29, _, _, _, _, _⟩) rfl (fun K' hK' => ?_) AllReadyH.nil
  refine stepw_call (R := fun v w'' => v = .string ta ∧ S2 w ka va na sa qa ca kb vb nb sb qb cb w'') (by rfl) ?_ ((show Calls _ _ _ _ (fun e w' => e = .returned (.string ta) ∧ Below wd.heap.size wd w') by rw [HTA.out]; exact iText HFa.out HRa.out.symm hHeld.1 hHeld.2.2.1 hHeld.2.2.2.size).mono fun e w'' ⟨h1, h2⟩ => ⟨_, h1, rfl, hHeld.later h2⟩) ?_
  focus go_simp
  rintro v u1 ⟨rfl, hkn⟩
  refine hK'.out _ _ hkn (fun _ => ?_)
  clear hK' K' hHeld
  have hHeld := hkn
  clear hkn
  try simp only [Act.put, List.setIfInBounds_toArray, List.set_cons_zero, List.set_cons_succ]
  refine wpAnyH_ready (rs := [3]) (by kernel_rfl) (by simp) ?_
  refine AllReadyH.cons (o := ⟨some 31, _, _, _, _, _⟩) rfl (fun K' hK' => ?_) AllReadyH.nil
  refine stepw_call (R := fun v w'' => v = .string tb ∧ S2 w ka va na sa qa ca kb vb nb sb qb cb w'') (by rfl) ?_ ((show Calls _ _ _ _ (fun e w' => e = .returned (.string tb) ∧ Below u1.heap.size u1 w') by rw [HTB.out]; exact iText HFb.out HRb.out.symm hHeld.2.1 hHeld.2.2.1 hHeld.2.2.2.size).mono fun e w'' ⟨h1, h2⟩ => ⟨_, h1, rfl, hHeld.later h2⟩) ?_
  focus go_simp
  rintro v u2 ⟨rfl, hkn⟩
  refine hK'.out _ _ hkn (fun _ => ?_)
  clear hK' K' hHeld
  have hHeld := hkn
  clear hkn
  try simp only [Act.put, List.setIfInBounds_toArray, List.set_cons_zero, List.set_cons_succ]
  refine wpAnyH_take (i := 4) (oi := ⟨some 32, _, _, _, _, _⟩) (v := .bool (n == 0)) rfl (by kernel_rfl) (by kernel_rfl) (by kernel_rfl) (fun _ _ _ h => h) (.inl ⟨by rfl, fun w' hSw => ?_⟩) hHeld ?_
  focus (have hq := HEQ.out; clear hHeld; go_simp)
  try simp only [Act.put, List.setIfInBounds_toArray, List.set_cons_zero, List.set_cons_succ]
  refine wpAnyH_ready (rs := [7]) (by kernel_rfl) (by simp) ?_
  refine AllReadyH.cons (o := ⟨some 35, _, _, _, _, _⟩) rfl (fun K' hK' => ?_) AllReadyH.nil
  refine stepw_call (R := fun v w'' => v = .int .i64 n ∧ S2 w ka va na sa qa ca kb vb nb sb qb cb w'') (by rfl) ?_ ((show Calls _ _ _ _ (fun e w' => e = .returned (.int .i64 n) ∧ Below u2.heap.size u2 w') by rw [HN.out]; exact iRCompare HFa.out HFb.out hHeld.1 hHeld.2.1 hHeld.2.2.2.size).mono fun e w'' ⟨h1, h2⟩ => ⟨_, h1, rfl, hHeld.later h2⟩) ?_
  focus go_simp
  rintro v u3 ⟨rfl, hkn⟩
  refine hK'.out _ _ hkn (fun _ => ?_)
  clear hK' K' hHeld
  have hHeld := hkn
  clear hkn
  try simp only [Act.put, List.setIfInBounds_toArray, List.set_cons_zero, List.set_cons_succ]
  refine wpAnyH_take (i := 8) (oi := ⟨some 36, _, _, _, _, _⟩) (v := .bool (n == 0)) rfl (by kernel_rfl) (by kernel_rfl) (by kernel_rfl) (fun _ _ _ h => h) (.inl ⟨by rfl, fun w' hSw => ?_⟩) hHeld ?_
  focus (skip; clear hHeld; go_simp)
  try simp only [Act.put, List.setIfInBounds_toArray, List.set_cons_zero, List.set_cons_succ]
  refine wpAnyH_take (i := 9) (oi := ⟨some 37, _, _, _, _, _⟩) (v := .bool true) rfl (by kernel_rfl) (by kernel_rfl) (by kernel_rfl) (fun _ _ _ h => h) (.inl ⟨by rfl, fun w' hSw => ?_⟩) hHeld ?_
  focus (skip; clear hHeld; go_simp)
  try simp only [Act.put, List.setIfInBounds_toArray, List.set_cons_zero, List.set_cons_succ]
  refine wpAnyH_take (i := 10) (oi := ⟨some 4, _, _, _, _, _⟩) (v := .bool true) rfl (by kernel_rfl) (by kernel_rfl) (by kernel_rfl) (fun _ _ _ h => h) (.inl ⟨by rfl, fun w' hSw => ?_⟩) hHeld ?_
  focus (skip; clear hHeld; go_simp)
  try simp only [Act.put, List.setIfInBounds_toArray, List.set_cons_zero, List.set_cons_succ]
  refine wpAnyH_done (by kernel_rfl) ?_ _
  refine NoPanic.normal ?_
  have HB := Lib.hid hHeld.2.2.2
  clear hHeld
  go_wp2_with fail
  go_ret
  exact ⟨rfl, HB.out⟩
end Go.Proofs.YtigphejoekfclaaDoor
