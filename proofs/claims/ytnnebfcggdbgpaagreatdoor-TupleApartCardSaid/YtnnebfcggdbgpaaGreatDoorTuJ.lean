/-
  tuple.Read's visitor at identifiers and sets of users.
-/
import Derived.Test.YtnnebfcggdbgpaaGreatDoorTuI
namespace Go.Proofs.YtnnebfcggdbgpaaGreatDoor
open Go.ChangeShapes Go.WideShapes Go.ChangeAt Go.RowKit
open errAs (ErrT)
set_option linter.unusedVariables false
variable {w0 W W' : World} {c bc br bt bf A A' : Nat} {b : List UInt8} {t : Tu} {S : Tu × Nat × Nat}

set_option maxRecDepth 100000 in
set_option maxHeartbeats 2000000 in
theorem readC1 (i : Nat) (hi : i < 6) (h : DI w0 c bc br bt bf b S W) (hbl : b.length ≤ 1000000) : Calls Tryz.prog 73 #[.pointer (some ⟨bt, i, none⟩), .int .i64 128, .func (.func 99) #[] #[], .pointer (some ⟨bf, 0, none⟩), .pointer (some ⟨bc, 0, none⟩)] W fun e W' => e = .returned (.tuple #[]) ∧ DI w0 c bc br bt bf b (stepR b 1 i S) W' := by
  obtain ⟨t, A, cd⟩ := S
  have H := Lib.hid h
  have HBL := Lib.hid hbl
  have HI := Lib.hid hi
  have c0 := h.2.1.cell 0
  simp only [List.getElem?_cons_zero] at c0
  by_cases hc : cd = 0
  · subst hc
    rw [errF_zero] at c0
    have c1 := h.2.2.1.cell 0
    simp only [List.getElem?_cons_zero] at c1
    obtain ⟨q, p, k1, k2, k3, k4⟩ := h.2.2.2.2.1.two
    have d0 := k1.cell 0
    have d1 := k1.cell 1
    simp only [List.getElem?_cons_zero, List.getElem?_cons_succ] at d0 d1
    have HK := Lib.hid (And.intro k2 (And.intro k3 k4))
    have hb1 : Below W.heap.size W (W.alloc (.cells #[.slice q b.length p, .int .i64 A] 108)) := (Below.refl _ _).alloc (Nat.le_refl _) _
    have H1 := Lib.hid (h.later hb1)
    have HN1 := Lib.hid (Arr.new' W 108 #[.slice q b.length p, .int .i64 A] _ rfl)
    have HR1 := Lib.hid (k2.below hb1 (Nat.le_of_lt k1.lt))
    have HT := Lib.hid (ctext_all (h.later hb1).2.2.2.2.1 128 (by omega))
    have HCB : Hid (c < W.heap.size) := k1.lt
    have c2 := (h.later hb1).2.2.1.cell 0
    simp only [List.getElem?_cons_zero] at c2
    have hq := eqNC
    have hq2 := eqEC
    clear k1 k2 k3 k4 hb1 h hi hbl
    go_enter Tryz.func73, Tryz.ntmps73
    go_wp2_with fail
    generalize W.alloc (.cells #[.slice q b.length p, .int .i64 A] 108) = w1 at H1 HN1 HR1 HT c2 ⊢
    generalize W.heap.size = g at HN1 HCB ⊢
    obtain ⟨P, hP⟩ : ∃ P, P = (partP 128 (b.drop A)) := ⟨_, rfl⟩
    have HSB := Lib.hid (fun h2 : P.2.2 ≠ 0 => stepR_bad (b := b) (k := 1) (i := i) (S := (t, A, 0)) rfl (by show (partP (mostK 1) (b.drop A)).2.2 ≠ 0; rw [show mostK 1 = 128 from rfl, ← hP]; exact h2))
    have HSN := Lib.hid (fun (h2 : P.2.2 = 0) (h3 : isId (str P.1) = false) => stepR_name (b := b) (k := 1) (i := i) (S := (t, A, 0)) rfl (by show (partP (mostK 1) (b.drop A)).2.2 = 0; rw [show mostK 1 = 128 from rfl, ← hP]; exact h2) (by show testK 1 (str (partP (mostK 1) (b.drop A)).1) = false; rw [show mostK 1 = 128 from rfl, ← hP]; exact h3))
    have HSY := Lib.hid (fun (h2 : P.2.2 = 0) (h3 : isId (str P.1) = true) => stepR_yes (b := b) (k := 1) (i := i) (S := (t, A, 0)) rfl (by show (partP (mostK 1) (b.drop A)).2.2 = 0; rw [show mostK 1 = 128 from rfl, ← hP]; exact h2) (by show testK 1 (str (partP (mostK 1) (b.drop A)).1) = true; rw [show mostK 1 = 128 from rfl, ← hP]; exact h3))
    rw [show mostK 1 = 128 from rfl] at HSB HSY
    simp only [← hP] at HSB HSN HSY HT
    clear hP
    by_cases h2 : P.2.2 = 0
    · have HT2 := Lib.hid (HT.out.2 h2)
      obtain ⟨s, hs⟩ : ∃ s, s = str P.1 := ⟨_, rfl⟩
      have HSN2 := Lib.hid (HSN.out h2)
      have HSY2 := Lib.hid (HSY.out h2)
      rw [← hs] at HT2 HSN2 HSY2
      obtain ⟨A2, hA2⟩ : ∃ A2, A2 = A + P.2.1 := ⟨_, rfl⟩
      simp only [← hA2] at HT2 HSY2
      clear hs hA2 HT HSB HSN HSY h2
      refine HT2.out.mono ?_
      rintro e w2 ⟨rfl, u2, g2⟩
      have HI2 := Lib.hid (H1.out.moved g2 u2)
      have HN2 := Lib.hid (HN1.out.grown g2 (by have := HCB.out; omega))
      have HR2 := Lib.hid (HR1.out.below (grown_below' g2 (Nat.le_refl c) (Nat.le_of_lt H1.out.2.2.2.2.1.lt)) (Nat.le_refl _))
      have HRES := Lib.hid HI2.out.2.2.2.2.2.2.1.env.1
      clear u2 g2 H1 HN1 HR1 HT2
      cases hv : isId s with
      | true =>
        have HV := Lib.hid hv
        have HST := Lib.hid (HSY2.out HV.out)
        clear hv HSY2 HSN2
        go_wp2_with fail
        refine (isId_any s _).mono ?_
        rintro e w3 ⟨rfl, b3⟩
        rw [HV.out]
        have HI3 := Lib.hid (HI2.out.later b3)
        obtain ⟨s0, hs0⟩ := tc_cell t i HI.out
        have d3 := Arr.cell HI3.out.1 i
        have f3 := Arr.free HI3.out.1 i
        rw [hs0] at d3
        clear b3 hs0 HI2 HN2 HR2 HRES
        go_wp2_with fail
        go_end0
        exact ⟨rfl, by rw [HST.out]; exact HI3.out.part i HI.out s⟩
      | false =>
        have HV := Lib.hid hv
        have HST := Lib.hid (HSN2.out HV.out)
        clear hv HSY2 HSN2
        go_wp2_with fail
        refine (isId_any s _).mono ?_
        rintro e w3 ⟨rfl, b3⟩
        rw [HV.out]
        have HI3 := Lib.hid (HI2.out.later b3)
        have HN3 := Lib.hid (HN2.out.later b3)
        have HR3 := Lib.hid (HR2.out.below b3 (Nat.le_of_lt HI2.out.2.2.2.2.1.lt))
        have e1 := HI3.out.2.2.1.cell 0
        have e2 := HN3.out.cell 0
        have e3 := HN3.out.cell 1
        obtain ⟨q4, p4, k4, _⟩ := HI3.out.2.2.2.2.1.two
        have e4 := k4.cell 0
        have e5 := k4.cell 1
        have e6 := k4.free 0
        have e7 := k4.free 1
        simp only [List.getElem?_cons_zero, List.getElem?_cons_succ] at e1 e2 e3 e4 e5
        have HI4 := Lib.hid (HI3.out.back HR3.out HK.out.2.1)
        have HN4 := Lib.hid ((HN3.out.setCell (a := ⟨c, 0, none⟩) (by show g ≠ c; have := HCB.out; omega) (.slice q b.length p)).setCell (a := ⟨c, 1, none⟩) (by show g ≠ c; have := HCB.out; omega) (.int .i64 A))
        have HERR := Lib.hid HI4.out.2.2.2.2.2.2.1.env.2.1
        have HC3 : Hid (Cur ((w3.setCell ⟨c, 0, none⟩ (.slice q b.length p)).setCell ⟨c, 1, none⟩ (.int .i64 A)) g b A) := cur_of HN4.out ((HR3.out.below (grown_below' (grown_trans (grown_set w3 0 c 0 (.slice q b.length p)) (grown_set _ 0 c 1 (.int .i64 A))) (Nat.le_refl c) (Nat.le_of_lt HI3.out.2.2.2.2.1.lt)) (Nat.le_refl c)).mono (Nat.le_of_lt HCB.out)) HK.out.2.1 HK.out.2.2
        have HAL : A ≤ 1000000 := by have := HK.out.2.1; have := HBL.out; omega
        clear b3 k4 HI2 HN2 HR2 HRES HN3 HR3 HN4 HI3
        have HI3 := HI4
        clear HI4
        go_wp2_with fail
        refine (at_any HC3.out).mono ?_
        rintro e w4 ⟨rfl, hw4⟩
        subst hw4
        have HSH := Lib.hid (shift_Cn 5 A _ HERR.out (by omega))
        unfold faultN at HSH
        go_wp2_with fail
        refine HSH.out.mono ?_
        rintro e w5 ⟨rfl, b5⟩
        have HI5 := Lib.hid (HI3.out.later b5)
        have f5 := HI5.out.2.1.free 0
        have c5 := HI5.out.2.1.cell 0
        simp only [List.getElem?_cons_zero, errF_zero] at c5
        clear b5 HSH HI3 HC3 HERR
        go_wp2_with fail
        refine bodyPost_ret (results_none rfl _ _ _) rfl ?_
        exact ⟨rfl, by rw [HST.out]; exact HI5.out.fails 5 (by decide)⟩
    · have HT2 := Lib.hid (HT.out.1 h2)
      have HST := Lib.hid (HSB.out h2)
      obtain ⟨cd, hcd⟩ : ∃ cd, cd = P.2.2 := ⟨_, rfl⟩
      rw [← hcd] at HT2 h2 HST
      have H2 := Lib.hid h2
      clear HT HSB HSN HSY h2 hcd
      refine HT2.out.mono ?_
      rintro e w2 ⟨rfl, n2, rfl⟩
      have b2 := below_drewN (Below.refl w1.heap.size w1) n2
      have HI3 := Lib.hid (H1.out.later b2)
      have HR2 := HR1.out.below b2 (Nat.le_of_lt H1.out.2.2.2.2.1.lt)
      have HC3 : Hid (Cur (w1.drewN n2) g b A) := cur_of (HN1.out.later b2) (HR2.mono (Nat.le_of_lt HCB.out)) HK.out.2.1 HK.out.2.2
      have HERR := Lib.hid HI3.out.2.2.2.2.2.2.1.env.2.1
      have HAL : A ≤ 1000000 := by have := HK.out.2.1; have := HBL.out; omega
      clear b2 HR2 H1 HN1 HR1 HT2
      generalize w1.drewN n2 = w2 at HI3 HC3 HERR ⊢
      go_wp2_with fail
      refine (at_any HC3.out).mono ?_
      rintro e w4 ⟨rfl, hw4⟩
      subst hw4
      have HSH := Lib.hid (shift_Cn cd A _ HERR.out (by omega))
      unfold faultN at HSH
      go_wp2_with fail
      refine HSH.out.mono ?_
      rintro e w5 ⟨rfl, b5⟩
      have HI5 := Lib.hid (HI3.out.later b5)
      have f5 := HI5.out.2.1.free 0
      have c5 := HI5.out.2.1.cell 0
      simp only [List.getElem?_cons_zero, errF_zero] at c5
      clear b5 HSH HI3 HC3 HERR
      go_wp2_with fail
      refine bodyPost_ret (results_none rfl _ _ _) rfl ?_
      exact ⟨rfl, by rw [HST.out]; exact HI5.out.fails cd H2.out⟩
  · have hs : stepR b 1 i (t, A, cd) = (t, A, cd) := stepR_stop hc
    rw [hs]
    have c0' : W.cell? ⟨bf, 0, none⟩ = some (.iface 141 (.agg #[.int .i64 cd, .int .i64 A])) := by
      rw [c0]; unfold errF; rw [if_neg hc]; rfl
    have hq : ∀ w, (binOp BinOp.neq 34 (.iface 141 (.agg #[.int .i64 cd, .int .i64 A])) .nilIface).run Tryz.prog w = .ok (.bool true) w := fun w => eqNF cd A w
    clear c0 h hc hs hi hbl
    go_enter Tryz.func73, Tryz.ntmps73
    go_wp2_with fail
    refine bodyPost_ret (results_none rfl _ _ _) rfl ?_
    exact ⟨rfl, H.out⟩

set_option maxRecDepth 100000 in
set_option maxHeartbeats 2000000 in
theorem readC2 (i : Nat) (hi : i < 6) (h : DI w0 c bc br bt bf b S W) (hbl : b.length ≤ 1000000) : Calls Tryz.prog 73 #[.pointer (some ⟨bt, i, none⟩), .int .i64 64, .func (.func 100) #[] #[], .pointer (some ⟨bf, 0, none⟩), .pointer (some ⟨bc, 0, none⟩)] W fun e W' => e = .returned (.tuple #[]) ∧ DI w0 c bc br bt bf b (stepR b 2 i S) W' := by
  obtain ⟨t, A, cd⟩ := S
  have H := Lib.hid h
  have HBL := Lib.hid hbl
  have HI := Lib.hid hi
  have c0 := h.2.1.cell 0
  simp only [List.getElem?_cons_zero] at c0
  by_cases hc : cd = 0
  · subst hc
    rw [errF_zero] at c0
    have c1 := h.2.2.1.cell 0
    simp only [List.getElem?_cons_zero] at c1
    obtain ⟨q, p, k1, k2, k3, k4⟩ := h.2.2.2.2.1.two
    have d0 := k1.cell 0
    have d1 := k1.cell 1
    simp only [List.getElem?_cons_zero, List.getElem?_cons_succ] at d0 d1
    have HK := Lib.hid (And.intro k2 (And.intro k3 k4))
    have hb1 : Below W.heap.size W (W.alloc (.cells #[.slice q b.length p, .int .i64 A] 108)) := (Below.refl _ _).alloc (Nat.le_refl _) _
    have H1 := Lib.hid (h.later hb1)
    have HN1 := Lib.hid (Arr.new' W 108 #[.slice q b.length p, .int .i64 A] _ rfl)
    have HR1 := Lib.hid (k2.below hb1 (Nat.le_of_lt k1.lt))
    have HT := Lib.hid (ctext_all (h.later hb1).2.2.2.2.1 64 (by omega))
    have HCB : Hid (c < W.heap.size) := k1.lt
    have c2 := (h.later hb1).2.2.1.cell 0
    simp only [List.getElem?_cons_zero] at c2
    have hq := eqNC
    have hq2 := eqEC
    clear k1 k2 k3 k4 hb1 h hi hbl
    go_enter Tryz.func73, Tryz.ntmps73
    go_wp2_with fail
    generalize W.alloc (.cells #[.slice q b.length p, .int .i64 A] 108) = w1 at H1 HN1 HR1 HT c2 ⊢
    generalize W.heap.size = g at HN1 HCB ⊢
    obtain ⟨P, hP⟩ : ∃ P, P = (partP 64 (b.drop A)) := ⟨_, rfl⟩
    have HSB := Lib.hid (fun h2 : P.2.2 ≠ 0 => stepR_bad (b := b) (k := 2) (i := i) (S := (t, A, 0)) rfl (by show (partP (mostK 2) (b.drop A)).2.2 ≠ 0; rw [show mostK 2 = 64 from rfl, ← hP]; exact h2))
    have HSN := Lib.hid (fun (h2 : P.2.2 = 0) (h3 : isUs (str P.1) = false) => stepR_name (b := b) (k := 2) (i := i) (S := (t, A, 0)) rfl (by show (partP (mostK 2) (b.drop A)).2.2 = 0; rw [show mostK 2 = 64 from rfl, ← hP]; exact h2) (by show testK 2 (str (partP (mostK 2) (b.drop A)).1) = false; rw [show mostK 2 = 64 from rfl, ← hP]; exact h3))
    have HSY := Lib.hid (fun (h2 : P.2.2 = 0) (h3 : isUs (str P.1) = true) => stepR_yes (b := b) (k := 2) (i := i) (S := (t, A, 0)) rfl (by show (partP (mostK 2) (b.drop A)).2.2 = 0; rw [show mostK 2 = 64 from rfl, ← hP]; exact h2) (by show testK 2 (str (partP (mostK 2) (b.drop A)).1) = true; rw [show mostK 2 = 64 from rfl, ← hP]; exact h3))
    rw [show mostK 2 = 64 from rfl] at HSB HSY
    simp only [← hP] at HSB HSN HSY HT
    clear hP
    by_cases h2 : P.2.2 = 0
    · have HT2 := Lib.hid (HT.out.2 h2)
      obtain ⟨s, hs⟩ : ∃ s, s = str P.1 := ⟨_, rfl⟩
      have HSN2 := Lib.hid (HSN.out h2)
      have HSY2 := Lib.hid (HSY.out h2)
      rw [← hs] at HT2 HSN2 HSY2
      obtain ⟨A2, hA2⟩ : ∃ A2, A2 = A + P.2.1 := ⟨_, rfl⟩
      simp only [← hA2] at HT2 HSY2
      clear hs hA2 HT HSB HSN HSY h2
      refine HT2.out.mono ?_
      rintro e w2 ⟨rfl, u2, g2⟩
      have HI2 := Lib.hid (H1.out.moved g2 u2)
      have HN2 := Lib.hid (HN1.out.grown g2 (by have := HCB.out; omega))
      have HR2 := Lib.hid (HR1.out.below (grown_below' g2 (Nat.le_refl c) (Nat.le_of_lt H1.out.2.2.2.2.1.lt)) (Nat.le_refl _))
      have HRES := Lib.hid HI2.out.2.2.2.2.2.2.1.env.1
      clear u2 g2 H1 HN1 HR1 HT2
      cases hv : isUs s with
      | true =>
        have HV := Lib.hid hv
        have HST := Lib.hid (HSY2.out HV.out)
        clear hv HSY2 HSN2
        go_wp2_with fail
        refine (isUs_any s _ HRES.out).mono ?_
        rintro e w3 ⟨rfl, b3⟩
        rw [HV.out]
        have HI3 := Lib.hid (HI2.out.later b3)
        obtain ⟨s0, hs0⟩ := tc_cell t i HI.out
        have d3 := Arr.cell HI3.out.1 i
        have f3 := Arr.free HI3.out.1 i
        rw [hs0] at d3
        clear b3 hs0 HI2 HN2 HR2 HRES
        go_wp2_with fail
        go_end0
        exact ⟨rfl, by rw [HST.out]; exact HI3.out.part i HI.out s⟩
      | false =>
        have HV := Lib.hid hv
        have HST := Lib.hid (HSN2.out HV.out)
        clear hv HSY2 HSN2
        go_wp2_with fail
        refine (isUs_any s _ HRES.out).mono ?_
        rintro e w3 ⟨rfl, b3⟩
        rw [HV.out]
        have HI3 := Lib.hid (HI2.out.later b3)
        have HN3 := Lib.hid (HN2.out.later b3)
        have HR3 := Lib.hid (HR2.out.below b3 (Nat.le_of_lt HI2.out.2.2.2.2.1.lt))
        have e1 := HI3.out.2.2.1.cell 0
        have e2 := HN3.out.cell 0
        have e3 := HN3.out.cell 1
        obtain ⟨q4, p4, k4, _⟩ := HI3.out.2.2.2.2.1.two
        have e4 := k4.cell 0
        have e5 := k4.cell 1
        have e6 := k4.free 0
        have e7 := k4.free 1
        simp only [List.getElem?_cons_zero, List.getElem?_cons_succ] at e1 e2 e3 e4 e5
        have HI4 := Lib.hid (HI3.out.back HR3.out HK.out.2.1)
        have HN4 := Lib.hid ((HN3.out.setCell (a := ⟨c, 0, none⟩) (by show g ≠ c; have := HCB.out; omega) (.slice q b.length p)).setCell (a := ⟨c, 1, none⟩) (by show g ≠ c; have := HCB.out; omega) (.int .i64 A))
        have HERR := Lib.hid HI4.out.2.2.2.2.2.2.1.env.2.1
        have HC3 : Hid (Cur ((w3.setCell ⟨c, 0, none⟩ (.slice q b.length p)).setCell ⟨c, 1, none⟩ (.int .i64 A)) g b A) := cur_of HN4.out ((HR3.out.below (grown_below' (grown_trans (grown_set w3 0 c 0 (.slice q b.length p)) (grown_set _ 0 c 1 (.int .i64 A))) (Nat.le_refl c) (Nat.le_of_lt HI3.out.2.2.2.2.1.lt)) (Nat.le_refl c)).mono (Nat.le_of_lt HCB.out)) HK.out.2.1 HK.out.2.2
        have HAL : A ≤ 1000000 := by have := HK.out.2.1; have := HBL.out; omega
        clear b3 k4 HI2 HN2 HR2 HRES HN3 HR3 HN4 HI3
        have HI3 := HI4
        clear HI4
        go_wp2_with fail
        refine (at_any HC3.out).mono ?_
        rintro e w4 ⟨rfl, hw4⟩
        subst hw4
        have HSH := Lib.hid (shift_Cn 5 A _ HERR.out (by omega))
        unfold faultN at HSH
        go_wp2_with fail
        refine HSH.out.mono ?_
        rintro e w5 ⟨rfl, b5⟩
        have HI5 := Lib.hid (HI3.out.later b5)
        have f5 := HI5.out.2.1.free 0
        have c5 := HI5.out.2.1.cell 0
        simp only [List.getElem?_cons_zero, errF_zero] at c5
        clear b5 HSH HI3 HC3 HERR
        go_wp2_with fail
        refine bodyPost_ret (results_none rfl _ _ _) rfl ?_
        exact ⟨rfl, by rw [HST.out]; exact HI5.out.fails 5 (by decide)⟩
    · have HT2 := Lib.hid (HT.out.1 h2)
      have HST := Lib.hid (HSB.out h2)
      obtain ⟨cd, hcd⟩ : ∃ cd, cd = P.2.2 := ⟨_, rfl⟩
      rw [← hcd] at HT2 h2 HST
      have H2 := Lib.hid h2
      clear HT HSB HSN HSY h2 hcd
      refine HT2.out.mono ?_
      rintro e w2 ⟨rfl, n2, rfl⟩
      have b2 := below_drewN (Below.refl w1.heap.size w1) n2
      have HI3 := Lib.hid (H1.out.later b2)
      have HR2 := HR1.out.below b2 (Nat.le_of_lt H1.out.2.2.2.2.1.lt)
      have HC3 : Hid (Cur (w1.drewN n2) g b A) := cur_of (HN1.out.later b2) (HR2.mono (Nat.le_of_lt HCB.out)) HK.out.2.1 HK.out.2.2
      have HERR := Lib.hid HI3.out.2.2.2.2.2.2.1.env.2.1
      have HAL : A ≤ 1000000 := by have := HK.out.2.1; have := HBL.out; omega
      clear b2 HR2 H1 HN1 HR1 HT2
      generalize w1.drewN n2 = w2 at HI3 HC3 HERR ⊢
      go_wp2_with fail
      refine (at_any HC3.out).mono ?_
      rintro e w4 ⟨rfl, hw4⟩
      subst hw4
      have HSH := Lib.hid (shift_Cn cd A _ HERR.out (by omega))
      unfold faultN at HSH
      go_wp2_with fail
      refine HSH.out.mono ?_
      rintro e w5 ⟨rfl, b5⟩
      have HI5 := Lib.hid (HI3.out.later b5)
      have f5 := HI5.out.2.1.free 0
      have c5 := HI5.out.2.1.cell 0
      simp only [List.getElem?_cons_zero, errF_zero] at c5
      clear b5 HSH HI3 HC3 HERR
      go_wp2_with fail
      refine bodyPost_ret (results_none rfl _ _ _) rfl ?_
      exact ⟨rfl, by rw [HST.out]; exact HI5.out.fails cd H2.out⟩
  · have hs : stepR b 2 i (t, A, cd) = (t, A, cd) := stepR_stop hc
    rw [hs]
    have c0' : W.cell? ⟨bf, 0, none⟩ = some (.iface 141 (.agg #[.int .i64 cd, .int .i64 A])) := by
      rw [c0]; unfold errF; rw [if_neg hc]; rfl
    have hq : ∀ w, (binOp BinOp.neq 34 (.iface 141 (.agg #[.int .i64 cd, .int .i64 A])) .nilIface).run Tryz.prog w = .ok (.bool true) w := fun w => eqNF cd A w
    clear c0 h hc hs hi hbl
    go_enter Tryz.func73, Tryz.ntmps73
    go_wp2_with fail
    refine bodyPost_ret (results_none rfl _ _ _) rfl ?_
    exact ⟨rfl, H.out⟩
end Go.Proofs.YtnnebfcggdbgpaaGreatDoor
