/-
  vestrylaw05.FrameMatchesReference: the walk.
-/
import Derived.Test.YtikokimnhanloaaDoorFrE
namespace Go.Proofs.YtikokimnhanloaaDoor
open Go.ChangeShapes Go.WideShapes Go.ChangeAt Go.RowKit
open errAs (ErrT)
set_option linter.unusedVariables false

theorem rd_form {B : Nat} {w : World} {v : Value} {l : List UInt8} (h : Rd B w v l) : ∃ q c, v = .slice q l.length c := by
  obtain ⟨q, c, hv, _⟩ := h.form
  exact ⟨q, c, hv⟩
theorem eqB_refl (l : List UInt8) : eqB l l = true := by unfold eqB; exact beq_self_eq_true l
set_option maxRecDepth 100000 in
set_option maxHeartbeats 4000000 in
theorem matches_big {B : Nat} {w : World} {vp vm : Value} {lp lm : List UInt8} (hp : Rd B w vp lp) (hm : Rd B w vm lm) (hg : ErrT w) (h : 2000 < lp.length ∨ 100 < lm.length) :
    Calls Tryd.prog 3 #[vp, vm] w fun e w' => e = .returned (.bool true) ∧ Below w.heap.size w w' := by
  obtain ⟨qp, cp, rfl⟩ := rd_form hp
  obtain ⟨qm, cm, rfl⟩ := rd_form hm
  have HE := Lib.hid hg
  clear hp hm hg
  by_cases h1 : 2000 < lp.length
  · have g1 : (2000 : Int) < lp.length := by omega
    clear h
    go_enter Tryd.func3, Tryd.ntmps3
    go_wp2_with fail
    refine (eawake_any _ HE.out).mono ?_
    rintro e w1 ⟨rfl, b1⟩
    have HE1 := Lib.hid (errT_below HE.out b1)
    have HB1 := Lib.hid b1
    clear b1
    go_wp2_with fail
    refine (eawake_any _ HE1.out).mono ?_
    rintro e w2 ⟨rfl, b2⟩
    go_wp2_with fail
    go_ret
    exact ⟨rfl, HB1.out.trans (b2.mono HB1.out.size)⟩
  · have g1 : ¬ (2000 : Int) < lp.length := by omega
    have g2 : (100 : Int) < lm.length := by omega
    clear h
    go_enter Tryd.func3, Tryd.ntmps3
    go_wp2_with fail
    refine (eawake_any _ HE.out).mono ?_
    rintro e w1 ⟨rfl, b1⟩
    have HE1 := Lib.hid (errT_below HE.out b1)
    have HB1 := Lib.hid b1
    clear b1
    go_wp2_with fail
    refine (eawake_any _ HE1.out).mono ?_
    rintro e w2 ⟨rfl, b2⟩
    go_wp2_with fail
    go_ret
    exact ⟨rfl, HB1.out.trans (b2.mono HB1.out.size)⟩

set_option maxRecDepth 100000 in
set_option maxHeartbeats 4000000 in
theorem matches_small {B : Nat} {w : World} {vp vm : Value} {lp lm : List UInt8} (hp : Rd B w vp lp) (hm : Rd B w vm lm) (hB : B ≤ w.heap.size) (hg : ErrT w) (h1 : ¬ 2000 < lp.length) (h2 : ¬ 100 < lm.length) :
    Calls Tryd.prog 3 #[vp, vm] w fun e w' => e = .returned (.bool true) ∧ Below w.heap.size w w' := by
  obtain ⟨qp, cp, rfl⟩ := rd_form hp
  obtain ⟨qm, cm, rfl⟩ := rd_form hm
  have HE := Lib.hid hg
  have HP := Lib.hid hp
  have HM := Lib.hid hm
  have g1 : ¬ (2000 : Int) < lp.length := by omega
  have g2 : ¬ (100 : Int) < lm.length := by omega
  obtain ⟨L, hL⟩ : ∃ L, L = framed lp := ⟨_, rfl⟩
  have hLn : L.length = (put lp.length).length + lp.length + 4 := by rw [hL]; unfold framed; rw [List.length_append, sealed_len]; omega
  have hLm := put_len_le (n := lp.length) (by omega)
  have HL := Lib.hid hL
  have HLN := Lib.hid hLn
  have HLM : Hid (L.length ≤ 2014) := by show _ ≤ _; omega
  have HRF : Hid (readF (L ++ lm) = (lp, L.length, 0, 0)) := by show _ = _; rw [hL]; exact readF_framed (by omega) lm
  clear hp hm hg hL hLn hLm
  go_enter Tryd.func3, Tryd.ntmps3
  go_wp2_with fail
  refine (eawake_any _ HE.out).mono ?_
  rintro e w1 ⟨rfl, b1⟩
  have HE1 := Lib.hid (errT_below HE.out b1)
  have HB1 := Lib.hid b1
  have HP1 := Lib.hid (HP.out.below b1 hB)
  have HM1 := Lib.hid (HM.out.below b1 hB)
  clear b1
  have HPUT := Lib.hid (fput_any HP1.out (Nat.le_trans hB HB1.out.size) (by omega))
  go_wp2_with fail
  refine HPUT.out.mono ?_
  rintro e w2 ⟨v2, rfl, o2, b2⟩
  rw [← HL.out] at o2
  have HB2 := Lib.hid (HB1.out.trans (b2.mono HB1.out.size))
  have HE2 := Lib.hid (errT_below HE1.out b2)
  have HP2 := Lib.hid (HP1.out.below b2 (Nat.le_trans hB HB1.out.size))
  have HM2 := Lib.hid (HM1.out.below b2 (Nat.le_trans hB HB1.out.size))
  have HO2 := Lib.hid (own_le o2 HB1.out.size)
  obtain ⟨q2, c2, rfl⟩ := own_form o2
  have HR2 := Lib.hid (Rd.of_own o2)
  clear o2 b2 HPUT HP1 HM1 HE1 HB1 HE HP HM
  have hb3 : Below w2.heap.size w2 (w2.alloc (.cells #[] 5)) := (Below.refl _ _).alloc (Nat.le_refl _) _
  have hr3 := HR2.out.below hb3 (Nat.le_refl _)
  go_wp2_with (at_builtin; refine app_bytes rfl _ _ rfl rfl (own_empty w2 (Nat.le_refl _)) rfl hr3 (by have := HLM.out; simp; omega) (by simp) ?_)
  intro v4 w4 o4 g4
  have hb4 := below_grown hb3 hb3.size (Nat.le_refl _) (own_empty w2 (Nat.le_refl _)) g4
  have HO4 := Lib.hid o4
  have HB4 := Lib.hid hb4
  have HM4 := Lib.hid (HM2.out.below hb4 (Nat.le_trans hB HB2.out.size))
  clear o4 g4 hb3 hr3 hb4
  go_wp2_with (at_builtin; refine app_bytes rfl _ _ rfl rfl HO4.out rfl HM4.out (by have := HLM.out; omega) HB4.out.size ?_)
  intro v5 w5 o5 g5
  have hb5 := below_grown HB4.out HB4.out.size (Nat.le_refl _) HO4.out g5
  have HB5 := Lib.hid hb5
  have HE5 := Lib.hid (errT_below HE2.out hb5)
  have ol : (L ++ lm).length = L.length + lm.length := List.length_append
  rw [← ol] at o5
  obtain ⟨q5, c5, rfl⟩ := own_form o5
  have HRD := Lib.hid (fread_any (Rd.of_own o5) (Nat.le_refl _) (by rw [ol]; have := HLM.out; omega) HE5.out)
  rw [ol] at HRD
  clear o5 g5 hb5 HO4 HB4 HM4
  go_wp2_with fail
  refine HRD.out.mono ?_
  rintro e w6 ⟨v6, rfl, o6, b6⟩
  rw [HRF.out] at o6 ⊢
  rw [show errF (lp, L.length, 0, 0).2.2.1 (lp, L.length, 0, 0).2.2.2 = .nilIface from rfl]
  have hb6 := HB5.out.trans (b6.mono HB5.out.size)
  have HB6 := Lib.hid hb6
  have HO6 := Lib.hid o6
  have HR6 := Lib.hid (HR2.out.below hb6 (Nat.le_refl _))
  have HP6 := Lib.hid (HP2.out.below hb6 (Nat.le_trans hB HB2.out.size))
  have HRP := Lib.hid (rfput_any (HP2.out.below hb6 (Nat.le_trans hB HB2.out.size)) (Nat.le_trans hB (Nat.le_trans HB2.out.size hb6.size)) (by omega))
  obtain ⟨q6, c6, rfl⟩ := own_form o6
  clear o6 b6 hb6 HRD HB5 HE5 HE2
  go_wp2_with fail
  refine HRP.out.mono ?_
  rintro e w7 ⟨v7, rfl, o7, b7⟩
  rw [← HL.out] at o7
  have HB7 := Lib.hid (HB6.out.trans (b7.mono HB6.out.size))
  have hr7 := Rd.of_own o7
  have HS1 := Lib.hid (same_any (HR6.out.below b7 HB6.out.size) hr7)
  rw [eqB_refl] at HS1
  have HO7 := Lib.hid (own_below HO6.out b7)
  have HP7 := Lib.hid (HP6.out.below b7 (Nat.le_trans hB (Nat.le_trans HB2.out.size HB6.out.size)))
  obtain ⟨q7, c7, rfl⟩ := rd_form hr7
  clear o7 b7 hr7 HRP HB6 HO6 HP6 HR6
  go_wp2_with fail
  refine HS1.out.mono ?_
  rintro e w8 ⟨rfl, d8, rfl⟩
  have hd8 := Joins.below_draws w7.heap.size w7 d8
  obtain ⟨w8, hw8⟩ : ∃ w8, w8 = w7.drewN d8 := ⟨_, rfl⟩
  rw [← hw8] at hd8 ⊢
  clear hw8
  have HB8 := Lib.hid (HB7.out.trans (hd8.mono HB7.out.size))
  have HS2 := Lib.hid (same_any (Rd.of_own (own_below HO7.out hd8)) (HP7.out.below hd8 (Nat.le_trans hB (Nat.le_trans HB2.out.size HB7.out.size))))
  rw [eqB_refl] at HS2
  clear hd8 HS1 HB7 HO7 HP7
  go_wp2_with fail
  refine HS2.out.mono ?_
  rintro e w9 ⟨rfl, d9, rfl⟩
  have HB9 := Lib.hid (HB8.out.trans ((Joins.below_draws w8.heap.size w8 d9).mono HB8.out.size))
  have HSZ := Lib.hid (fun w => fsize_any lp.length (by omega) w)
  rw [← HLN.out] at HSZ
  clear HS2 HB8
  go_wp2_with fail
  refine (HSZ.out _).mono ?_
  rintro e w10 ⟨rfl, b10⟩
  have HB10 := Lib.hid (HB2.out.trans ((HB9.out.trans (b10.mono HB9.out.size)).mono HB2.out.size))
  clear b10 HSZ HB9
  go_wp2_with fail
  go_ret
  exact ⟨rfl, HB10.out⟩
theorem matches_walk {B : Nat} {w : World} {vp vm : Value} {lp lm : List UInt8} (hp : Rd B w vp lp) (hm : Rd B w vm lm) (hB : B ≤ w.heap.size) (hg : ErrT w) :
    Calls Tryd.prog 3 #[vp, vm] w fun e w' => e = .returned (.bool true) ∧ Below w.heap.size w w' := by
  by_cases h1 : 2000 < lp.length
  · exact matches_big hp hm hg (.inl h1)
  · by_cases h2 : 100 < lm.length
    · exact matches_big hp hm hg (.inr h2)
    · exact matches_small hp hm hB hg h1 h2
end Go.Proofs.YtikokimnhanloaaDoor
