/-
  vestrylaw05.FrameReads: the walk.
-/
import Derived.Test.YthoehbgplmcobaaDoorFrG
namespace Go.Proofs.YthoehbgplmcobaaDoor
open Go.ChangeShapes Go.WideShapes Go.ChangeAt Go.RowKit
open errAs (ErrT)
set_option linter.unusedVariables false

theorem rd_cap {B : Nat} {w : World} {q : Option Addr} {n c : Nat} {l : List UInt8} (h : Rd B w (.slice q n c) l) : l.length ≤ c := by
  rcases h with ⟨oa, _, rfl⟩ | ⟨b, off, cap, hv, h1, _⟩
  · exact Nat.zero_le _
  · simp only [Value.slice.injEq] at hv
    omega
set_option maxRecDepth 100000 in
theorem reads_big {B : Nat} {w : World} {vp : Value} {lp : List UInt8} (hp : Rd B w vp lp) (hg : ErrT w) (h1 : 2000 < lp.length) :
    Calls Tryd.prog 6 #[vp] w fun e w' => e = .returned (.bool true) ∧ Below w.heap.size w w' := by
  obtain ⟨qp, cp, rfl⟩ := rd_form hp
  have HE := Lib.hid hg
  clear hp hg
  have g1 : (2000 : Int) < lp.length := by omega
  go_enter Tryd.func6, Tryd.ntmps6
  go_wp2_with fail
  refine (eawake_any _ HE.out).mono ?_
  rintro e w1 ⟨rfl, b1⟩
  have HE1 := Lib.hid (errT_below HE.out b1)
  have HB1 := Lib.hid b1
  clear b1
  go_wp2_with fail
  refine (eawake_any _ HE1.out).mono ?_
  rintro e w2 ⟨rfl, b2⟩
  go_wp2_with fail
  go_ret
  exact ⟨rfl, HB1.out.trans (b2.mono HB1.out.size)⟩

set_option maxRecDepth 100000 in
set_option maxHeartbeats 4000000 in
theorem reads_small {B : Nat} {w : World} {vp : Value} {lp : List UInt8} (hp : Rd B w vp lp) (hB : B ≤ w.heap.size) (hg : ErrT w) (h1 : ¬ 2000 < lp.length) :
    Calls Tryd.prog 6 #[vp] w fun e w' => e = .returned (.bool true) ∧ Below w.heap.size w w' := by
  obtain ⟨qp, cp, rfl⟩ := rd_form hp
  have HE := Lib.hid hg
  have HP := Lib.hid hp
  have g1 : ¬ (2000 : Int) < lp.length := by omega
  obtain ⟨r, hr⟩ : ∃ r, r = readF lp := ⟨_, rfl⟩
  have HR := Lib.hid hr
  clear hp hg hr
  go_enter Tryd.func6, Tryd.ntmps6
  go_wp2_with fail
  refine (eawake_any _ HE.out).mono ?_
  rintro e w1 ⟨rfl, b1⟩
  have HE1 := Lib.hid (errT_below HE.out b1)
  have HB1 := Lib.hid b1
  have HP1 := Lib.hid (HP.out.below b1 hB)
  clear b1
  have HRD := Lib.hid (fread_any HP1.out (Nat.le_trans hB HB1.out.size) (by omega) HE1.out)
  go_wp2_with fail
  refine HRD.out.mono ?_
  rintro e w2 ⟨v2, rfl, o2, b2⟩
  rw [← HR.out] at o2 ⊢
  have HB2 := Lib.hid (HB1.out.trans (b2.mono HB1.out.size))
  have HE2 := Lib.hid (errT_below HE1.out b2)
  have hp2 := HP1.out.below b2 (Nat.le_trans hB HB1.out.size)
  have HP2 := Lib.hid hp2
  have HO2 := Lib.hid (own_le o2 HB1.out.size)
  have HRR := Lib.hid (rread_any hp2 (by omega))
  obtain ⟨q2, c2, rfl⟩ := own_form o2
  clear o2 b2 hp2 HRD HB1 HE1 HP1 HE HP
  go_wp2_with fail
  refine HRR.out.mono ?_
  rintro e w3 ⟨v3, rfl, r3, rfl⟩
  rw [← HR.out] at r3 ⊢
  have HR3 := Lib.hid r3
  obtain ⟨q3, c3, rfl⟩ := rd_form r3
  have HTO := Lib.hid (told_any r.2.2.1 r.2.2.2 w2 HE2.out)
  clear r3 HRR
  go_wp2_with fail
  refine HTO.out.mono ?_
  rintro e w4 ⟨rfl, b4⟩
  have HB4 := Lib.hid (HB2.out.trans (b4.mono HB2.out.size))
  have HO4 := Lib.hid (own_below HO2.out b4)
  have HP4 := Lib.hid (HP2.out.below b4 (Nat.le_trans hB HB2.out.size))
  have HR4 := Lib.hid (HR3.out.below b4 (Nat.le_trans hB HB2.out.size))
  have HS := Lib.hid (same_any (Rd.of_own HO4.out) HR4.out)
  rw [eqB_refl] at HS
  clear b4 HTO HB2 HO2 HP2 HR3 HE2
  go_wp2_with fail
  refine HS.out.mono ?_
  rintro e w5 ⟨rfl, d5, rfl⟩
  have hd5 := Joins.below_draws w4.heap.size w4 d5
  obtain ⟨w5, hw5⟩ : ∃ w5, w5 = w4.drewN d5 := ⟨_, rfl⟩
  rw [← hw5] at hd5 ⊢
  clear hw5
  have HB5 := Lib.hid (HB4.out.trans (hd5.mono HB4.out.size))
  have HO5 := Lib.hid (own_below HO4.out hd5)
  have HP5 := Lib.hid (HP4.out.below hd5 (Nat.le_trans hB HB4.out.size))
  clear hd5 HS HB4 HO4 HP4 HR4
  by_cases hc : r.2.2.1 = 0
  · have g2 : (r.2.2.1 : Int) = 0 := by omega
    have hbk := readF_back (b := lp) (by rw [← HR.out]; exact hc)
    rw [← HR.out] at hbk
    obtain ⟨k1, k2, k3⟩ := hbk
    have HK := Lib.hid k1
    have g3 : (r.2.1 : Int) ≤ lp.length := by omega
    have HPUT := Lib.hid (fput_any (Rd.of_own HO5.out) (Nat.le_refl _) k2)
    clear k1
    go_wp2_with fail
    refine HPUT.out.mono ?_
    rintro e w6 ⟨v6, rfl, o6, b6⟩
    rw [HK.out] at o6
    have HB6 := Lib.hid (HB5.out.trans (b6.mono HB5.out.size))
    have HS6 := Lib.hid (same_any (Rd.of_own o6) ((HP5.out.below b6 (Nat.le_trans hB HB5.out.size)).take k3))
    rw [eqB_refl] at HS6
    obtain ⟨q6, c6, rfl⟩ := own_form o6
    have hcap : r.2.1 ≤ cp := Nat.le_trans k3 (rd_cap HP5.out)
    have g4 : (r.2.1 : Int) ≤ cp := by omega
    have hlt : (lp.take r.2.1).length = r.2.1 := by rw [List.length_take]; omega
    rw [hlt] at HS6
    clear o6 b6 HPUT HB5 HO5 HP5
    go_wp2_with fail
    refine HS6.out.mono ?_
    rintro e w7 ⟨rfl, d7, rfl⟩
    have HB7 := Lib.hid (HB6.out.trans ((Joins.below_draws w6.heap.size w6 d7).mono HB6.out.size))
    go_wp2_with fail
    go_ret
    exact ⟨rfl, HB7.out⟩
  · have g2 : ¬ (r.2.2.1 : Int) = 0 := by omega
    have hn := readF_none (b := lp) (by rw [← HR.out]; exact hc)
    rw [← HR.out] at hn
    have hz : r.1.length = 0 := by rw [hn]; rfl
    go_wp2_with fail
    go_ret
    exact ⟨rfl, HB5.out⟩
theorem reads_walk {B : Nat} {w : World} {vp : Value} {lp : List UInt8} (hp : Rd B w vp lp) (hB : B ≤ w.heap.size) (hg : ErrT w) :
    Calls Tryd.prog 6 #[vp] w fun e w' => e = .returned (.bool true) ∧ Below w.heap.size w w' := by
  by_cases h1 : 2000 < lp.length
  · exact reads_big hp hg h1
  · exact reads_small hp hB hg h1
end Go.Proofs.YthoehbgplmcobaaDoor
