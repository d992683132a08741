/-
  vestrylaw09.LexJoins.
-/
import Derived.Test.YtnhfcggecmncmaaDoorLexP
import Derived.Test.YtnhfcggecmncmaaDoorLexN
namespace Go.Proofs.YtnhfcggecmncmaaDoor
open Go.ChangeShapes Go.WideShapes Go.ChangeAt Go.RowKit
open errAs (ErrT)
set_option linter.unusedVariables false

theorem neqF (c d : Int) (w : World) : (binOp BinOp.neq 25 (.iface 62 (.agg #[.int .i64 c, .int .i64 d])) .nilIface).run Tryd.prog w = .ok (.bool true) w := by kernel_rfl
theorem fieldR (q : Option Addr) (n c : Nat) (x y : Int) (w : World) : (Instr.field 30 (.agg #[.slice q n c, .int .i64 x, .int .i64 y]) 1).run Tryd.prog w = .ok (.int .i64 x) w := by kernel_rfl
theorem err_nil {l : List UInt8} (h : (tokS l).2.1 ≠ 0) : (tokS l).1 = [] := tokF_err _ _ _ h
set_option maxRecDepth 100000 in
set_option maxHeartbeats 4000000 in
theorem joins_walk (s : ByteArray) (w : World) (hl : s.size ≤ 2000) (h : Env w) : Calls Tryd.prog 4 #[.string s] w fun e w' => e = .returned (.bool true) ∧ Below w.heap.size w w' := by
  have HE := Lib.hid h
  have g : ¬ (2000 : Int) < s.size := by omega
  have HS := Lib.hid hl
  clear h
  obtain ⟨R, hR⟩ : ∃ R, R = tokS s.data.toList := ⟨_, rfl⟩
  have HRL := tokS_len s.data.toList
  have HFT := (tokS_fits s.data.toList).mono (show _ ≤ 5000 by rw [size_len]; omega)
  have HJN : Hid (R.2.1 = 0 → (tokS (joinT R.1)).2.1 = 0 ∧ sameT (tokS (joinT R.1)).1 R.1 = true) := fun h => by rw [hR] at h ⊢; exact joined h
  have HEN : Hid (R.2.1 ≠ 0 → R.1 = []) := fun h => by rw [hR] at h ⊢; exact err_nil h
  rw [← hR, size_len] at HRL
  rw [← hR] at HFT
  have HRR := Lib.hid hR
  have HRL := Lib.hid HRL
  have HFT := Lib.hid HFT
  clear hR
  go_enter Tryd.func4, Tryd.ntmps4
  go_wp2_with fail
  refine (awake_any _ HE.out).mono ?_
  rintro e w1 ⟨rfl, b1⟩
  have HE1 := Lib.hid (HE.out.below b1)
  have HB1 := Lib.hid b1
  clear b1
  go_wp2_with fail
  refine (lex_any s (by omega) w1 HE1.out.1).mono ?_
  rintro e w2 ⟨vl, rfl, t2, b2⟩
  have HE2 := Lib.hid (HE1.out.below b2)
  have HB2 := Lib.hid (HB1.out.trans (b2.mono HB1.out.size))
  have HT2 := t2.rd
  rw [← HRR.out] at HT2 ⊢
  have HT2 := Lib.hid HT2
  obtain ⟨ql, cl, rfl, _⟩ := HT2.out
  clear b2 t2
  by_cases hc : R.2.1 = 0
  · obtain ⟨hj1, hj2⟩ := HJN.out hc
    have HJ1 := Lib.hid hj1
    have HJ2 := Lib.hid hj2
    rw [show errF R.2.1 R.2.2 = .nilIface by unfold errF; rw [if_pos hc]]
    clear hc hj1 hj2
    go_wp2_with fail
    refine (ljoin_any HT2.out (Nat.le_refl _) (by have := HRL.out; omega) (HFT.out.mono (by omega))).mono ?_
    rintro e w3 ⟨rfl, b3⟩
    have HT3 := Lib.hid (HT2.out.later b3)
    have HB3 := Lib.hid (HB2.out.trans (b3.mono HB2.out.size))
    have HE3 := Lib.hid (HE2.out.below b3)
    obtain ⟨J, hJ⟩ : ∃ J, J = joinT R.1 := ⟨_, rfl⟩
    have HJL : Hid (J.length ≤ 5000) := by have := HFT.out.join R.1.length (Nat.le_refl _); rw [List.take_length] at this; show _ ≤ _; rw [hJ]; exact this
    have HLX := lex_any (bstr J) (by rw [bstr_size]; have := HJL.out; omega) w3 HE3.out.1
    rw [bstr_data] at HLX
    rw [← hJ] at HJ1 HJ2 ⊢
    obtain ⟨R', hR'⟩ : ∃ R', R' = tokS J := ⟨_, rfl⟩
    have HRL' : Hid (R'.1.length ≤ 5001) := by have := tokS_len J; have := HJL.out; show _ ≤ _; rw [hR']; omega
    rw [← hR'] at HLX HJ1 HJ2
    have HLX := Lib.hid HLX
    have HJJ := Lib.hid hJ
    clear b3 hJ hR' HT2 HB2 HE2
    go_wp2_with fail
    refine HLX.out.mono ?_
    rintro e w4 ⟨va, rfl, t4, b4⟩
    have HT4 := Lib.hid (HT3.out.later b4)
    have HA4 := Lib.hid t4.rd
    have HB4 := Lib.hid (HB3.out.trans (b4.mono HB3.out.size))
    rw [show errF R'.2.1 R'.2.2 = .nilIface by unfold errF; rw [if_pos HJ1.out]]
    obtain ⟨qa, ca, rfl, _⟩ := HA4.out
    clear b4 t4 HLX HT3 HB3 HE3
    go_wp2_with fail
    refine (back_any HT4.out (Nat.le_refl _) (by have := HRL.out; omega)).mono ?_
    rintro e w5 ⟨v5, rfl, t5, b5⟩
    have HT5 := Lib.hid (HT4.out.later b5)
    have HA5 := Lib.hid (HA4.out.later b5)
    have HB5 := Lib.hid (HB4.out.trans (b5.mono HB4.out.size))
    have HK5 := Lib.hid t5.rd
    obtain ⟨q5, c5, rfl, _⟩ := HK5.out
    clear b5 t5 HT4 HA4 HB4
    go_wp2_with fail
    refine (rjoin_any HK5.out (by have := HRL.out; omega) (HFT.out.mono (by omega))).mono ?_
    rintro e w6 ⟨rfl, rfl⟩
    rw [← HJJ.out]
    go_wp2_with fail
    refine (lsame HA5.out HT5.out (by have := HRL'.out; omega) (by have := HRL.out; omega)).mono ?_
    rintro e w6 ⟨rfl, n6, rfl⟩
    rw [HJ2.out]
    have hb6 := Joins.below_draws w5.heap.size w5 n6
    have HT6 := Lib.hid (HT5.out.later hb6)
    have HA6 := Lib.hid (HA5.out.later hb6)
    have HB6 := Lib.hid (HB5.out.trans (hb6.mono HB5.out.size))
    clear hb6 HT5 HA5 HB5 HK5
    generalize w5.drewN n6 = w6 at HT6 HA6 HB6 ⊢
    go_wp2_with fail
    refine (back_any HA6.out (Nat.le_refl _) (by have := HRL'.out; omega)).mono ?_
    rintro e w7 ⟨v7, rfl, t7, b7⟩
    have HT7 := Lib.hid (HT6.out.later b7)
    have HK7 := Lib.hid t7.rd
    have HB7 := Lib.hid (HB6.out.trans (b7.mono HB6.out.size))
    obtain ⟨q7, c7, rfl, _⟩ := HK7.out
    clear b7 t7 HT6 HA6 HB6
    go_wp2_with fail
    refine (back_any HT7.out (Nat.le_refl _) (by have := HRL.out; omega)).mono ?_
    rintro e w8 ⟨v8, rfl, t8, b8⟩
    have HK8 := Lib.hid (HK7.out.later b8)
    have HM8 := Lib.hid t8.rd
    have HB8 := Lib.hid (HB7.out.trans (b8.mono HB7.out.size))
    obtain ⟨q8, c8, rfl, _⟩ := HM8.out
    clear b8 t8 HT7 HK7 HB7
    go_wp2_with fail
    refine (rsameT HK8.out HM8.out (by have := HRL'.out; omega) (by have := HRL.out; omega)).mono ?_
    rintro e w9 ⟨rfl, n9, rfl⟩
    rw [HJ2.out]
    have HB9 := Lib.hid (HB8.out.trans ((Joins.below_draws w8.heap.size w8 n9).mono HB8.out.size))
    go_wp2_with fail
    go_ret
    exact ⟨rfl, HB9.out⟩
  · have HNQ := neqF R.2.1 R.2.2
    have hr0 : R.1.length = 0 := by rw [HEN.out hc]; rfl
    have hcb : ((R.2.1 : Int) != 0) = true := by rw [bne_iff_ne]; omega
    rw [show errF R.2.1 R.2.2 = faultN R.2.1 R.2.2 by unfold errF; rw [if_neg hc], hr0]
    unfold faultN
    clear hc hr0
    go_wp2_with fail
    refine (rlex_any s (by omega) w2).mono ?_
    rintro e w3 ⟨vr, rfl, t3, b3⟩
    rw [← HRR.out]
    have HB3 := Lib.hid (HB2.out.trans (b3.mono HB2.out.size))
    obtain ⟨qr, cr, rfl, _⟩ := t3.form
    clear b3 t3
    have hfd := fieldR
    go_wp2_with fail
    go_ret
    exact ⟨rfl, HB3.out⟩
set_option maxRecDepth 100000 in
set_option maxHeartbeats 2000000 in
theorem joins_any (s : ByteArray) (w : World) (hs : s.size ≤ maxLen) (h : Env w) : Calls Tryd.prog 4 #[.string s] w fun e w' => e = .returned (.bool true) ∧ Below w.heap.size w w' := by
  unfold maxLen at hs
  by_cases hl : s.size ≤ 2000
  · exact joins_walk s w hl h
  · have HE := Lib.hid h
    have g : (2000 : Int) < s.size := by omega
    clear h
    go_enter Tryd.func4, Tryd.ntmps4
    go_wp2_with fail
    refine (awake_any _ HE.out).mono ?_
    rintro e w1 ⟨rfl, b1⟩
    have HB1 := Lib.hid b1
    have HE1 := Lib.hid (HE.out.below b1)
    clear b1
    go_wp2_with fail
    refine (awake_any _ HE1.out).mono ?_
    rintro e w2 ⟨rfl, b2⟩
    have HB2 := Lib.hid (HB1.out.trans (b2.mono HB1.out.size))
    clear b2
    go_wp2_with fail
    go_ret
    exact ⟨rfl, HB2.out⟩
end Go.Proofs.YtnhfcggecmncmaaDoor
