/-
  vestrylaw05.FrameDamage: the walk.
-/
import Derived.Test.YthoehbgplmcobaaDoorFrG
namespace Go.Proofs.YthoehbgplmcobaaDoor
open Go.ChangeShapes Go.WideShapes Go.ChangeAt Go.RowKit
open errAs (ErrT)
set_option linter.unusedVariables false

/-- After j bits of the pattern; d counts from the first bit behind the number. -/
def Dmg (w2 wr : World) (g cap L d c : Nat) (l : List UInt8) (j : Nat) (m : List UInt8) (sm : Bool) : Prop :=
  wr.ownsRow w2.heap.size 5 1 (.slice (some ⟨g, 0, none⟩) L cap) L (bvs (put l.length ++ m)) ∧ m.length = l.length + 4 ∧ (∀ p, p < 8 * (l.length + 4) → bat m p = bat (sealed l) p ^^^ (if d ≤ p ∧ p < d + j then c / 2 ^ (p - d) % 2 else 0)) ∧ sm = decide (c % 2 ^ j = 0) ∧ (sm = true → m = sealed l) ∧ Below w2.heap.size w2 wr ∧ d + j ≤ 8 * (l.length + 4)
theorem lt_all {i P d N L : Nat} (h1 : L = P + N + 4) (hi : i = 8 * P + d) (hd : d < 8 * (N + 4)) : (i : Int) < 8 * (L : Int) := by omega
theorem mod_next (c j : Nat) : c % 2 ^ (j + 1) = c % 2 ^ j + 2 ^ j * (c / 2 ^ j % 2) := Nat.mod_pow_succ
theorem Dmg.zero {w2 wr : World} {g cap L d c : Nat} {l : List UInt8} {j : Nat} {m : List UInt8} {sm : Bool} (h : Dmg w2 wr g cap L d c l j m sm) (hb : ¬ c / 2 ^ j % 2 = 1) (hj : d + j < 8 * (l.length + 4)) : Dmg w2 wr g cap L d c l (j + 1) m sm := by
  obtain ⟨h1, h2, h3, h4, h4b, h5, h6⟩ := h
  refine ⟨h1, h2, fun p hp => ?_, ?_, h4b, h5, by omega⟩
  · rw [h3 p hp]
    congr 1
    by_cases e : p = d + j
    · rw [if_neg (by omega), if_pos (by omega), e, show d + j - d = j from by omega]; omega
    · by_cases e2 : d ≤ p ∧ p < d + j
      · rw [if_pos e2, if_pos (by omega)]
      · rw [if_neg e2, if_neg (by omega)]
  · rw [h4, mod_next, show c / 2 ^ j % 2 = 0 from by omega, Nat.mul_zero, Nat.add_zero]
theorem Dmg.one {w2 wr : World} {g cap L d c : Nat} {l : List UInt8} {j : Nat} {m : List UInt8} {sm : Bool} (h : Dmg w2 wr g cap L d c l j m sm) (hb : c / 2 ^ j % 2 = 1) (hj : d + j < 8 * (l.length + 4)) (hg : w2.heap.size ≤ g) {q : Nat} (hq : q = (put l.length).length + (d + j) / 8) {z : UInt8} (hz : z.toNat = (m.getD ((d + j) / 8) 0).toNat ^^^ 2 ^ ((d + j) % 8)) :
    Dmg w2 (wr.setCell ⟨g, q, none⟩ (bv z)) g cap L d c l (j + 1) (m.set ((d + j) / 8) z) false := by
  obtain ⟨h1, h2, h3, h4, h4b, h5, h6⟩ := h
  refine ⟨?_, by rw [List.length_set, h2], fun p hp => ?_, ?_, (fun h => by cases h), h5.setCell hg _, by omega⟩
  · have := own_set h1 q z rfl
    rw [hq, List.set_append_right _ _ (by omega), show (put l.length).length + (d + j) / 8 - (put l.length).length = (d + j) / 8 by omega] at this
    rw [hq]
    exact this
  · rw [bat_set m (d + j) p z (by rw [h2]; omega) hz, h3 p hp, Nat.xor_assoc]
    congr 1
    by_cases e : p = d + j
    · rw [if_neg (by omega), if_pos e, if_pos (by omega), e, show d + j - d = j from by omega, hb]; rfl
    · by_cases e2 : d ≤ p ∧ p < d + j
      · rw [if_pos e2, if_neg e, if_pos (by omega), Nat.xor_zero]
      · rw [if_neg e2, if_neg e, if_neg (by omega)]; rfl
  · symm
    apply decide_eq_false
    rw [mod_next, hb, Nat.mul_one]
    have := Nat.two_pow_pos j
    omega
theorem mod_bit (c j k : Nat) (hk : k < j) : c % 2 ^ j / 2 ^ k % 2 = c / 2 ^ k % 2 := by
  have h := Nat.testBit_mod_two_pow c j k
  rw [decide_eq_true hk, Bool.true_and] at h
  rw [← Nat.toNat_testBit, ← Nat.toNat_testBit, h]
theorem Dmg.reg {w2 wr : World} {g cap L d c : Nat} {l : List UInt8} {j : Nat} {m : List UInt8} {sm : Bool} (h : Dmg w2 wr g cap L d c l j m sm) (hj : j ≤ 32) : reg ones m = tn 32 ones ↔ c % 2 ^ j = 0 := by
  obtain ⟨h1, h2, h3, h4, h4b, h5, h6⟩ := h
  have hs := sealed_len l
  rw [← sealed_ok l]
  refine burst (sealed l) m d j (c % 2 ^ j) (by rw [h2, hs]) hj (by rw [hs]; exact h6) (Nat.mod_lt _ (Nat.two_pow_pos j)) (fun p hp => ?_)
  rw [h3 p (by rw [← hs]; exact hp)]
  congr 1
  by_cases e : d ≤ p ∧ p < d + j
  · rw [if_pos e, if_pos e, mod_bit _ _ _ (by omega)]
  · rw [if_neg e, if_neg e]
theorem Dmg.read {w2 wr : World} {g cap L d c : Nat} {l : List UInt8} {j : Nat} {m : List UInt8} {sm : Bool} (h : Dmg w2 wr g cap L d c l j m sm) (hj : j ≤ 32) (hl : l.length ≤ 65536) :
    readF (put l.length ++ m) = if sm = true then (l, (framed l).length, 0, 0) else ([], 0, 4, (put l.length).length) := by
  have hr := h.reg hj
  obtain ⟨h1, h2, h3, h4, h4b, h5, h6⟩ := h
  cases sm with
  | true =>
    rw [h4b rfl, if_pos rfl]
    have := readF_framed hl []
    rw [List.append_nil] at this
    exact this
  | false =>
    rw [if_neg (by simp)]
    have hn : num (put l.length ++ m) = (l.length, (put l.length).length, 0) := num_put (by unfold lim64; omega) _
    have hne : ¬ c % 2 ^ j = 0 := of_decide_eq_false h4.symm
    have hs : isSealed m = false := decide_eq_false (fun h => hne (hr.1 h.2))
    have hd : ((put l.length ++ m).drop (num (put l.length ++ m)).2.1).take ((num (put l.length ++ m)).1 + 4) = m := by
      rw [hn]
      show ((put l.length ++ m).drop (put l.length).length).take (l.length + 4) = m
      rw [List.drop_left, ← h2, List.take_length]
    rw [read_no (by rw [hn]) (by rw [hn]; show ¬ _ < l.length; omega) (by rw [hn, List.length_append, h2]; show ¬ _ < (put l.length).length + l.length + 4; omega) (by rw [hd]; exact hs), hn]
theorem and1 (c j : Nat) (hc : c < lim32) : bits .and .u32 ((c : Int) / 2 ^ j) 1 = ((c / 2 ^ j % 2 : Nat) : Int) := by
  have e : (c : Int) / 2 ^ j = ((c / 2 ^ j : Nat) : Int) := by simp
  have h := u32_and_nat (c / 2 ^ j) 1 (Nat.lt_of_le_of_lt (Nat.div_le_self _ _) hc) (by decide)
  rw [nat_mask1] at h
  rw [e]
  exact h

set_option maxRecDepth 100000 in
set_option maxHeartbeats 4000000 in
theorem damage_walk (x n t c : Nat) (hx : x < lim64) (hn : n < 65536) (ht : t < lim32) (hc : c < lim32) (hcz : c ≠ 0) (w : World) (hg : ErrT w) :
    Calls Tryd.prog 3 #[.int .u64 x, .int .u16 n, .int .u32 t, .int .u32 c] w fun e w' => e = .returned (.bool true) ∧ Below w.heap.size w w' := by
  have HE := Lib.hid hg
  have HX := Lib.hid hx
  have hc0 : (0 : Int) ≤ c := by omega
  have ht0 : (0 : Int) ≤ t := by omega
  have hn0 : (0 : Int) ≤ n := by omega
  have hn1 : (n : Int) < 65536 := by omega
  have hcb : ((c : Int) == 0) = false := by rw [beq_eq_false_iff_ne]; omega
  clear hx hg
  go_enter Tryd.func3, Tryd.ntmps3
  go_wp2_with fail
  refine (eawake_any _ HE.out).mono ?_
  rintro e w1 ⟨rfl, b1⟩
  have HE1 := Lib.hid (errT_below HE.out b1)
  have HB1 := Lib.hid b1
  clear b1
  go_wp2_with fail
  refine (spread_any x HX.out (n % 2000) (by omega) _).mono ?_
  rintro e w2 ⟨l, hl, v2, rfl, o2, b2⟩
  have HB2 := Lib.hid (HB1.out.trans (b2.mono HB1.out.size))
  have HE2 := Lib.hid (errT_below HE1.out b2)
  have r2 := Rd.of_own o2
  have HR2 := Lib.hid r2
  obtain ⟨q2, c2, rfl⟩ := own_form o2
  have hl2 : l.length ≤ 1999 := by omega
  clear b2 o2 hn hn1 hl
  have HPU := Lib.hid (rfput_any r2 (Nat.le_refl _) (by omega))
  clear r2
  go_wp2_with fail
  refine HPU.out.mono ?_
  rintro e w3 ⟨v3, rfl, o3, b3⟩
  have HE3 := Lib.hid (errT_below HE2.out b3)
  have HB3 := Lib.hid b3
  obtain ⟨P, hP⟩ : ∃ P, P = (put l.length).length := ⟨_, rfl⟩
  have hP3 : P ≤ 10 ∧ 1 ≤ P := by rw [hP]; exact ⟨put_len_le (by omega), put_pos _⟩
  obtain ⟨N, hN⟩ : ∃ N, N = l.length := ⟨_, rfl⟩
  obtain ⟨L, hL⟩ : ∃ L, L = (framed l).length := ⟨_, rfl⟩
  have hLP : L = P + N + 4 := by rw [hL, hP, hN]; unfold framed; rw [List.length_append, sealed_len]; omega
  rw [← hL] at o3
  obtain ⟨g, cap, rfl⟩ := Joins.ownsRow_form o3 (by omega)
  have HO3 := Lib.hid o3
  have HL := Lib.hid hL
  have HPP := Lib.hid hP
  have HNN := Lib.hid hN
  rw [← hN] at hl2
  rw [← hN]
  have i1 : (L : Int) - N - 4 = P := by omega
  have i2 : (L : Int) - P = N + 4 := by omega
  have hP0 : (0 : Int) ≤ P := by omega
  have hP1 : (P : Int) ≤ 10 := by omega
  have hN0 : (0 : Int) ≤ N := by omega
  have hN1 : (N : Int) ≤ 1999 := by omega
  have hL0 : (0 : Int) ≤ L := by omega
  have hL1 : (L : Int) ≤ 2013 := by omega
  have HLP := Lib.hid hLP
  clear hL hP hN hLP o3 b3 HPU HB1 HE HE1 HX
  go_upto_region 7 with (fail)
  have hidx : (wrap64 (t : Int)).tmod (8 * ((N : Int) + 4)) = ((t % (8 * (N + 4)) : Nat) : Int) := by
    have h := idx t (N + 4) ht
    have e : ((N + 4 : Nat) : Int) = (N : Int) + 4 := by omega
    rw [e] at h
    exact h
  rw [hidx]
  obtain ⟨d, hd⟩ : ∃ d, d = t % (8 * (N + 4)) := ⟨_, rfl⟩
  have hdl : d < 8 * (N + 4) := by rw [hd]; exact Nat.mod_lt _ (by omega)
  rw [← hd]
  clear hd hidx
  obtain ⟨i, hi⟩ : ∃ i, i = 8 * P + d := ⟨_, rfl⟩
  have hiw : wrap64 (8 * (P : Int) + (d : Int)) = (i : Int) := by unfold wrap64; omega
  rw [hiw]
  clear hiw
  have HI := Lib.hid hi
  have hi0 : (0 : Int) ≤ i := by omega
  have hi1 : (i : Int) < 8 * L := lt_all HLP.out hi hdl
  have HG : Hid (w2.heap.size ≤ g) := (World.ownsRow.lt HO3.out g rfl).1
  have HDL := Lib.hid hdl
  have HS : Hid (Dmg w2 w3 g cap L d c l 0 (sealed l) true) := ⟨HO3.out, sealed_len l, fun p hp => by rw [if_neg (by omega), Nat.xor_zero], by simp [Nat.mod_one], fun _ => rfl, HB3.out, by have := HNN.out; omega⟩
  clear HO3 hi hdl
  go_wp2_with fail
  go_loopw [13, 14] (fun sv jv wr => ∃ (j : Nat) (m : List UInt8) (sm : Bool), j ≤ 32 ∧ jv = .int .i64 j ∧ sv = .bool sm ∧ Hid (Dmg w2 wr g cap L d c l j m sm)) (fun _ jv _ => 32 - (intOf jv).toNat)
  case atStart => exact ⟨0, _, _, by omega, rfl, rfl, HS.out⟩
  case round =>
    obtain ⟨j, m, sm, hj, rfl, rfl, HB⟩ := hrel
    have hj0 : (0 : Int) ≤ j := by omega
    clear HS
    by_cases hlt : j < 32 ∧ i + j < 8 * L
    · obtain ⟨hj1, hj2⟩ := hlt
      have hj3 : (i : Int) + j < 8 * L := by omega
      have HJ2 : Hid (d + j < 8 * (l.length + 4)) := by show _ < _; have := HLP.out; have := HI.out; have := HNN.out; omega
      by_cases hbit : c / 2 ^ j % 2 = 1
      · have hb1 : (bits BinOp.and IntKind.u32 ((c : Int) / 2 ^ j) 1 == 1) = true := by rw [and1 c j hc, hbit]; rfl
        have HBIT := Lib.hid hbit
        clear hbit
        have hk8 : (i + j) / 8 < L := by omega
        have HKQ : Hid ((i + j) / 8 = (put l.length).length + (d + j) / 8 ∧ (i + j) % 8 = (d + j) % 8) := by show _ ∧ _; have := HI.out; have := HPP.out; omega
        obtain ⟨y, hy, HY⟩ : ∃ y : UInt8, wr.cell? ⟨g, (i + j) / 8, none⟩ = some (.int .u8 y.toNat) ∧ Hid (y = (put l.length ++ m).getD ((i + j) / 8) 0) := ⟨_, own_at HB.out.1 hk8, rfl⟩
        have HY2 : Hid (y = m.getD ((d + j) / 8) 0) := by
          show _ = _
          rw [HY.out, HKQ.out.1, List.getD_eq_getElem?_getD, List.getElem?_append_right (by omega), List.getD_eq_getElem?_getD]
          congr 2
          omega
        have hz := World.ownsRow.frozenAt HB.out.1 ((i + j) / 8)
        have hk1 : ((i : Int) + j) / 8 < L := by omega
        have hk0 : (0 : Int) ≤ ((i : Int) + j) / 8 := by omega
        go_wp2_with fail
        obtain ⟨z, hzv, hzn⟩ := u8_bit y ((i + j) % 8) (by omega)
        go_roundw
        case rel => exact ⟨j + 1, m.set ((d + j) / 8) z, false, by omega, by go_num, rfl, by rw [hzv]; exact HB.out.one HBIT.out HJ2.out HG.out HKQ.out.1 (by rw [hzn, HY2.out, HKQ.out.2])⟩
        case measure => simp [intOf]; omega
      · have hb1 : (bits BinOp.and IntKind.u32 ((c : Int) / 2 ^ j) 1 == 1) = false := by rw [and1 c j hc, beq_eq_false_iff_ne]; omega
        have HBIT := Lib.hid hbit
        clear hbit
        go_wp2_with fail
        go_roundw
        case rel => exact ⟨j + 1, m, sm, by omega, by go_num, rfl, HB.out.zero HBIT.out HJ2.out⟩
        case measure => simp [intOf]; omega
    · have HLN : Hid ((put l.length ++ m).length = L) := by show _ = _; rw [List.length_append, HB.out.2.1]; have := HLP.out; have := HPP.out; have := HNN.out; omega
      have hlr : readF (put l.length ++ m) = if sm = true then (l, (framed l).length, 0, 0) else ([], 0, 4, (put l.length).length) := HB.out.read hj (by have := HNN.out; omega)
      have HLR := Lib.hid hlr
      have r4 := Rd.of_own HB.out.1
      have b4 := HB.out.2.2.2.2.2.1
      have HRD := Lib.hid (fread_any r4 (Nat.le_refl _) (by rw [HLN.out]; omega) (errT_below HE2.out b4))
      have HB4 := Lib.hid b4
      have HE4 := Lib.hid (errT_below HE2.out b4)
      have HR4 := Lib.hid (HR2.out.below b4 (Nat.le_refl _))
      clear hlr r4 b4 HB hj
      have hend : (j : Int) < 32 → ¬ ((i : Int) + j < 8 * L) := by omega
      cases sm with
      | true =>
        have HF : Hid (readF (put l.length ++ m) = (l, (framed l).length, 0, 0)) := by show _ = _; rw [HLR.out]; rfl
        clear HLR
        go_wp2_with fail
        all_goals refine HRD.out.mono ?_
        all_goals rintro e w5 ⟨v5, rfl, o5, b5⟩
        all_goals rw [HF.out] at o5 ⊢
        all_goals rw [show errF (l, (framed l).length, 0, 0).2.2.1 (l, (framed l).length, 0, 0).2.2.2 = .nilIface from rfl]
        all_goals have HB5 := Lib.hid (HB4.out.trans (b5.mono HB4.out.size))
        all_goals have HS := Lib.hid (same_any (Rd.of_own o5) (HR4.out.below b5 HB4.out.size))
        all_goals rw [eqB_refl] at HS
        all_goals obtain ⟨q5, c5, hv5⟩ := own_form o5
        all_goals rw [show (l, (framed l).length, 0, 0).1 = l from rfl, ← HNN.out] at hv5
        all_goals subst hv5
        all_goals rw [← HNN.out] at HS
        all_goals clear o5 b5 HRD HB4 HE4 HR4
        all_goals go_wp2_with fail
        all_goals refine HS.out.mono ?_
        all_goals rintro e w6 ⟨rfl, d6, rfl⟩
        all_goals have HB6 := Lib.hid (HB2.out.trans ((HB5.out.trans ((Joins.below_draws w5.heap.size w5 d6).mono HB5.out.size)).mono HB2.out.size))
        all_goals go_wp2_with fail
        all_goals go_ret
        all_goals exact ⟨rfl, HB6.out⟩
      | false =>
        have HF : Hid (readF (put l.length ++ m) = ([], 0, 4, P)) := by show _ = _; rw [HLR.out, HPP.out]; rfl
        clear HLR
        go_wp2_with fail
        all_goals refine HRD.out.mono ?_
        all_goals rintro e w5 ⟨v5, rfl, o5, b5⟩
        all_goals rw [HF.out] at o5 ⊢
        all_goals rw [show errF ([], 0, 4, P).2.2.1 ([], 0, 4, P).2.2.2 = faultN 4 P from rfl]
        all_goals have HB5 := Lib.hid (HB4.out.trans (b5.mono HB4.out.size))
        all_goals have HTO := Lib.hid (told_fault 4 P (by decide) w5 (errT_below HE4.out b5))
        all_goals obtain ⟨q5, c5, hv5⟩ := own_form o5
        all_goals rw [show (([] : List UInt8), 0, 4, P).1.length = 0 from rfl] at hv5
        all_goals subst hv5
        all_goals clear o5 b5 HRD HB4 HE4 HR4
        all_goals go_wp2_with fail
        all_goals refine HTO.out.mono ?_
        all_goals rintro e w6 ⟨rfl, b6⟩
        all_goals have HB6 := Lib.hid (HB2.out.trans ((HB5.out.trans (b6.mono HB5.out.size)).mono HB2.out.size))
        all_goals go_wp2_with fail
        all_goals go_ret
        all_goals exact ⟨rfl, HB6.out⟩
set_option maxRecDepth 100000 in
theorem damage_zero (x n t : Nat) (w : World) (hg : ErrT w) :
    Calls Tryd.prog 3 #[.int .u64 x, .int .u16 n, .int .u32 t, .int .u32 0] w fun e w' => e = .returned (.bool true) ∧ Below w.heap.size w w' := by
  have HE := Lib.hid hg
  clear hg
  go_enter Tryd.func3, Tryd.ntmps3
  go_wp2_with fail
  refine (eawake_any _ HE.out).mono ?_
  rintro e w1 ⟨rfl, b1⟩
  have HE1 := Lib.hid (errT_below HE.out b1)
  have HB1 := Lib.hid b1
  clear b1
  go_wp2_with fail
  refine (eawake_any _ HE1.out).mono ?_
  rintro e w2 ⟨rfl, b2⟩
  go_wp2_with fail
  go_ret
  exact ⟨rfl, HB1.out.trans (b2.mono HB1.out.size)⟩
end Go.Proofs.YthoehbgplmcobaaDoor
