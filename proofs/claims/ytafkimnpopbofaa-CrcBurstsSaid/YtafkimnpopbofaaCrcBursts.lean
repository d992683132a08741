/-
  The statement CrcBurstsSaid: for all numbers the law CrcBursts returns true and changes nothing: a sealed string in which bits within 32 that follow each other are inverted is none, and it is one if none is inverted.
-/
import Derived.Test.YtafkimnpopbofaaCrcDamage
import Derived.ShutString
import Derived.ChangeOld
namespace Go.Proofs.Ytafkimnpopbofaa.crcBursts
open Go.ChangeShapes Go.WideShapes Go.ChangeAt Go.RowKit
set_option linter.unusedVariables false

/-- After j bits of the pattern. -/
def Burst (w w2 wr : World) (g cap L i c : Nat) (l : List UInt8) (j : Nat) (m : List UInt8) (sm : Bool) : Prop :=
  wr.ownsRow w2.heap.size 5 1 (.slice (some ⟨g, 0, none⟩) L cap) L (bvs m) ∧ m.length = L ∧ (∀ p, p < 8 * L → bat m p = bat (sealed l) p ^^^ (if i ≤ p ∧ p < i + j then c / 2 ^ (p - i) % 2 else 0)) ∧ sm = decide (c % 2 ^ j = 0) ∧ Below w.heap.size w wr ∧ i + j ≤ 8 * L
theorem mod_next (c j : Nat) : c % 2 ^ (j + 1) = c % 2 ^ j + 2 ^ j * (c / 2 ^ j % 2) := Nat.mod_pow_succ
theorem Burst.zero {w w2 wr : World} {g cap L i c : Nat} {l : List UInt8} {j : Nat} {m : List UInt8} {sm : Bool} (h : Burst w w2 wr g cap L i c l j m sm) (hb : ¬ c / 2 ^ j % 2 = 1) (hj : i + j < 8 * L) : Burst w w2 wr g cap L i c l (j + 1) m sm := by
  obtain ⟨h1, h2, h3, h4, h5, h6⟩ := h
  refine ⟨h1, h2, fun p hp => ?_, ?_, h5, by omega⟩
  · rw [h3 p hp]
    congr 1
    by_cases e : p = i + j
    · rw [if_neg (by omega), if_pos (by omega), e, show i + j - i = j from by omega]; omega
    · by_cases e2 : i ≤ p ∧ p < i + j
      · rw [if_pos e2, if_pos (by omega)]
      · rw [if_neg e2, if_neg (by omega)]
  · rw [h4, mod_next, show c / 2 ^ j % 2 = 0 from by omega, Nat.mul_zero, Nat.add_zero]
theorem Burst.one {w w2 wr : World} {g cap L i c : Nat} {l : List UInt8} {j : Nat} {m : List UInt8} {sm : Bool} (h : Burst w w2 wr g cap L i c l j m sm) (hb : c / 2 ^ j % 2 = 1) (hj : i + j < 8 * L) (hL : L = (sealed l).length) (hg : w.heap.size ≤ g) {z : UInt8} (hz : z.toNat = (m.getD ((i + j) / 8) 0).toNat ^^^ 2 ^ ((i + j) % 8)) :
    Burst w w2 (wr.setCell ⟨g, (i + j) / 8, none⟩ (bv z)) g cap L i c l (j + 1) (m.set ((i + j) / 8) z) false := by
  obtain ⟨h1, h2, h3, h4, h5, h6⟩ := h
  refine ⟨own_set h1 _ z rfl, by rw [List.length_set, h2], fun p hp => ?_, ?_, h5.setCell hg _, by omega⟩
  · rw [bat_set m (i + j) p z (by rw [h2]; omega) hz, h3 p hp, Nat.xor_assoc]
    congr 1
    by_cases e : p = i + j
    · rw [if_neg (by omega), if_pos e, if_pos (by omega), e, show i + j - i = j from by omega, hb]; rfl
    · by_cases e2 : i ≤ p ∧ p < i + j
      · rw [if_pos e2, if_neg e, if_pos (by omega), Nat.xor_zero]
      · rw [if_neg e2, if_neg e, if_neg (by omega)]; rfl
  · symm
    apply decide_eq_false
    rw [mod_next, hb, Nat.mul_one]
    have := Nat.two_pow_pos j
    omega
theorem mod_bit (c j k : Nat) (hk : k < j) : c % 2 ^ j / 2 ^ k % 2 = c / 2 ^ k % 2 := by
  have h := Nat.testBit_mod_two_pow c j k
  rw [decide_eq_true hk, Bool.true_and] at h
  rw [← Nat.toNat_testBit, ← Nat.toNat_testBit, h]
theorem Burst.reg {w w2 wr : World} {g cap L i c : Nat} {l : List UInt8} {j : Nat} {m : List UInt8} {sm : Bool} (h : Burst w w2 wr g cap L i c l j m sm) (hL : L = (sealed l).length) (hj : j ≤ 32) : reg ones m = tn 32 ones ↔ c % 2 ^ j = 0 := by
  obtain ⟨h1, h2, h3, h4, h5, h6⟩ := h
  rw [← sealed_ok l]
  refine burst (sealed l) m i j (c % 2 ^ j) (by rw [h2, hL]) hj (by rw [← hL]; exact h6) (Nat.mod_lt _ (Nat.two_pow_pos j)) (fun p hp => ?_)
  rw [h3 p (by rw [hL]; exact hp)]
  congr 1
  by_cases e : i ≤ p ∧ p < i + j
  · rw [if_pos e, if_pos e, mod_bit _ _ _ (by omega)]
  · rw [if_neg e, if_neg e]
theorem and1 (c j : Nat) (hc : c < lim32) : bits .and .u32 ((c : Int) / 2 ^ j) 1 = ((c / 2 ^ j % 2 : Nat) : Int) := by
  have e : (c : Int) / 2 ^ j = ((c / 2 ^ j : Nat) : Int) := by simp
  have h := u32_and_nat (c / 2 ^ j) 1 (Nat.lt_of_le_of_lt (Nat.div_le_self _ _) hc) (by decide)
  rw [nat_mask1] at h
  rw [e]
  exact h

set_option maxRecDepth 100000 in
set_option maxHeartbeats 1000000 in
theorem walk (a0 a1 a2 a3 : Int) (w : World) (h0 : (Lit.int .u64 a0).wf = true) (h1 : (Lit.int .u16 a1).wf = true) (h2 : (Lit.int .u32 a2).wf = true) (h3 : (Lit.int .u32 a3).wf = true) :
    Calls Try.prog 6 #[.int .u64 a0, .int .u16 a1, .int .u32 a2, .int .u32 a3] w fun e w' => e = .returned (.bool true) ∧ Below w.heap.size w w' := by
  obtain ⟨x, rfl, hx⟩ := u64_nat h0
  obtain ⟨n, rfl, hn⟩ : ∃ n : Nat, a1 = n ∧ n < 65536 := by
    have hb : 0 ≤ a1 ∧ a1 ≤ 65535 := by simpa [Lit.wf, IntKind.min, IntKind.max, IntKind.signed, IntKind.bits] using h1
    exact ⟨a1.toNat, by omega, by omega⟩
  obtain ⟨t, rfl, ht⟩ : ∃ n : Nat, a2 = n ∧ n < lim32 := by
    have hb : 0 ≤ a2 ∧ a2 ≤ 4294967295 := by simpa [Lit.wf, IntKind.min, IntKind.max, IntKind.signed, IntKind.bits] using h2
    exact ⟨a2.toNat, by omega, by unfold lim32; omega⟩
  obtain ⟨c, rfl, hc⟩ : ∃ n : Nat, a3 = n ∧ n < lim32 := by
    have hb : 0 ≤ a3 ∧ a3 ≤ 4294967295 := by simpa [Lit.wf, IntKind.min, IntKind.max, IntKind.signed, IntKind.bits] using h3
    exact ⟨a3.toNat, by omega, by unfold lim32; omega⟩
  clear h0 h1 h2 h3
  have hc0 : (0 : Int) ≤ c := by omega
  have HX := Lib.hid hx
  clear hx
  have ht0 : (0 : Int) ≤ t := by omega
  have hn0 : (0 : Int) ≤ n := by omega
  have hn1 : (n : Int) < 65536 := by omega
  by_cases hcz : c = 0
  · subst hcz
    go_enter Try.func6, Try.ntmps6
    go_wp2_with fail
    refine (cawake_any _).mono ?_
    rintro e w1 ⟨rfl, B1⟩
    go_wp2_with fail
    refine (cawake_any _).mono ?_
    rintro e w2 ⟨rfl, b2⟩
    go_wp2_with fail
    go_ret
    exact ⟨rfl, B1.trans (b2.mono B1.size)⟩
  have hcb : ((c : Int) == 0) = false := by rw [beq_eq_false_iff_ne]; omega
  go_enter Try.func6, Try.ntmps6
  go_wp2_with fail
  refine (cawake_any _).mono ?_
  rintro e w1 ⟨rfl, B1⟩
  go_wp2_with fail
  refine (spread_any x HX.out (n % 3000) (by omega) _).mono ?_
  rintro e w2 ⟨l, hl, v2, rfl, o2, b2⟩
  have B2 := B1.trans (b2.mono B1.size)
  have r2 := Rd.of_own o2
  clear b2 o2 B1 hn hn1
  go_wp2_with fail
  refine (rseal_any r2 (Nat.le_refl _) (by omega)).mono ?_
  rintro e w3 ⟨v3, rfl, o3, b3⟩
  have B3 := B2.trans (b3.mono B2.size)
  obtain ⟨L, hL⟩ : ∃ L, L = (sealed l).length := ⟨_, rfl⟩
  have hL4 : L = l.length + 4 := by rw [hL]; simp [sealed, le4]
  rw [← hL] at o3
  obtain ⟨g, cap, rfl⟩ := Joins.ownsRow_form o3 (by omega)
  have hcell := o3.cellAt
  have hfr := o3.frozenAt
  have HO3 := Lib.hid o3
  have HL := Lib.hid hL
  have HG : Hid (w.heap.size ≤ g) := Nat.le_trans B2.size (World.ownsRow.lt o3 g rfl).1
  have hLb : 4 ≤ L ∧ L ≤ 3004 := by omega
  have hL0 : (4 : Int) ≤ L := by omega
  have hL1 : (L : Int) ≤ 3004 := by omega
  clear hL hL4 o3 b3 r2 B2 hl
  have hq : ∀ t, t < L → w3.cell? ⟨g, t, none⟩ = some (bv ((sealed l).getD t 0)) := by
    intro t ht
    rw [hcell t (by omega), bvs_getElem _ _ (by rw [← HL.out]; exact ht)]
  have HQ := Lib.hid hq
  clear hcell hq
  have HF := Lib.hid hfr
  clear hfr
  go_upto_region 5 with (fail)
  rw [idx t L ht]
  obtain ⟨i, hi⟩ : ∃ i, i = t % (8 * L) := ⟨_, rfl⟩
  have hiL : i < 8 * L := by rw [hi]; exact Nat.mod_lt _ (by omega)
  rw [← hi]
  have hi0 : (0 : Int) ≤ i := by omega
  have hi1 : (i : Int) < 8 * L := by omega
  clear hi
  have HS : Hid (Burst w w2 w3 g cap L i c l 0 (sealed l) true) := ⟨HO3.out, by rw [HL.out], fun p hp => by rw [if_neg (by omega), Nat.xor_zero], by simp [Nat.mod_one], B3, by omega⟩
  clear HO3 HQ HF B3
  go_wp2_with fail
  go_loopw [11, 12] (fun sv jv wr => ∃ (j : Nat) (m : List UInt8) (sm : Bool), j ≤ 32 ∧ jv = .int .i64 j ∧ sv = .bool sm ∧ Hid (Burst w w2 wr g cap L i c l j m sm)) (fun _ jv _ => 32 - (intOf jv).toNat)
  case atStart => exact ⟨0, _, _, by omega, rfl, rfl, HS.out⟩
  case round =>
    obtain ⟨j, m, sm, hj, rfl, rfl, HB⟩ := hrel
    have hj0 : (0 : Int) ≤ j := by omega
    clear HS
    by_cases hlt : j < 32 ∧ i + j < 8 * L
    · obtain ⟨hj1, hj2⟩ := hlt
      have hj3 : (i : Int) + j < 8 * L := by omega
      by_cases hbit : c / 2 ^ j % 2 = 1
      · have hb1 : (bits BinOp.and IntKind.u32 ((c : Int) / 2 ^ j) 1 == 1) = true := by rw [and1 c j hc, hbit]; rfl
        have HBIT := Lib.hid hbit
        clear hbit
        have hk8 : (i + j) / 8 < L := by omega
        obtain ⟨y, hy, HY⟩ : ∃ y : UInt8, wr.cell? ⟨g, (i + j) / 8, none⟩ = some (.int .u8 y.toNat) ∧ Hid (y = m.getD ((i + j) / 8) 0) := ⟨_, own_at HB.out.1 hk8, rfl⟩
        have hz := World.ownsRow.frozenAt HB.out.1 ((i + j) / 8)
        have hk1 : ((i : Int) + j) / 8 < L := by omega
        have hk0 : (0 : Int) ≤ ((i : Int) + j) / 8 := by omega
        go_wp2_with fail
        obtain ⟨z, hzv, hzn⟩ := u8_bit y ((i + j) % 8) (by omega)
        go_roundw
        case rel => exact ⟨j + 1, m.set ((i + j) / 8) z, false, by omega, by go_num, rfl, by rw [hzv]; exact HB.out.one HBIT.out hj2 HL.out HG.out (by rw [hzn, HY.out])⟩
        case measure => simp [intOf]; omega
      · have hb1 : (bits BinOp.and IntKind.u32 ((c : Int) / 2 ^ j) 1 == 1) = false := by rw [and1 c j hc, beq_eq_false_iff_ne]; omega
        have HBIT := Lib.hid hbit
        clear hbit
        go_wp2_with fail
        go_roundw
        case rel => exact ⟨j + 1, m, sm, by omega, by go_num, rfl, HB.out.zero HBIT.out hj2⟩
        case measure => simp [intOf]; omega
    · have hend : ((j : Int) < 32 ∧ (i : Int) + j < 8 * L) → False := by omega
      obtain ⟨h1, h2, h3, h4, h5, h6⟩ := HB.out
      have r4 := Rd.of_own (own_nl h1)
      have HK := Lib.hid (Burst.reg HB.out HL.out hj)
      have HSM := Lib.hid h4
      have hj32 : (j : Int) ≤ 32 := by omega
      have h6' : (i : Int) + j ≤ 8 * L := by omega
      obtain ⟨a, x0, x1, x2, x3, he⟩ := tail4 m (by omega)
      rw [he] at r4
      have hal : a.length ≤ 3004 := by have := congrArg List.length he; simp at this; omega
      have hsr := sealed_reg a x0 x1 x2 x3
      rw [← he] at hsr
      have HSR := Lib.hid hsr
      have HR := Lib.hid r4
      have h5z := h5.size
      clear he hsr r4 h1 h2 h3 h4 HB hj
      by_cases hv : c % 2 ^ j = 0
      · obtain rfl : sm = true := by rw [HSM.out]; exact decide_eq_true hv
        have HE := Lib.hid (HSR.out.2 (HK.out.2 hv))
        clear hv HK HSR HSM
        by_cases hj32' : j < 32
        · have t1 : ¬ ((i : Int) + j < 8 * L) := by omega
          have t0 : (j : Int) < 32 := by omega
          clear hend hlt
          go_wp2_with fail
          refine (open_yes HR.out (Nat.le_refl _) (by omega) HE.out).mono ?_
          rintro e w5 ⟨v5, rfl, o5, b5⟩
          have B5 := h5.trans (b5.mono h5z)
          clear o5 b5
          go_wp2_with fail
          go_ret
          exact ⟨rfl, B5⟩
        · have t0 : ¬ (j : Int) < 32 := by omega
          clear hend hlt
          go_wp2_with fail
          refine (open_yes HR.out (Nat.le_refl _) (by omega) HE.out).mono ?_
          rintro e w5 ⟨v5, rfl, o5, b5⟩
          have B5 := h5.trans (b5.mono h5z)
          clear o5 b5
          go_wp2_with fail
          go_ret
          exact ⟨rfl, B5⟩
      · obtain rfl : sm = false := by rw [HSM.out]; exact decide_eq_false hv
        have HE : Hid (le x0 x1 x2 x3 ≠ crc a) := fun h => hv (HK.out.1 (HSR.out.1 h))
        clear hv HK HSR HSM
        by_cases hj32' : j < 32
        · have t1 : ¬ ((i : Int) + j < 8 * L) := by omega
          have t0 : (j : Int) < 32 := by omega
          clear hend hlt
          go_wp2_with fail
          refine (open_no HR.out (Nat.le_refl _) (by omega) HE.out).mono ?_
          rintro e w5 ⟨rfl, b5⟩
          have B5 := h5.trans (b5.mono h5z)
          clear b5
          go_wp2_with fail
          go_ret
          exact ⟨rfl, B5⟩
        · have t0 : ¬ (j : Int) < 32 := by omega
          clear hend hlt
          go_wp2_with fail
          refine (open_no HR.out (Nat.le_refl _) (by omega) HE.out).mono ?_
          rintro e w5 ⟨rfl, b5⟩
          have B5 := h5.trans (b5.mono h5z)
          clear b5
          go_wp2_with fail
          go_ret
          exact ⟨rfl, B5⟩

theorem own : ownKnob Try.prog.godebug = none := by kernel_rfl
theorem laidOut : laidOutB Try.prog = true := by kernel_rfl

set_option maxRecDepth 100000 in
theorem lifted (os : Os) (started : os.Started) (H : Type) (enc : TypeId × Value → H) :
    ReturnsInHanded {} Try.checked os 6 .any (Rows.crcBurstsSpec.pre6 enc Try.prog Try.f6 Rows.crcBurstsRow.domain false) (Rows.crcBurstsSpec.post enc Try.prog Try.f6 false true false false) := by
  refine returnsInHanded_of_change (C := Try.checked) own started (by kernel_rfl) Try.func6
    (ChangeSpec.witness6 (enc := enc) (C := Try.checked) false ⟨#[], #[.int .u64 0, .int .u16 0, .int .u32 0, .int .u32 0], []⟩ 8 (by kernel_rfl) (by kernel_rfl) (by kernel_rfl) (by kernel_rfl)) ?_
  intro W base args ds gs before hval0 hW hcnd _
  have hval : ∀ (j : Nat) t v, Try.f6.params[j]? = some t → args[j]? = some v → Value.okWide Try.prog W .any base t v := hval0
  have hW' := hW
  obtain ⟨p, q, hA0, hV, rfl, hfz, hnd⟩ := hW
  have hA : DataW.TrodAll enc Try.prog W 0 (fun _ => true) true Try.f6.params.toList args.toList ds p := hA0
  rw [Try.params6] at hA hval
  obtain ⟨v0, vs0, d0, ds0, p0, q0, hargs, rfl, rfl, h0, r0⟩ := trodAll_cons hA
  obtain ⟨v1, vs1, d1, ds1, p1, q1, rfl, rfl, rfl, h1, r1⟩ := trodAll_cons r0
  obtain ⟨v2, vs2, d2, ds2, p2, q2, rfl, rfl, rfl, h2, r2⟩ := trodAll_cons r1
  obtain ⟨v3, vs3, d3, ds3, p3, q3, rfl, rfl, rfl, h3, r3⟩ := trodAll_cons r2
  obtain ⟨rfl, rfl, rfl⟩ := trodAll_nil r3
  obtain rfl : args = #[v0, v1, v2, v3] := by cases args; simp_all
  obtain ⟨rfl, rfl⟩ := trodVars_none hV
  obtain ⟨a0, rfl, rfl, rfl, w0⟩ := open_int Try.underlying35 (hval 0 35 v0 rfl rfl) h0
  obtain ⟨a1, rfl, rfl, rfl, w1⟩ := open_int Try.underlying36 (hval 1 36 v1 rfl rfl) h1
  obtain ⟨a2, rfl, rfl, rfl, w2⟩ := open_int Try.underlying26 (hval 2 26 v2 rfl rfl) h2
  obtain ⟨a3, rfl, rfl, rfl, w3⟩ := open_int Try.underlying26 (hval 3 26 v3 rfl rfl) h3
  clear hA0 hval0
  refine (walk a0 a1 a2 a3 W w0 w1 w2 w3).mono fun e W' ⟨he, bel⟩ => ?_
  subst he
  exact ⟨_, rfl, _, _, _, [], _, [], hW', trodAll_mk1 (shut_bool Try.underlying4 _), (trodAll_cons_mk (shut_int Try.underlying35 w0) (trodAll_cons_mk (shut_int Try.underlying36 w1) (trodAll_cons_mk (shut_int Try.underlying26 w2) (trodAll_cons_mk (shut_int Try.underlying26 w3) trodAll_mk0)))), rfl, bel.frame _, fun h => by cases h⟩

theorem over : Rows.crcBurstsRow.holds Try.pinned (OpenSpec.ofChange Rows.crcBurstsSpec) :=
  OpenClaim.holds_of_wide 6 Try.f6 rfl rfl rfl rfl rfl rfl rfl ⟨rfl, rfl, rfl, rfl, rfl⟩ rfl rfl rfl rfl rfl (by kernel_rfl) Try.func6 (by kernel_rfl)
    (of_decide_eq_true (by kernel_rfl)) (by unfold Func.isWrapper; first | (rw [if_pos (by decide +kernel)]; kernel_rfl) | (rw [if_neg (by decide +kernel)]; exact ⟨rfl, rfl⟩))
    (fun os started H enc _ => lifted os started H enc)

/-- THE STATEMENT -/
theorem proved : Rows.CrcBurstsSaid := over
end Go.Proofs.Ytafkimnpopbofaa.crcBursts
