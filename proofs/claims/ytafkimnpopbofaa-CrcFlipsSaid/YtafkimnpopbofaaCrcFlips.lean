/-
  The statement CrcFlipsSaid: for all numbers the law CrcFlips returns true and changes nothing: a sealed string with one inverted bit is none.
-/
import Derived.Test.YtafkimnpopbofaaCrcDamage
import Derived.ShutString
import Derived.ChangeOld
namespace Go.Proofs.Ytafkimnpopbofaa.crcFlips
open Go.ChangeShapes Go.WideShapes Go.ChangeAt Go.RowKit
set_option linter.unusedVariables false

set_option maxRecDepth 100000 in
set_option maxHeartbeats 1000000 in
theorem walk (a0 a1 a2 : Int) (w : World) (h0 : (Lit.int .u64 a0).wf = true) (h1 : (Lit.int .u16 a1).wf = true) (h2 : (Lit.int .u32 a2).wf = true) :
    Calls Try.prog 5 #[.int .u64 a0, .int .u16 a1, .int .u32 a2] w fun e w' => e = .returned (.bool true) ∧ Below w.heap.size w w' := by
  obtain ⟨x, rfl, hx⟩ := u64_nat h0
  obtain ⟨n, rfl, hn⟩ : ∃ n : Nat, a1 = n ∧ n < 65536 := by
    have hb : 0 ≤ a1 ∧ a1 ≤ 65535 := by simpa [Lit.wf, IntKind.min, IntKind.max, IntKind.signed, IntKind.bits] using h1
    exact ⟨a1.toNat, by omega, by omega⟩
  obtain ⟨t, rfl, ht⟩ : ∃ n : Nat, a2 = n ∧ n < lim32 := by
    have hb : 0 ≤ a2 ∧ a2 ≤ 4294967295 := by simpa [Lit.wf, IntKind.min, IntKind.max, IntKind.signed, IntKind.bits] using h2
    exact ⟨a2.toNat, by omega, by unfold lim32; omega⟩
  clear h0 h1 h2
  have HX := Lib.hid hx
  clear hx
  have ht0 : (0 : Int) ≤ t := by omega
  have hn0 : (0 : Int) ≤ n := by omega
  have hn1 : (n : Int) < 65536 := by omega
  go_enter Try.func5, Try.ntmps5
  go_wp2_with fail
  refine (cawake_any _).mono ?_
  rintro e w1 ⟨rfl, B1⟩
  go_wp2_with fail
  refine (spread_any x HX.out (n % 3000) (by omega) _).mono ?_
  rintro e w2 ⟨l, hl, v2, rfl, o2, b2⟩
  have B2 := B1.trans (b2.mono B1.size)
  have r2 := Rd.of_own o2
  clear b2 o2 B1
  go_wp2_with fail
  refine (rseal_any r2 (Nat.le_refl _) (by omega)).mono ?_
  rintro e w3 ⟨v3, rfl, o3, b3⟩
  have B3 := B2.trans (b3.mono B2.size)
  obtain ⟨L, hL⟩ : ∃ L, L = (sealed l).length := ⟨_, rfl⟩
  have hL4 : L = l.length + 4 := by rw [hL]; simp [sealed, le4]
  rw [← hL] at o3
  obtain ⟨g, cap, rfl⟩ := Joins.ownsRow_form o3 (by omega)
  have hcell := o3.cellAt
  have hfr := o3.frozenAt
  have HO3 := Lib.hid o3
  have HL := Lib.hid hL
  have HG : Hid (w.heap.size ≤ g) := Nat.le_trans B2.size (World.ownsRow.lt o3 g rfl).1
  have hLb : 4 ≤ L ∧ L ≤ 3004 := by omega
  have hL0 : (4 : Int) ≤ L := by omega
  have hL1 : (L : Int) ≤ 3004 := by omega
  clear hL hL4 o3 b3 r2 B2 hl
  have hq : ∀ t, t < L → w3.cell? ⟨g, t, none⟩ = some (bv ((sealed l).getD t 0)) := by
    intro t ht
    rw [hcell t (by omega), bvs_getElem _ _ (by rw [← HL.out]; exact ht)]
  have HQ := Lib.hid hq
  clear hcell hq
  have HF := Lib.hid hfr
  clear hfr
  go_upto_region 5 with (fail)
  rw [idx t L ht]
  obtain ⟨i, hi⟩ : ∃ i, i = t % (8 * L) := ⟨_, rfl⟩
  have hiL : i < 8 * L := by rw [hi]; exact Nat.mod_lt _ (by omega)
  rw [← hi]
  have hi8 : i / 8 < L := by omega
  obtain ⟨y, hy, HY⟩ : ∃ y : UInt8, w3.cell? ⟨g, i / 8, none⟩ = some (.int .u8 y.toNat) ∧ Hid (y = (sealed l).getD (i / 8) 0) := ⟨_, HQ.out (i / 8) hi8, rfl⟩
  have hz := HF.out (i / 8)
  have hi0 : (0 : Int) ≤ i := by omega
  have hi1 : (i : Int) / 8 < L := by omega
  clear hi
  go_wp2_with fail
  obtain ⟨z, hzv, hzn⟩ := u8_bit y (i % 8) (by omega)
  rw [hzv]
  have o4 := own_set HO3.out (i / 8) z rfl
  obtain ⟨w4, hw4⟩ : ∃ w4, w4 = w3.setCell ⟨g, i / 8, none⟩ (bv z) := ⟨_, rfl⟩
  have B4 : Below w.heap.size w w4 := by rw [hw4]; exact B3.setCell (by show w.heap.size ≤ g; have := HG.out; omega) _
  rw [← hw4] at o4 ⊢
  have r4 := Rd.of_own (own_nl o4)
  have hlen : ((sealed l).set (i / 8) z).length = L := by rw [List.length_set, HL.out]
  have HN : ∀ a x0 x1 x2 x3, (sealed l).set (i / 8) z = a ++ [x0, x1, x2, x3] → le x0 x1 x2 x3 ≠ crc a := by
    intro a x0 x1 x2 x3 he hc
    have h1 := (sealed_reg a x0 x1 x2 x3).1 hc
    rw [← he, ← sealed_ok l] at h1
    have h2 := (burst (sealed l) ((sealed l).set (i / 8) z) i 1 1 (by rw [hlen, HL.out]) (by decide) (by rw [← HL.out]; omega) (by decide) (fun p hp => ?_)).1 h1
    · cases h2
    · rw [bat_set (sealed l) i p z (by rw [← HL.out]; exact hiL) (by rw [hzn, HY.out])]
      congr 1
      by_cases hpi : p = i
      · rw [if_pos hpi, if_pos (by omega), show p - i = 0 from by omega]
      · rw [if_neg hpi, if_neg (by omega)]
  obtain ⟨a, x0, x1, x2, x3, he⟩ := tail4 ((sealed l).set (i / 8) z) (by rw [hlen]; omega)
  have hne := HN _ _ _ _ _ he
  rw [he] at r4 hlen
  have hal : a.length ≤ 3004 := by simp at hlen; omega
  refine (open_no r4 (Nat.le_refl _) (by omega) hne).mono ?_
  rintro e w5 ⟨rfl, b5⟩
  have B5 := B4.trans (b5.mono B4.size)
  clear hw4 o4 r4 HN he hne b5 hzv hzn hlen
  go_wp2_with fail
  go_ret
  exact ⟨rfl, B5⟩

theorem own : ownKnob Try.prog.godebug = none := by kernel_rfl
theorem laidOut : laidOutB Try.prog = true := by kernel_rfl

set_option maxRecDepth 100000 in
theorem lifted (os : Os) (started : os.Started) (H : Type) (enc : TypeId × Value → H) :
    ReturnsInHanded {} Try.checked os 5 .any (Rows.crcFlipsSpec.pre6 enc Try.prog Try.f5 Rows.crcFlipsRow.domain false) (Rows.crcFlipsSpec.post enc Try.prog Try.f5 false true false false) := by
  refine returnsInHanded_of_change (C := Try.checked) own started (by kernel_rfl) Try.func5
    (ChangeSpec.witness6 (enc := enc) (C := Try.checked) false ⟨#[], #[.int .u64 0, .int .u16 0, .int .u32 0], []⟩ 8 (by kernel_rfl) (by kernel_rfl) (by kernel_rfl) (by kernel_rfl)) ?_
  intro W base args ds gs before hval0 hW hcnd _
  have hval : ∀ (j : Nat) t v, Try.f5.params[j]? = some t → args[j]? = some v → Value.okWide Try.prog W .any base t v := hval0
  have hW' := hW
  obtain ⟨p, q, hA0, hV, rfl, hfz, hnd⟩ := hW
  have hA : DataW.TrodAll enc Try.prog W 0 (fun _ => true) true Try.f5.params.toList args.toList ds p := hA0
  rw [Try.params5] at hA hval
  obtain ⟨v0, vs0, d0, ds0, p0, q0, hargs, rfl, rfl, h0, r0⟩ := trodAll_cons hA
  obtain ⟨v1, vs1, d1, ds1, p1, q1, rfl, rfl, rfl, h1, r1⟩ := trodAll_cons r0
  obtain ⟨v2, vs2, d2, ds2, p2, q2, rfl, rfl, rfl, h2, r2⟩ := trodAll_cons r1
  obtain ⟨rfl, rfl, rfl⟩ := trodAll_nil r2
  obtain rfl : args = #[v0, v1, v2] := by cases args; simp_all
  obtain ⟨rfl, rfl⟩ := trodVars_none hV
  obtain ⟨a0, rfl, rfl, rfl, w0⟩ := open_int Try.underlying35 (hval 0 35 v0 rfl rfl) h0
  obtain ⟨a1, rfl, rfl, rfl, w1⟩ := open_int Try.underlying36 (hval 1 36 v1 rfl rfl) h1
  obtain ⟨a2, rfl, rfl, rfl, w2⟩ := open_int Try.underlying26 (hval 2 26 v2 rfl rfl) h2
  clear hA0 hval0
  refine (walk a0 a1 a2 W w0 w1 w2).mono fun e W' ⟨he, bel⟩ => ?_
  subst he
  exact ⟨_, rfl, _, _, _, [], _, [], hW', trodAll_mk1 (shut_bool Try.underlying4 _), (trodAll_cons_mk (shut_int Try.underlying35 w0) (trodAll_cons_mk (shut_int Try.underlying36 w1) (trodAll_cons_mk (shut_int Try.underlying26 w2) trodAll_mk0))), rfl, bel.frame _, fun h => by cases h⟩

theorem over : Rows.crcFlipsRow.holds Try.pinned (OpenSpec.ofChange Rows.crcFlipsSpec) :=
  OpenClaim.holds_of_wide 5 Try.f5 rfl rfl rfl rfl rfl rfl rfl ⟨rfl, rfl, rfl, rfl, rfl⟩ rfl rfl rfl rfl rfl (by kernel_rfl) Try.func5 (by kernel_rfl)
    (of_decide_eq_true (by kernel_rfl)) (by unfold Func.isWrapper; first | (rw [if_pos (by decide +kernel)]; kernel_rfl) | (rw [if_neg (by decide +kernel)]; exact ⟨rfl, rfl⟩))
    (fun os started H enc _ => lifted os started H enc)

/-- THE STATEMENT -/
theorem proved : Rows.CrcFlipsSaid := over
end Go.Proofs.Ytafkimnpopbofaa.crcFlips
