/-
  merge.Range.
-/
import Derived.Test.YtebbbiikphfjcaaMgD
namespace Go.Proofs.Ytebbbiikphfjcaa
open Go.ChangeShapes Go.WideShapes Go.ChangeAt Go.RowKit Go.Lib Go.Sort
set_option linter.unusedVariables false

theorem clone_sl {w : World} {v' : Value} {l : List Tu} {B : Nat} (h : (v' = .slice none 0 0 ∧ l = []) ∨ ∃ g c, v' = .slice (some ⟨g, 0, none⟩) l.length c ∧ l.length ≤ c ∧ B ≤ g ∧ g < w.heap.size ∧ HoldsK tc 6 w g 0 l.toArray) : TuSl w v' l := by
  rcases h with h | ⟨g, c, h1, h2, _, h4, h5⟩
  · exact .inl h
  · exact .inr ⟨g, 0, c, h1, h2, h4, row_of_holds (r := []) (by rw [List.append_nil]; exact h5)⟩
theorem runT_cons (o : ByteArray × ByteArray) (t : Tu) (l : List Tu) : runT o (t :: l) = if decide (ordO (objT t) o = 0) = true then runT o l + 1 else 0 := by
  rw [runT]
  by_cases h : ordO (objT t) o = 0
  · simp [h]
  · simp [h]
set_option maxRecDepth 100000 in
set_option maxHeartbeats 4000000 in
theorem mrange_any {w : World} {av : Value} {l : List Tu} (oa ob : ByteArray) (h : TuSl w av l) (hr : Ris l) (hl : l.length ≤ 1000000) :
    Calls Try.prog 20 #[av, .agg #[.string oa, .string ob]] w fun e w' => ∃ v', e = .returned v' ∧ Below w.heap.size w w' ∧ TuSl w' v' (rangeT l (oa, ob)) := by
  have HLA := Lib.hid hl
  have HRIS := Lib.hid hr
  have hb0 : Below w.heap.size w (w.alloc (.cells #[.string oa, .string ob] 32)) := (Below.refl _ _).alloc (Nat.le_refl _) _
  have HB0 := Lib.hid hb0
  have HT0 : Hid (Arr (w.alloc (.cells #[.string oa, .string ob] 32)) 32 w.heap.size [.string oa, .string ob]) := Arr.new' _ _ _ _ rfl
  have HC := Lib.hid (bsO_any oa ob (h.below hb0) hr hl)
  obtain ⟨pa, c, rfl, hc, hs⟩ := h.src
  have HS := Lib.hid hs
  clear h hb0 hs hr
  go_enter Try.func20, Try.ntmps20
  go_upto_region 1 with (fail)
  generalize w.alloc (.cells #[.string oa, .string ob] 32) = w0 at HB0 HT0 HC ⊢
  have x0 := HT0.out.cell 0
  have x1 := HT0.out.cell 1
  simp only [List.getElem?_cons_zero, List.getElem?_cons_succ] at x0 x1
  go_wp2_with fail
  refine HC.out.mono ?_
  rintro e w1 ⟨p, hcut, rfl, b1⟩
  have HB1 := Lib.hid (HB0.out.trans (b1.mono HB0.out.size))
  have HT1 : Hid (Arr w1 32 w.heap.size [.string oa, .string ob]) := Arr.later HT0.out b1
  have hple := hcut.1
  have HRC := Lib.hid (range_cut HRIS.out hcut)
  obtain ⟨fb, hfb⟩ : ∃ x, x = (decide (p < l.length) && decide (ordO (objT (l.getD p t0)) (oa, ob) = 0)) := ⟨_, rfl⟩
  rw [← hfb]
  clear hfb hcut b1 HC HB0 HT0 x0 x1
  go_wp2_with fail
  go_loopg [7] (l.length + 1) (fun g s7 wr => ∃ k : Nat, p + k ≤ l.length ∧ l.length + 1 - (p + k) ≤ g ∧ s7 = .int .i64 (p + k : Nat) ∧ Below w.heap.size w wr ∧ Arr wr 32 w.heap.size [.string oa, .string ob] ∧ runT (oa, ob) (l.drop p) = k + runT (oa, ob) (l.drop (p + k)))
  case atStart => exact ⟨0, by omega, by omega, rfl, HB1.out, HT1.out, by rw [Nat.zero_add]; rfl⟩
  case round =>
    obtain ⟨k, hk, hg, rfl, hb, ht, hrun⟩ := hrel
    have HB := Lib.hid hb
    have HT := Lib.hid ht
    have HRUN := Lib.hid hrun
    clear hb ht hrun HB1 HT1
    obtain ⟨n, hn⟩ : ∃ n, n = p + k := ⟨_, rfl⟩
    have HN := Lib.hid hn
    rw [← hn] at hk hg HRUN ⊢
    have hpn : p ≤ n := by omega
    have hkn : n - p = k := by omega
    clear hn
    by_cases hlt : n < l.length
    · have hlt' : (n : Int) < l.length := by omega
      obtain ⟨b, off, rfl, hbl, ri⟩ := HS.out.row hlt
      obtain ⟨x, hx⟩ : ∃ x, x = l[n] := ⟨_, rfl⟩
      rw [← hx] at ri
      have HDR : Hid (l.drop n = x :: l.drop (n + 1)) := by show _ = _; rw [drop_at hlt, ← hx]
      have hbd : Below wr.heap.size wr wr.drew := (Below.refl wr.heap.size wr).drew
      have HB2 := Lib.hid (HB.out.trans (hbd.mono HB.out.size))
      have HT2 : Hid (Arr wr.drew 32 w.heap.size [.string oa, .string ob]) := Arr.later HT.out hbd
      have HRO : Hid ((wr.drew).rangeAt b (off + n * 6) [.string x.ot, .string x.oi]) := range_obj (range_below ri hbl HB2.out)
      have HRT : Hid ((wr.drew).rangeAt w.heap.size 0 [.string oa, .string ob]) := Arr.range HT2.out
      have HBL := Lib.hid hbl
      clear hx ri hbl hbd HB HT
      go_wp2_with fail
      refine region_tail 11 (by kernel_rfl) (by kernel_rfl) ?_
      simp only [List.take_succ_cons, List.take_zero, List.drop_succ_cons, List.drop_zero]
      repeat first
        | still_step
        | ((with_reducible refine stillO (x := .tmp 23) (o := ⟨some 24, _, _, _, _, _⟩) HRO.out ?_ ?_); exact ⟨rfl, rfl, by go_simp⟩)
        | ((with_reducible refine stillO (x := .tmp 3) (o := ⟨some 25, _, _, _, _, _⟩) HRT.out ?_ ?_); exact ⟨rfl, rfl, by go_simp⟩)
      refine wpStill_nil ?_
      clear HRO HRT
      generalize wr.drew = wz at HB2 HT2 ⊢
      rcases hh : eqO x oa ob with _ | _
      · have HEQ := Lib.hid hh
        have HKR : Hid (runT (oa, ob) (l.drop p) = k) := by
          show _ = _
          rw [HRUN.out, HDR.out, runT_cons, eqO_ord, hh]; rfl
        obtain ⟨L, hL⟩ : ∃ L, L = (l.drop p).take k := ⟨_, rfl⟩
        have HLL : Hid (L.length ≤ 1000000) := by show _ ≤ _; rw [hL, List.length_take, List.length_drop]; have := HLA.out; omega
        have HRES : Hid (rangeT l (oa, ob) = L) := by show _ = _; rw [HRC.out, HKR.out, hL]
        have hpc : ¬ c = p := by omega
        have HSL : Hid (TuSl wz (.slice (some ⟨b, off + p * 6, none⟩) (n - p) (c - p)) L) := by
          have hlen : ((l.drop p).take k).length = n - p := by rw [List.length_take, List.length_drop]; omega
          rw [hL, ← hlen]
          have h1 := ((HS.out.below HB2.out).drop (c' := c) (k := p) (by omega)).take k
          rcases h1 with ⟨_, h1, _⟩ | ⟨b2, off2, e2, h2, h3⟩
          · cases h1
          · simp only [Option.some.injEq, Addr.mk.injEq, and_true] at e2
            obtain ⟨rfl, rfl⟩ := e2
            exact .inr ⟨_, _, _, rfl, by rw [List.length_take, List.length_drop]; omega, h2, h3⟩
        have HBz := HB2
        clear hh hL hkn
        go_upto_region 5 with ((with_reducible refine eqWO HEQ.out (t := 32) (x := .tmp 24) (y := .tmp 25) (o := ⟨some 26, _, _, _, _, _⟩) ?_ ?_); exact ⟨rfl, rfl, rfl, rfl⟩)
        have hcp : p < c := by omega
        have HC := Lib.hid (clone_any (w := wz) (sv := .slice (some ⟨b, off + p * 6, none⟩) (n - p) (c - p)) (l := L) HSL.out HLL.out)
        go_wp2_with fail
        refine HC.out.mono ?_
        rintro e w3 ⟨v3, rfl, b3, h3⟩
        have HB3 := Lib.hid (HBz.out.trans (b3.mono HBz.out.size))
        have HV := Lib.hid (clone_sl h3)
        clear b3 h3 HC
        go_wp2_with fail
        go_ret
        refine ⟨_, rfl, HB3.out, ?_⟩
        rw [HRES.out]
        exact HV.out
      · have HEQ := Lib.hid hh
        have HRN : Hid (runT (oa, ob) (l.drop p) = (k + 1) + runT (oa, ob) (l.drop (n + 1))) := by
          show _ = _
          rw [HRUN.out, HDR.out, runT_cons, eqO_ord, hh]
          show k + (runT (oa, ob) (l.drop (n + 1)) + 1) = _
          omega
        clear hh
        go_wp2_with ((with_reducible refine eqWO HEQ.out (t := 32) (x := .tmp 24) (y := .tmp 25) (o := ⟨some 26, _, _, _, _, _⟩) ?_ ?_); exact ⟨rfl, rfl, rfl, rfl⟩)
        go_roundg (l.length + 1 - (n + 1))
        case measure => omega
        case rel => exact ⟨k + 1, by omega, by omega, by rw [show p + (k + 1) = n + 1 by omega]; go_num, HB2.out, HT2.out, by rw [show p + (k + 1) = n + 1 by omega]; exact HRN.out⟩
    · have hlt' : ¬ (n : Int) < l.length := by omega
      have hnl : n = l.length := by omega
      have HKR : Hid (runT (oa, ob) (l.drop p) = k) := by
        show _ = _
        rw [HRUN.out, List.drop_of_length_le (by omega), runT]; rfl
      obtain ⟨L, hL⟩ : ∃ L, L = (l.drop p).take k := ⟨_, rfl⟩
      have HLL : Hid (L.length ≤ 1000000) := by show _ ≤ _; rw [hL, List.length_take, List.length_drop]; have := HLA.out; omega
      have HRES : Hid (rangeT l (oa, ob) = L) := by show _ = _; rw [HRC.out, HKR.out, hL]
      have HNL := Lib.hid hnl
      have HKN := Lib.hid hkn
      have HPN := Lib.hid hpn
      clear hnl hkn
      have HBz := Lib.hid (HB.out.trans ((Below.refl wr.heap.size wr).drew.mono HB.out.size))
      clear HB HT
      go_wp2_with fail
      refine region_tail 11 (by kernel_rfl) (by kernel_rfl) ?_
      simp only [List.take_succ_cons, List.take_zero, List.drop_succ_cons, List.drop_zero]
      repeat still_step
      refine wpStill_nil ?_
      generalize wr.drew = wz at HBz ⊢
      go_upto_region 5 with (fail)
      have hcl : l.length ≤ c := hc
      rcases HS.out with ⟨h1, h2, h3⟩ | ⟨b, off, h1, h2, h3⟩
      · subst h1 h2 h3
        obtain rfl : p = 0 := by simpa using hple
        obtain rfl : n = 0 := by have := HNL.out; simpa using this
        obtain rfl : k = 0 := by have := HKN.out; omega
        have HSL : Hid (TuSl wz (.slice none 0 0) L) := .inl ⟨rfl, by rw [hL]; rfl⟩
        clear hlt' hpn hk hg hL HNL HKN HPN
        have HC := Lib.hid (clone_any (w := wz) (sv := .slice none 0 0) (l := L) HSL.out HLL.out)
        go_wp2_with fail
        refine HC.out.mono ?_
        rintro e w3 ⟨v3, rfl, b3, h3⟩
        have HB3 := Lib.hid (HBz.out.trans (b3.mono HBz.out.size))
        have HV := Lib.hid (clone_sl h3)
        clear b3 h3 HC
        go_wp2_with fail
        go_ret
        refine ⟨_, rfl, HB3.out, ?_⟩
        rw [HRES.out]
        exact HV.out
      · subst h1
        have hSL0 := ((HS.out.below HBz.out).drop (c' := c) (k := p) (by omega)).take k
        have hlen : ((l.drop p).take k).length = n - p := by rw [List.length_take, List.length_drop]; have := HNL.out; have := HKN.out; omega
        by_cases hcp : c = p
        · have hk0 : k = 0 := by have := HNL.out; have := HKN.out; omega
          have HSL : Hid (TuSl wz (.slice (some ⟨b, off, none⟩) 0 0) L) := by
            rw [hL, hk0, List.take_zero]; exact TuSl.zero (Nat.lt_of_lt_of_le h2 HBz.out.size)
          have hnp : n = p := by have := HNL.out; omega
          clear hSL0 hlen h3 hL HNL HKN HPN
          subst hnp hcp
          have HC := Lib.hid (clone_any (w := wz) (sv := .slice (some ⟨b, off, none⟩) 0 0) (l := L) HSL.out HLL.out)
          go_wp2_with fail
          refine HC.out.mono ?_
          rintro e w3 ⟨v3, rfl, b3, h3⟩
          have HB3 := Lib.hid (HBz.out.trans (b3.mono HBz.out.size))
          have HV := Lib.hid (clone_sl h3)
          clear b3 h3 HC
          go_wp2_with fail
          go_ret
          refine ⟨_, rfl, HB3.out, ?_⟩
          rw [HRES.out]
          exact HV.out
        · have hcp2 : p < c := by omega
          have HSL : Hid (TuSl wz (.slice (some ⟨b, off + p * 6, none⟩) (n - p) (c - p)) L) := by
            rw [hL]
            rcases hSL0 with ⟨_, h1, _⟩ | ⟨b2, off2, e2, h2, h3⟩
            · cases h1
            · simp only [Option.some.injEq, Addr.mk.injEq, and_true] at e2
              obtain ⟨rfl, rfl⟩ := e2
              rw [← hlen]
              exact .inr ⟨_, _, _, rfl, by rw [List.length_take, List.length_drop]; omega, h2, h3⟩
          clear hSL0 hlen h3 hL
          have HC := Lib.hid (clone_any (w := wz) (sv := .slice (some ⟨b, off + p * 6, none⟩) (n - p) (c - p)) (l := L) HSL.out HLL.out)
          go_wp2_with fail
          refine HC.out.mono ?_
          rintro e w3 ⟨v3, rfl, b3, h3⟩
          have HB3 := Lib.hid (HBz.out.trans (b3.mono HBz.out.size))
          have HV := Lib.hid (clone_sl h3)
          clear b3 h3 HC
          go_wp2_with fail
          go_ret
          refine ⟨_, rfl, HB3.out, ?_⟩
          rw [HRES.out]
          exact HV.out
end Go.Proofs.Ytebbbiikphfjcaa
