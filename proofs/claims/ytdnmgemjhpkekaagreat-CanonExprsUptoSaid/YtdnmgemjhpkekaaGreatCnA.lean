/-
  expr.Compare with its exact world: what it makes is new blocks and draws.
-/
import Derived.Test.YtdnmgemjhpkekaaGreatExM
import Derived.Sort.Grow
namespace Go.Proofs.YtdnmgemjhpkekaaGreat
open Go.ChangeShapes Go.WideShapes Go.ChangeAt Go.RowKit
set_option linter.unusedVariables false

theorem exact_of {w w' : World} (h : Below w.heap.size w w') (hd : w.drawn ≤ w'.drawn) : ∃ q os, w' = Go.Sort.grow (w.drewN q) os := by
  refine ⟨w'.drawn - w.drawn, w'.heap.extract w.heap.size w'.heap.size, ?_⟩
  obtain ⟨hp, tp, dr, os, ou⟩ := w
  obtain ⟨hp', tp', dr', os', ou'⟩ := w'
  obtain ⟨h1, h2, h3, h4, h5⟩ := h
  simp only at h1 h2 h3 h4 h5 hd
  subst h1 h2 h3
  simp only [Go.Sort.grow, World.drewN, World.mk.injEq, true_and, and_true]
  refine ⟨?_, by omega⟩
  apply Array.ext_getElem?
  intro i
  rw [Array.getElem?_append]
  by_cases hi : i < hp.size
  · rw [if_pos hi, h5 i hi]
  · rw [if_neg hi, Array.getElem?_extract]
    by_cases hj : i < hp'.size
    · rw [if_pos (by omega)]
      congr 1
      omega
    · rw [if_neg (by omega), Array.getElem?_eq_none (by omega)]
set_option maxRecDepth 100000 in
set_option maxHeartbeats 4000000 in
theorem cmpf_gw (n : Nat) (HC : Hid (∀ (x y : Ex) (vx vy : Value) (P Q : Nat → Prop) (W : World), sizeE x ≤ n → sizeE y ≤ 900000 → RdE P W x vx → RdE Q W y vy → (∀ b, P b → b < W.heap.size) → (∀ b, Q b → b < W.heap.size) → Calls Tryz.prog 34 #[vx, vy] W fun r w' => r = .returned (.int .i64 (cmpE x y)) ∧ Below W.heap.size W w' ∧ W.drawn ≤ w'.drawn))
    (ks ls : List Ex) (q ql : Option Addr) (c cl : Nat) (P Q : Nat → Prop) (w : World) (hks : sizeL ks ≤ n) (hkm : sizeL ks ≤ 900000) (hlm : sizeL ls ≤ 900000)
    (hk : 0 < ks.length → ∃ b o, q = some ⟨b, o, none⟩ ∧ P b ∧ RdL P w ks b o) (hl' : 0 < ls.length → ∃ b o, ql = some ⟨b, o, none⟩ ∧ Q b ∧ RdL Q w ls b o) (hP : ∀ b, P b → b < w.heap.size) (hQ : ∀ b, Q b → b < w.heap.size) :
    Calls Tryz.prog 58 #[.slice q ks.length c, .slice ql ls.length cl, .func (.func 34) #[] #[]] w fun r w' => r = .returned (.int .i64 (cmpL ks ls)) ∧ Below w.heap.size w w' ∧ w.drawn ≤ w'.drawn := by
  have HK : Hid (0 < ks.length → ∃ b o, q = some ⟨b, o, none⟩ ∧ P b ∧ RdL P w ks b o) := hk
  have HL : Hid (0 < ls.length → ∃ b o, ql = some ⟨b, o, none⟩ ∧ Q b ∧ RdL Q w ls b o) := hl'
  have hlen := sizeL_len ks
  have hlen2 := sizeL_len ls
  clear hk hl'
  go_enter Tryz.func58, Tryz.ntmps58
  go_wp2_with fail
  go_loopw [13] (fun iv wr => ∃ i : Nat, i ≤ ks.length ∧ i ≤ ls.length ∧ iv = .int .i64 i ∧ Hid (cmpL (ks.drop i) (ls.drop i) = cmpL ks ls) ∧ Hid (Below w.heap.size w wr) ∧ Hid (w.drawn ≤ wr.drawn)) (fun iv _ => ks.length - (intOf iv).toNat)
  case atStart => exact ⟨0, Nat.zero_le _, Nat.zero_le _, rfl, rfl, Below.refl _ _, Nat.le_refl _⟩
  case round =>
    obtain ⟨i, hi, hil, rfl, HD, HI, HDN⟩ := hrel
    have hi0 : (0 : Int) ≤ i := by omega
    by_cases hlt : i < ks.length
    · have hi1 : (i : Int) < ks.length := by omega
      by_cases hlt2 : i < ls.length
      · have hi2 : (i : Int) < ls.length := by omega
        obtain ⟨ba, oa, rfl, hba, hl⟩ := HK.out (by omega)
        obtain ⟨x, hx⟩ : ∃ x, x = ks.getD i ex0 := ⟨_, rfl⟩
        obtain ⟨q2, c2, x0, x1, x2, x3, hr⟩ := hl.at hlt
        have hxs := sizeL_get ks i hlt
        have hxd := depthL_get ks i hlt
        rw [← hx] at x0 x1 x2 x3 hr hxs hxd
        have HX := Lib.hid hx
        obtain ⟨xk, xv2, xn2, xs⟩ := x
        have cc : ∀ n, wr.cell? ⟨ba, n, none⟩ = w.cell? ⟨ba, n, none⟩ := fun n => (HI.out).cell (p := ⟨ba, n, none⟩) (hP _ hba)
        have X0 : wr.cell? ⟨ba, oa + i * 4, none⟩ = some (.int .i64 xk) := (cc _).trans x0
        have X1 : wr.cell? ⟨ba, oa + i * 4 + 1, none⟩ = some (.string (bstr xv2)) := (cc _).trans x1
        have X2 : wr.cell? ⟨ba, oa + i * 4 + 2, none⟩ = some (.string (bstr xn2)) := (cc _).trans x2
        have X3 : wr.cell? ⟨ba, oa + i * 4 + 3, none⟩ = some (.slice q2 xs.length c2) := (cc _).trans x3
        clear x0 x1 x2 x3 cc hx
        have HBA : Hid (Below wr.heap.size wr (wr.alloc (.cells #[.int .i64 xk, .string (bstr xv2), .string (bstr xn2), .slice q2 xs.length c2] 24))) := (Below.refl _ _).alloc (Nat.le_refl _) _
        obtain ⟨bab, oab, rfl, hbab, hlb⟩ := HL.out (by omega)
        obtain ⟨x, hx⟩ : ∃ x, x = ls.getD i ex0 := ⟨_, rfl⟩
        obtain ⟨q2b, c2b, x0, x1, x2, x3, hrb⟩ := hlb.at hlt2
        have hxsb := sizeL_get ls i hlt2
        have hxdb := depthL_get ls i hlt2
        rw [← hx] at x0 x1 x2 x3 hrb hxsb hxdb
        have HXb := Lib.hid hx
        obtain ⟨xkb, xv2b, xn2b, xsb⟩ := x
        have cc : ∀ n, (wr.alloc (.cells #[.int .i64 xk, .string (bstr xv2), .string (bstr xn2), .slice q2 xs.length c2] 24)).cell? ⟨bab, n, none⟩ = w.cell? ⟨bab, n, none⟩ := fun n => (HI.out.trans (HBA.out.mono HI.out.size)).cell (p := ⟨bab, n, none⟩) (hQ _ hbab)
        have X0b : (wr.alloc (.cells #[.int .i64 xk, .string (bstr xv2), .string (bstr xn2), .slice q2 xs.length c2] 24)).cell? ⟨bab, oab + i * 4, none⟩ = some (.int .i64 xkb) := (cc _).trans x0
        have X1b : (wr.alloc (.cells #[.int .i64 xk, .string (bstr xv2), .string (bstr xn2), .slice q2 xs.length c2] 24)).cell? ⟨bab, oab + i * 4 + 1, none⟩ = some (.string (bstr xv2b)) := (cc _).trans x1
        have X2b : (wr.alloc (.cells #[.int .i64 xk, .string (bstr xv2), .string (bstr xn2), .slice q2 xs.length c2] 24)).cell? ⟨bab, oab + i * 4 + 2, none⟩ = some (.string (bstr xn2b)) := (cc _).trans x2
        have X3b : (wr.alloc (.cells #[.int .i64 xk, .string (bstr xv2), .string (bstr xn2), .slice q2 xs.length c2] 24)).cell? ⟨bab, oab + i * 4 + 3, none⟩ = some (.slice q2b xsb.length c2b) := (cc _).trans x3
        clear x0 x1 x2 x3 cc hx
        have HST := Lib.hid (cmpL_step hlt hlt2)
        have HBB : Hid (Below wr.heap.size wr ((wr.alloc (.cells #[.int .i64 xk, .string (bstr xv2), .string (bstr xn2), .slice q2 xs.length c2] 24)).alloc (.cells #[.int .i64 xkb, .string (bstr xv2b), .string (bstr xn2b), .slice q2b xsb.length c2b] 24))) := HBA.out.alloc HBA.out.size _
        have HRA : Hid (RdE P ((wr.alloc (.cells #[.int .i64 xk, .string (bstr xv2), .string (bstr xn2), .slice q2 xs.length c2] 24)).alloc (.cells #[.int .i64 xkb, .string (bstr xv2b), .string (bstr xn2b), .slice q2b xsb.length c2b] 24)) (.mk xk xv2 xn2 xs) (.agg #[.int .i64 xk, .string (bstr xv2), .string (bstr xn2), .slice q2 xs.length c2])) := (hr.below HI.out hP).below HBB.out (fun b hb => Nat.lt_of_lt_of_le (hP b hb) HI.out.size)
        have HRB : Hid (RdE Q ((wr.alloc (.cells #[.int .i64 xk, .string (bstr xv2), .string (bstr xn2), .slice q2 xs.length c2] 24)).alloc (.cells #[.int .i64 xkb, .string (bstr xv2b), .string (bstr xn2b), .slice q2b xsb.length c2b] 24)) (.mk xkb xv2b xn2b xsb) (.agg #[.int .i64 xkb, .string (bstr xv2b), .string (bstr xn2b), .slice q2b xsb.length c2b])) := (hrb.below HI.out hQ).below HBB.out (fun b hb => Nat.lt_of_lt_of_le (hQ b hb) HI.out.size)
        have HCC := HC.out (.mk xk xv2 xn2 xs) (.mk xkb xv2b xn2b xsb) _ _ P Q ((wr.alloc (.cells #[.int .i64 xk, .string (bstr xv2), .string (bstr xn2), .slice q2 xs.length c2] 24)).alloc (.cells #[.int .i64 xkb, .string (bstr xv2b), .string (bstr xn2b), .slice q2b xsb.length c2b] 24)) (by omega) (by omega) HRA.out HRB.out (fun b hb => Nat.lt_of_lt_of_le (hP b hb) (Nat.le_trans HI.out.size HBB.out.size)) (fun b hb => Nat.lt_of_lt_of_le (hQ b hb) (Nat.le_trans HI.out.size HBB.out.size))
        obtain ⟨E, hE⟩ : ∃ E, E = cmpE (.mk xk xv2 xn2 xs) (.mk xkb xv2b xn2b xsb) := ⟨_, rfl⟩
        rw [← hE] at HCC
        have HED := Lib.hid hE
        have HCC := Lib.hid HCC
        clear hl hlb hr hrb hxs hxd hxsb hxdb hE
        go_wp2_with fail
        refine HCC.out.mono ?_
        rintro r w5 ⟨rfl, b5, d5⟩
        have HD5 : Hid (w.drawn ≤ w5.drawn) := Nat.le_trans HDN.out d5
        clear d5
        have HB5 := Lib.hid (HI.out.trans ((HBB.out.trans (b5.mono HBB.out.size)).mono HI.out.size))
        clear b5
        by_cases hz : E = 0
        · have bz : (E != 0) = false := by rw [hz]; rfl
          have HNX : Hid (cmpL (ks.drop (i + 1)) (ls.drop (i + 1)) = cmpL ks ls) := by show _ = _; rw [← HD.out, HST.out, ← HX.out, ← HXb.out, ← HED.out, orL2, if_pos hz]
          clear hz
          go_wp2_with fail
          go_roundw
          case rel => exact ⟨i + 1, by omega, by omega, by go_num, HNX.out, HB5.out, HD5.out⟩
          case measure => simp [intOf]; omega
        · have bz : (E != 0) = true := by rw [bne_iff_ne]; exact hz
          have HNX : Hid (cmpL ks ls = E) := by show _ = _; rw [← HD.out, HST.out, ← HX.out, ← HXb.out, ← HED.out, orL2, if_neg hz]
          clear hz
          go_wp2_with fail
          go_ret
          exact ⟨by rw [HNX.out]; rfl, HB5.out, HD5.out⟩
      · have hi2 : ¬ (i : Int) < ls.length := by omega
        have HNX : Hid (cmpL ks ls = 1) := by
          show _ = _
          rw [← HD.out, List.drop_eq_getElem_cons hlt, List.drop_of_length_le (show ls.length ≤ i by omega)]
          unfold cmpL; rfl
        have HK1 := HK.out (by omega)
        obtain ⟨ba, oa, rfl, hba, hl⟩ := HK1
        obtain ⟨q2, c2, x0, x1, x2, x3, hr⟩ := hl.at hlt
        have cc : ∀ n, wr.cell? ⟨ba, n, none⟩ = w.cell? ⟨ba, n, none⟩ := fun n => (HI.out).cell (p := ⟨ba, n, none⟩) (hP _ hba)
        have X0 := (cc _).trans x0
        have X1 := (cc _).trans x1
        have X2 := (cc _).trans x2
        have X3 := (cc _).trans x3
        clear x0 x1 x2 x3 cc hr hl
        go_wp2_with fail
        go_ret
        exact ⟨by rw [HNX.out]; rfl, HI.out.alloc HI.out.size _, HDN.out⟩
    · have hi1 : ¬ (i : Int) < ks.length := by omega
      by_cases hlt2 : ks.length < ls.length
      · have hi2 : (ks.length : Int) < ls.length := by omega
        have HNX : Hid (cmpL ks ls = -1) := by
          show _ = _
          rw [← HD.out, List.drop_of_length_le (show ks.length ≤ i by omega), List.drop_eq_getElem_cons (show i < ls.length by omega)]
          unfold cmpL; rfl
        go_wp2_with fail
        go_ret
        exact ⟨by rw [HNX.out]; rfl, HI.out, HDN.out⟩
      · have hi2 : ¬ (ks.length : Int) < ls.length := by omega
        have HNX : Hid (cmpL ks ls = 0) := by
          show _ = _
          rw [← HD.out, List.drop_of_length_le (show ks.length ≤ i by omega), List.drop_of_length_le (show ls.length ≤ i by omega)]
          unfold cmpL; rfl
        go_wp2_with fail
        go_ret
        exact ⟨by rw [HNX.out]; rfl, HI.out, HDN.out⟩
set_option maxRecDepth 100000 in
set_option maxHeartbeats 4000000 in
theorem ecompare_gw : ∀ (n : Nat), n ≤ 900000 → ∀ (x y : Ex) (vx vy : Value) (P Q : Nat → Prop) (w : World), sizeE x ≤ n → sizeE y ≤ 900000 → RdE P w x vx → RdE Q w y vy → (∀ b, P b → b < w.heap.size) → (∀ b, Q b → b < w.heap.size) → Calls Tryz.prog 34 #[vx, vy] w fun r w' => r = .returned (.int .i64 (cmpE x y)) ∧ Below w.heap.size w w' ∧ w.drawn ≤ w'.drawn := by
  intro n
  induction n with
  | zero => intro _ x y vx vy P Q w h; have := sizeE_pos x; omega
  | succ n ih =>
    intro hn x y vx vy P Q w hx hy h1 h2 hP hQ
    obtain ⟨q, c, rfl, _, hk⟩ := h1.form
    obtain ⟨q2, c2, rfl, _, hl⟩ := h2.form
    obtain ⟨k, xv, xn, ks⟩ := x
    obtain ⟨k2, yv, yn, ls⟩ := y
    unfold exv
    show Calls _ _ #[.agg #[.int .i64 k, .string (bstr xv), .string (bstr xn), .slice q ks.length c], .agg #[.int .i64 k2, .string (bstr yv), .string (bstr yn), .slice q2 ls.length c2]] _ _
    have hks : sizeL ks ≤ n := by unfold sizeE at hx; omega
    have hls : sizeL ls ≤ 900000 := by unfold sizeE at hy; omega
    have hb : Below w.heap.size w ((w.alloc (.cells #[.int .i64 k, .string (bstr xv), .string (bstr xn), .slice q ks.length c] 24)).alloc (.cells #[.int .i64 k2, .string (bstr yv), .string (bstr yn), .slice q2 ls.length c2] 24)) := ((Below.refl _ _).alloc (Nat.le_refl _) _).alloc (by simp) _
    have ha1 : Arr ((w.alloc (.cells #[.int .i64 k, .string (bstr xv), .string (bstr xn), .slice q ks.length c] 24)).alloc (.cells #[.int .i64 k2, .string (bstr yv), .string (bstr yn), .slice q2 ls.length c2] 24)) 24 w.heap.size [.int .i64 k, .string (bstr xv), .string (bstr xn), .slice q ks.length c] := (Arr.new' w _ _ _ rfl).alloc _
    have ha2 : Arr ((w.alloc (.cells #[.int .i64 k, .string (bstr xv), .string (bstr xn), .slice q ks.length c] 24)).alloc (.cells #[.int .i64 k2, .string (bstr yv), .string (bstr yn), .slice q2 ls.length c2] 24)) 24 (w.heap.size + 1) [.int .i64 k2, .string (bstr yv), .string (bstr yn), .slice q2 ls.length c2] := Arr.new2 w _ _ _ _ rfl
    obtain ⟨w0, hw0⟩ : ∃ w0, w0 = ((w.alloc (.cells #[.int .i64 k, .string (bstr xv), .string (bstr xn), .slice q ks.length c] 24)).alloc (.cells #[.int .i64 k2, .string (bstr yv), .string (bstr yn), .slice q2 ls.length c2] 24)) := ⟨_, rfl⟩
    rw [← hw0] at hb ha1 ha2
    have HW := Lib.hid hw0
    have HB := Lib.hid hb
    have HDN : Hid (w.drawn ≤ w0.drawn) := by rw [hw0]; exact Nat.le_refl _
    have HA1 := Lib.hid ha1
    have HA2 := Lib.hid ha2
    have HIH : Hid (∀ (x y : Ex) (vx vy : Value) (P Q : Nat → Prop) (W : World), sizeE x ≤ n → sizeE y ≤ 900000 → RdE P W x vx → RdE Q W y vy → (∀ b, P b → b < W.heap.size) → (∀ b, Q b → b < W.heap.size) → Calls Tryz.prog 34 #[vx, vy] W fun r w' => r = .returned (.int .i64 (cmpE x y)) ∧ Below W.heap.size W w' ∧ W.drawn ≤ w'.drawn) := ih (by omega)
    have HK : Hid (0 < ks.length → ∃ b o, q = some ⟨b, o, none⟩ ∧ P b ∧ RdL P w ks b o) := hk
    have HL : Hid (0 < ls.length → ∃ b o, q2 = some ⟨b, o, none⟩ ∧ Q b ∧ RdL Q w ls b o) := hl
    have H1 := Lib.hid (Tryz.cmp_Compare_int k k2)
    have H2 := Lib.hid (Tryz.strings_Compare (bstr xv) (bstr yv))
    have H3 := Lib.hid (Tryz.strings_Compare (bstr xn) (bstr yn))
    have HN := Lib.hid hn
    clear h1 h2 hk hl hx hy hb ha1 ha2 hw0 ih hn
    go_enter Tryz.func34, Tryz.ntmps34
    go_wp2_with fail
    rw [← HW.out]
    have a0 := HA1.out.cell 0
    have a1 := HA1.out.cell 1
    have a2 := HA1.out.cell 2
    have e0 := HA2.out.cell 0
    have e1 := HA2.out.cell 1
    have e2 := HA2.out.cell 2
    simp only [List.getElem?_cons_zero, List.getElem?_cons_succ] at a0 a1 a2 e0 e1 e2
    refine wp_region_still_tail 15 (by kernel_rfl) (by kernel_rfl) ?_
    simp only [List.take_succ_cons, List.take_zero, List.drop_succ_cons, List.drop_zero]
    repeat first | still_step | still_call (H1.out _) | still_call (H2.out _) | still_call (H3.out _)
    refine wpStill_nil ?_
    change wpList _ _ _ _ _ w0.drew
    have HBd : Hid (Below w0.heap.size w0 w0.drew) := (Below.refl _ _).drew
    have HDN2 : Hid (w.drawn ≤ w0.drew.drawn) := Nat.le_succ_of_le HDN.out
    have HB2 := Lib.hid (HB.out.trans (HBd.out.mono HB.out.size))
    have HA12 := Lib.hid (HA1.out.later HBd.out)
    have HA22 := Lib.hid (HA2.out.later HBd.out)
    rw [bstr_data, bstr_data, bstr_data, bstr_data]
    obtain ⟨A, hA⟩ : ∃ A, A = Lib.compareInt k k2 := ⟨_, rfl⟩
    obtain ⟨B, hB⟩ : ∃ B, B = Lib.compareBytes xv yv := ⟨_, rfl⟩
    obtain ⟨C, hC⟩ : ∃ C, C = Lib.compareBytes xn yn := ⟨_, rfl⟩
    rw [← hA, ← hB, ← hC]
    have HE : Hid (cmpE (.mk k xv xn ks) (.mk k2 yv yn ls) = if orL [A, B, C] = 0 then cmpL ks ls else orL [A, B, C]) := by show _ = _; rw [← orL4, hA, hB, hC]; unfold cmpE; rfl
    clear hA hB hC a0 a1 a2 e0 e1 e2 HA1 HA2 HW H1 H2 H3
    generalize w0.drew = w2 at HB2 HA12 HA22 HDN2 ⊢
    clear HBd HB HDN
    have HOR : Hid (Calls Tryz.prog 49 #[.slice (some ⟨w2.heap.size, 0, none⟩) 3 3] (w2.alloc (.cells #[.int .i64 A, .int .i64 B, .int .i64 C] 3)) fun r w' => r = .returned (.int .i64 (orL [A, B, C])) ∧ w2.alloc (.cells #[.int .i64 A, .int .i64 B, .int .i64 C] 3) = w') := or_any [A, B, C] (by simp) w2.heap.size _ (Arr.new' _ _ _ _ rfl)
    have HB3 : Hid (Below w2.heap.size w2 (w2.alloc (.cells #[.int .i64 A, .int .i64 B, .int .i64 C] 3))) := (Below.refl _ _).alloc (Nat.le_refl _) _
    obtain ⟨O, hO⟩ : ∃ O, O = orL [A, B, C] := ⟨_, rfl⟩
    rw [← hO] at HE HOR
    clear hO
    go_wp2_with fail
    refine HOR.out.mono ?_
    rintro r w3 ⟨rfl, hw3⟩
    have HA13 := Lib.hid (HA12.out.later HB3.out)
    have HA23 := Lib.hid (HA22.out.later HB3.out)
    have HB4 := Lib.hid (HB2.out.trans (HB3.out.mono HB2.out.size))
    have HDN3 : Hid (w.drawn ≤ (w2.alloc (.cells #[.int .i64 A, .int .i64 B, .int .i64 C] 3)).drawn) := HDN2.out
    rw [hw3] at HA13 HA23 HB4 HDN3
    clear HDN2
    clear hw3 HB3 HOR HA12 HA22 HB2
    have a3 := HA13.out.cell 3
    have e3 := HA23.out.cell 3
    simp only [List.getElem?_cons_zero, List.getElem?_cons_succ] at a3 e3
    by_cases hz : O = 0
    · have bz : (O != 0) = false := by rw [hz]; rfl
      have HE2 : Hid (cmpE (.mk k xv xn ks) (.mk k2 yv yn ls) = cmpL ks ls) := by show _ = _; rw [HE.out, if_pos hz]
      have HCF := Lib.hid (cmpf_gw n HIH ks ls q q2 c c2 P Q w3 hks (by have := HN.out; omega) hls
        (fun h => by
          obtain ⟨b, o, g1, g2, g3⟩ := HK.out h
          exact ⟨b, o, g1, g2, g3.keep (cells_below HB4.out hP) g2⟩)
        (fun h => by
          obtain ⟨b, o, g1, g2, g3⟩ := HL.out h
          exact ⟨b, o, g1, g2, g3.keep (cells_below HB4.out hQ) g2⟩)
        (fun b hb => Nat.lt_of_lt_of_le (hP b hb) HB4.out.size) (fun b hb => Nat.lt_of_lt_of_le (hQ b hb) HB4.out.size))
      clear hz
      go_wp2_with fail
      refine HCF.out.mono ?_
      rintro r w5 ⟨rfl, b5, d5⟩
      have HD5 : Hid (w.drawn ≤ w5.drawn) := Nat.le_trans HDN3.out d5
      clear d5
      have HB5 := Lib.hid (HB4.out.trans (b5.mono HB4.out.size))
      clear b5
      go_wp2_with fail
      go_ret
      exact ⟨by rw [HE2.out]; rfl, HB5.out, HD5.out⟩
    · have bz : (O != 0) = true := by rw [bne_iff_ne]; exact hz
      have HE2 : Hid (cmpE (.mk k xv xn ks) (.mk k2 yv yn ls) = O) := by show _ = _; rw [HE.out, if_neg hz]
      clear hz
      go_wp2_with fail
      go_ret
      exact ⟨by rw [HE2.out]; rfl, HB4.out, HDN3.out⟩
end Go.Proofs.YtdnmgemjhpkekaaGreat
