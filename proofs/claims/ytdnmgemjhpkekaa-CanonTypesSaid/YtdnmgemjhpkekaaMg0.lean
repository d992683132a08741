/-
  expr.Compare with its exact world: what it makes is new blocks and draws.
-/
import Derived.Test.YtdnmgemjhpkekaaExM
import Derived.Sort.Grow
import Derived.Test.YtdnmgemjhpkekaaPlain
import Derived.Test.YtdnmgemjhpkekaaArr
import Derived.Lib.SliceRun
import Derived.Deep.LoopGhost
import Derived.Deep.Draws
import Derived.Deep.MidRow
import Derived.Shelf.SlSortFuncK.RowK2
import Derived.Shelf.SlSortFuncK.ComposeK
import Derived.RegionTactic
import Derived.BigRegion
import Derived.Test.YtdnmgemjhpkekaaOrd
import Derived.StillTailTactics
import Derived.Test.YtdnmgemjhpkekaaCoB
import Derived.Test.YtdnmgemjhpkekaaExE
import Derived.Test.YtdnmgemjhpkekaaShfE
import Derived.Shelf.SlSortCmp.WholeK
import Derived.Shelf.SlicesE.Clone
namespace Go.Proofs.Ytdnmgemjhpkekaa
open Go.ChangeShapes Go.WideShapes Go.ChangeAt Go.RowKit
set_option linter.unusedVariables false
set_option linter.unusedSectionVars false
set_option linter.unusedSimpArgs false

theorem exact_of {w w' : World} (h : Below w.heap.size w w') (hd : w.drawn ≤ w'.drawn) : ∃ q os, w' = Go.Sort.grow (w.drewN q) os := by
  refine ⟨w'.drawn - w.drawn, w'.heap.extract w.heap.size w'.heap.size, ?_⟩
  obtain ⟨hp, tp, dr, os, ou⟩ := w
  obtain ⟨hp', tp', dr', os', ou'⟩ := w'
  obtain ⟨h1, h2, h3, h4, h5⟩ := h
  simp only at h1 h2 h3 h4 h5 hd
  subst h1 h2 h3
  simp only [Go.Sort.grow, World.drewN, World.mk.injEq, true_and, and_true]
  refine ⟨?_, by omega⟩
  apply Array.ext_getElem?
  intro i
  rw [Array.getElem?_append]
  by_cases hi : i < hp.size
  · rw [if_pos hi, h5 i hi]
  · rw [if_neg hi, Array.getElem?_extract]
    by_cases hj : i < hp'.size
    · rw [if_pos (by omega)]
      congr 1
      omega
    · rw [if_neg (by omega), Array.getElem?_eq_none (by omega)]
set_option maxRecDepth 100000 in
set_option maxHeartbeats 4000000 in
theorem cmpf_gw (n : Nat) (HC : Hid (∀ (x y : Ex) (vx vy : Value) (P Q : Nat → Prop) (W : World), sizeE x ≤ n → sizeE y ≤ 900000 → RdE P W x vx → RdE Q W y vy → (∀ b, P b → b < W.heap.size) → (∀ b, Q b → b < W.heap.size) → Calls Try.prog 32 #[vx, vy] W fun r w' => r = .returned (.int .i64 (cmpE x y)) ∧ Below W.heap.size W w' ∧ W.drawn ≤ w'.drawn))
    (ks ls : List Ex) (q ql : Option Addr) (c cl : Nat) (P Q : Nat → Prop) (w : World) (hks : sizeL ks ≤ n) (hkm : sizeL ks ≤ 900000) (hlm : sizeL ls ≤ 900000)
    (hk : 0 < ks.length → ∃ b o, q = some ⟨b, o, none⟩ ∧ P b ∧ RdL P w ks b o) (hl' : 0 < ls.length → ∃ b o, ql = some ⟨b, o, none⟩ ∧ Q b ∧ RdL Q w ls b o) (hP : ∀ b, P b → b < w.heap.size) (hQ : ∀ b, Q b → b < w.heap.size) :
    Calls Try.prog 50 #[.slice q ks.length c, .slice ql ls.length cl, .func (.func 32) #[] #[]] w fun r w' => r = .returned (.int .i64 (cmpL ks ls)) ∧ Below w.heap.size w w' ∧ w.drawn ≤ w'.drawn := by
  have HK : Hid (0 < ks.length → ∃ b o, q = some ⟨b, o, none⟩ ∧ P b ∧ RdL P w ks b o) := hk
  have HL : Hid (0 < ls.length → ∃ b o, ql = some ⟨b, o, none⟩ ∧ Q b ∧ RdL Q w ls b o) := hl'
  have hlen := sizeL_len ks
  have hlen2 := sizeL_len ls
  clear hk hl'
  go_enter Try.func50, Try.ntmps50
  go_wp2_with fail
  go_loopw [13] (fun iv wr => ∃ i : Nat, i ≤ ks.length ∧ i ≤ ls.length ∧ iv = .int .i64 i ∧ Hid (cmpL (ks.drop i) (ls.drop i) = cmpL ks ls) ∧ Hid (Below w.heap.size w wr) ∧ Hid (w.drawn ≤ wr.drawn)) (fun iv _ => ks.length - (intOf iv).toNat)
  case atStart => exact ⟨0, Nat.zero_le _, Nat.zero_le _, rfl, rfl, Below.refl _ _, Nat.le_refl _⟩
  case round =>
    obtain ⟨i, hi, hil, rfl, HD, HI, HDN⟩ := hrel
    have hi0 : (0 : Int) ≤ i := by omega
    by_cases hlt : i < ks.length
    · have hi1 : (i : Int) < ks.length := by omega
      by_cases hlt2 : i < ls.length
      · have hi2 : (i : Int) < ls.length := by omega
        obtain ⟨ba, oa, rfl, hba, hl⟩ := HK.out (by omega)
        obtain ⟨x, hx⟩ : ∃ x, x = ks.getD i ex0 := ⟨_, rfl⟩
        obtain ⟨q2, c2, x0, x1, x2, x3, hr⟩ := hl.at hlt
        have hxs := sizeL_get ks i hlt
        have hxd := depthL_get ks i hlt
        rw [← hx] at x0 x1 x2 x3 hr hxs hxd
        have HX := Lib.hid hx
        obtain ⟨xk, xv2, xn2, xs⟩ := x
        have cc : ∀ n, wr.cell? ⟨ba, n, none⟩ = w.cell? ⟨ba, n, none⟩ := fun n => (HI.out).cell (p := ⟨ba, n, none⟩) (hP _ hba)
        have X0 : wr.cell? ⟨ba, oa + i * 4, none⟩ = some (.int .i64 xk) := (cc _).trans x0
        have X1 : wr.cell? ⟨ba, oa + i * 4 + 1, none⟩ = some (.string (bstr xv2)) := (cc _).trans x1
        have X2 : wr.cell? ⟨ba, oa + i * 4 + 2, none⟩ = some (.string (bstr xn2)) := (cc _).trans x2
        have X3 : wr.cell? ⟨ba, oa + i * 4 + 3, none⟩ = some (.slice q2 xs.length c2) := (cc _).trans x3
        clear x0 x1 x2 x3 cc hx
        have HBA : Hid (Below wr.heap.size wr (wr.alloc (.cells #[.int .i64 xk, .string (bstr xv2), .string (bstr xn2), .slice q2 xs.length c2] 31))) := (Below.refl _ _).alloc (Nat.le_refl _) _
        obtain ⟨bab, oab, rfl, hbab, hlb⟩ := HL.out (by omega)
        obtain ⟨x, hx⟩ : ∃ x, x = ls.getD i ex0 := ⟨_, rfl⟩
        obtain ⟨q2b, c2b, x0, x1, x2, x3, hrb⟩ := hlb.at hlt2
        have hxsb := sizeL_get ls i hlt2
        have hxdb := depthL_get ls i hlt2
        rw [← hx] at x0 x1 x2 x3 hrb hxsb hxdb
        have HXb := Lib.hid hx
        obtain ⟨xkb, xv2b, xn2b, xsb⟩ := x
        have cc : ∀ n, (wr.alloc (.cells #[.int .i64 xk, .string (bstr xv2), .string (bstr xn2), .slice q2 xs.length c2] 31)).cell? ⟨bab, n, none⟩ = w.cell? ⟨bab, n, none⟩ := fun n => (HI.out.trans (HBA.out.mono HI.out.size)).cell (p := ⟨bab, n, none⟩) (hQ _ hbab)
        have X0b : (wr.alloc (.cells #[.int .i64 xk, .string (bstr xv2), .string (bstr xn2), .slice q2 xs.length c2] 31)).cell? ⟨bab, oab + i * 4, none⟩ = some (.int .i64 xkb) := (cc _).trans x0
        have X1b : (wr.alloc (.cells #[.int .i64 xk, .string (bstr xv2), .string (bstr xn2), .slice q2 xs.length c2] 31)).cell? ⟨bab, oab + i * 4 + 1, none⟩ = some (.string (bstr xv2b)) := (cc _).trans x1
        have X2b : (wr.alloc (.cells #[.int .i64 xk, .string (bstr xv2), .string (bstr xn2), .slice q2 xs.length c2] 31)).cell? ⟨bab, oab + i * 4 + 2, none⟩ = some (.string (bstr xn2b)) := (cc _).trans x2
        have X3b : (wr.alloc (.cells #[.int .i64 xk, .string (bstr xv2), .string (bstr xn2), .slice q2 xs.length c2] 31)).cell? ⟨bab, oab + i * 4 + 3, none⟩ = some (.slice q2b xsb.length c2b) := (cc _).trans x3
        clear x0 x1 x2 x3 cc hx
        have HST := Lib.hid (cmpL_step hlt hlt2)
        have HBB : Hid (Below wr.heap.size wr ((wr.alloc (.cells #[.int .i64 xk, .string (bstr xv2), .string (bstr xn2), .slice q2 xs.length c2] 31)).alloc (.cells #[.int .i64 xkb, .string (bstr xv2b), .string (bstr xn2b), .slice q2b xsb.length c2b] 31))) := HBA.out.alloc HBA.out.size _
        have HRA : Hid (RdE P ((wr.alloc (.cells #[.int .i64 xk, .string (bstr xv2), .string (bstr xn2), .slice q2 xs.length c2] 31)).alloc (.cells #[.int .i64 xkb, .string (bstr xv2b), .string (bstr xn2b), .slice q2b xsb.length c2b] 31)) (.mk xk xv2 xn2 xs) (.agg #[.int .i64 xk, .string (bstr xv2), .string (bstr xn2), .slice q2 xs.length c2])) := (hr.below HI.out hP).below HBB.out (fun b hb => Nat.lt_of_lt_of_le (hP b hb) HI.out.size)
        have HRB : Hid (RdE Q ((wr.alloc (.cells #[.int .i64 xk, .string (bstr xv2), .string (bstr xn2), .slice q2 xs.length c2] 31)).alloc (.cells #[.int .i64 xkb, .string (bstr xv2b), .string (bstr xn2b), .slice q2b xsb.length c2b] 31)) (.mk xkb xv2b xn2b xsb) (.agg #[.int .i64 xkb, .string (bstr xv2b), .string (bstr xn2b), .slice q2b xsb.length c2b])) := (hrb.below HI.out hQ).below HBB.out (fun b hb => Nat.lt_of_lt_of_le (hQ b hb) HI.out.size)
        have HCC := HC.out (.mk xk xv2 xn2 xs) (.mk xkb xv2b xn2b xsb) _ _ P Q ((wr.alloc (.cells #[.int .i64 xk, .string (bstr xv2), .string (bstr xn2), .slice q2 xs.length c2] 31)).alloc (.cells #[.int .i64 xkb, .string (bstr xv2b), .string (bstr xn2b), .slice q2b xsb.length c2b] 31)) (by omega) (by omega) HRA.out HRB.out (fun b hb => Nat.lt_of_lt_of_le (hP b hb) (Nat.le_trans HI.out.size HBB.out.size)) (fun b hb => Nat.lt_of_lt_of_le (hQ b hb) (Nat.le_trans HI.out.size HBB.out.size))
        obtain ⟨E, hE⟩ : ∃ E, E = cmpE (.mk xk xv2 xn2 xs) (.mk xkb xv2b xn2b xsb) := ⟨_, rfl⟩
        rw [← hE] at HCC
        have HED := Lib.hid hE
        have HCC := Lib.hid HCC
        clear hl hlb hr hrb hxs hxd hxsb hxdb hE
        go_wp2_with fail
        refine HCC.out.mono ?_
        rintro r w5 ⟨rfl, b5, d5⟩
        have HD5 : Hid (w.drawn ≤ w5.drawn) := Nat.le_trans HDN.out d5
        clear d5
        have HB5 := Lib.hid (HI.out.trans ((HBB.out.trans (b5.mono HBB.out.size)).mono HI.out.size))
        clear b5
        by_cases hz : E = 0
        · have bz : (E != 0) = false := by rw [hz]; rfl
          have HNX : Hid (cmpL (ks.drop (i + 1)) (ls.drop (i + 1)) = cmpL ks ls) := by show _ = _; rw [← HD.out, HST.out, ← HX.out, ← HXb.out, ← HED.out, orL2, if_pos hz]
          clear hz
          go_wp2_with fail
          go_roundw
          case rel => exact ⟨i + 1, by omega, by omega, by go_num, HNX.out, HB5.out, HD5.out⟩
          case measure => simp [intOf]; omega
        · have bz : (E != 0) = true := by rw [bne_iff_ne]; exact hz
          have HNX : Hid (cmpL ks ls = E) := by show _ = _; rw [← HD.out, HST.out, ← HX.out, ← HXb.out, ← HED.out, orL2, if_neg hz]
          clear hz
          go_wp2_with fail
          go_ret
          exact ⟨by rw [HNX.out]; rfl, HB5.out, HD5.out⟩
      · have hi2 : ¬ (i : Int) < ls.length := by omega
        have HNX : Hid (cmpL ks ls = 1) := by
          show _ = _
          rw [← HD.out, List.drop_eq_getElem_cons hlt, List.drop_of_length_le (show ls.length ≤ i by omega)]
          unfold cmpL; rfl
        have HK1 := HK.out (by omega)
        obtain ⟨ba, oa, rfl, hba, hl⟩ := HK1
        obtain ⟨q2, c2, x0, x1, x2, x3, hr⟩ := hl.at hlt
        have cc : ∀ n, wr.cell? ⟨ba, n, none⟩ = w.cell? ⟨ba, n, none⟩ := fun n => (HI.out).cell (p := ⟨ba, n, none⟩) (hP _ hba)
        have X0 := (cc _).trans x0
        have X1 := (cc _).trans x1
        have X2 := (cc _).trans x2
        have X3 := (cc _).trans x3
        clear x0 x1 x2 x3 cc hr hl
        go_wp2_with fail
        go_ret
        exact ⟨by rw [HNX.out]; rfl, HI.out.alloc HI.out.size _, HDN.out⟩
    · have hi1 : ¬ (i : Int) < ks.length := by omega
      by_cases hlt2 : ks.length < ls.length
      · have hi2 : (ks.length : Int) < ls.length := by omega
        have HNX : Hid (cmpL ks ls = -1) := by
          show _ = _
          rw [← HD.out, List.drop_of_length_le (show ks.length ≤ i by omega), List.drop_eq_getElem_cons (show i < ls.length by omega)]
          unfold cmpL; rfl
        go_wp2_with fail
        go_ret
        exact ⟨by rw [HNX.out]; rfl, HI.out, HDN.out⟩
      · have hi2 : ¬ (ks.length : Int) < ls.length := by omega
        have HNX : Hid (cmpL ks ls = 0) := by
          show _ = _
          rw [← HD.out, List.drop_of_length_le (show ks.length ≤ i by omega), List.drop_of_length_le (show ls.length ≤ i by omega)]
          unfold cmpL; rfl
        go_wp2_with fail
        go_ret
        exact ⟨by rw [HNX.out]; rfl, HI.out, HDN.out⟩
set_option maxRecDepth 100000 in
set_option maxHeartbeats 4000000 in
theorem ecompare_gw : ∀ (n : Nat), n ≤ 900000 → ∀ (x y : Ex) (vx vy : Value) (P Q : Nat → Prop) (w : World), sizeE x ≤ n → sizeE y ≤ 900000 → RdE P w x vx → RdE Q w y vy → (∀ b, P b → b < w.heap.size) → (∀ b, Q b → b < w.heap.size) → Calls Try.prog 32 #[vx, vy] w fun r w' => r = .returned (.int .i64 (cmpE x y)) ∧ Below w.heap.size w w' ∧ w.drawn ≤ w'.drawn := by
  intro n
  induction n with
  | zero => intro _ x y vx vy P Q w h; have := sizeE_pos x; omega
  | succ n ih =>
    intro hn x y vx vy P Q w hx hy h1 h2 hP hQ
    obtain ⟨q, c, rfl, _, hk⟩ := h1.form
    obtain ⟨q2, c2, rfl, _, hl⟩ := h2.form
    obtain ⟨k, xv, xn, ks⟩ := x
    obtain ⟨k2, yv, yn, ls⟩ := y
    unfold exv
    show Calls _ _ #[.agg #[.int .i64 k, .string (bstr xv), .string (bstr xn), .slice q ks.length c], .agg #[.int .i64 k2, .string (bstr yv), .string (bstr yn), .slice q2 ls.length c2]] _ _
    have hks : sizeL ks ≤ n := by unfold sizeE at hx; omega
    have hls : sizeL ls ≤ 900000 := by unfold sizeE at hy; omega
    have hb : Below w.heap.size w ((w.alloc (.cells #[.int .i64 k, .string (bstr xv), .string (bstr xn), .slice q ks.length c] 31)).alloc (.cells #[.int .i64 k2, .string (bstr yv), .string (bstr yn), .slice q2 ls.length c2] 31)) := ((Below.refl _ _).alloc (Nat.le_refl _) _).alloc (by simp) _
    have ha1 : Arr ((w.alloc (.cells #[.int .i64 k, .string (bstr xv), .string (bstr xn), .slice q ks.length c] 31)).alloc (.cells #[.int .i64 k2, .string (bstr yv), .string (bstr yn), .slice q2 ls.length c2] 31)) 31 w.heap.size [.int .i64 k, .string (bstr xv), .string (bstr xn), .slice q ks.length c] := (Arr.new' w _ _ _ rfl).alloc _
    have ha2 : Arr ((w.alloc (.cells #[.int .i64 k, .string (bstr xv), .string (bstr xn), .slice q ks.length c] 31)).alloc (.cells #[.int .i64 k2, .string (bstr yv), .string (bstr yn), .slice q2 ls.length c2] 31)) 31 (w.heap.size + 1) [.int .i64 k2, .string (bstr yv), .string (bstr yn), .slice q2 ls.length c2] := Arr.new2 w _ _ _ _ rfl
    obtain ⟨w0, hw0⟩ : ∃ w0, w0 = ((w.alloc (.cells #[.int .i64 k, .string (bstr xv), .string (bstr xn), .slice q ks.length c] 31)).alloc (.cells #[.int .i64 k2, .string (bstr yv), .string (bstr yn), .slice q2 ls.length c2] 31)) := ⟨_, rfl⟩
    rw [← hw0] at hb ha1 ha2
    have HW := Lib.hid hw0
    have HB := Lib.hid hb
    have HDN : Hid (w.drawn ≤ w0.drawn) := by rw [hw0]; exact Nat.le_refl _
    have HA1 := Lib.hid ha1
    have HA2 := Lib.hid ha2
    have HIH : Hid (∀ (x y : Ex) (vx vy : Value) (P Q : Nat → Prop) (W : World), sizeE x ≤ n → sizeE y ≤ 900000 → RdE P W x vx → RdE Q W y vy → (∀ b, P b → b < W.heap.size) → (∀ b, Q b → b < W.heap.size) → Calls Try.prog 32 #[vx, vy] W fun r w' => r = .returned (.int .i64 (cmpE x y)) ∧ Below W.heap.size W w' ∧ W.drawn ≤ w'.drawn) := ih (by omega)
    have HK : Hid (0 < ks.length → ∃ b o, q = some ⟨b, o, none⟩ ∧ P b ∧ RdL P w ks b o) := hk
    have HL : Hid (0 < ls.length → ∃ b o, q2 = some ⟨b, o, none⟩ ∧ Q b ∧ RdL Q w ls b o) := hl
    have H1 := Lib.hid (Try.cmp_Compare_int k k2)
    have H2 := Lib.hid (Try.strings_Compare (bstr xv) (bstr yv))
    have H3 := Lib.hid (Try.strings_Compare (bstr xn) (bstr yn))
    have HN := Lib.hid hn
    clear h1 h2 hk hl hx hy hb ha1 ha2 hw0 ih hn
    go_enter Try.func32, Try.ntmps32
    go_wp2_with fail
    rw [← HW.out]
    have a0 := HA1.out.cell 0
    have a1 := HA1.out.cell 1
    have a2 := HA1.out.cell 2
    have e0 := HA2.out.cell 0
    have e1 := HA2.out.cell 1
    have e2 := HA2.out.cell 2
    simp only [List.getElem?_cons_zero, List.getElem?_cons_succ] at a0 a1 a2 e0 e1 e2
    refine wp_region_still_tail 15 (by kernel_rfl) (by kernel_rfl) ?_
    simp only [List.take_succ_cons, List.take_zero, List.drop_succ_cons, List.drop_zero]
    repeat first | still_step | still_call (H1.out _) | still_call (H2.out _) | still_call (H3.out _)
    refine wpStill_nil ?_
    change wpList _ _ _ _ _ w0.drew
    have HBd : Hid (Below w0.heap.size w0 w0.drew) := (Below.refl _ _).drew
    have HDN2 : Hid (w.drawn ≤ w0.drew.drawn) := Nat.le_succ_of_le HDN.out
    have HB2 := Lib.hid (HB.out.trans (HBd.out.mono HB.out.size))
    have HA12 := Lib.hid (HA1.out.later HBd.out)
    have HA22 := Lib.hid (HA2.out.later HBd.out)
    rw [bstr_data, bstr_data, bstr_data, bstr_data]
    obtain ⟨A, hA⟩ : ∃ A, A = Lib.compareInt k k2 := ⟨_, rfl⟩
    obtain ⟨B, hB⟩ : ∃ B, B = Lib.compareBytes xv yv := ⟨_, rfl⟩
    obtain ⟨C, hC⟩ : ∃ C, C = Lib.compareBytes xn yn := ⟨_, rfl⟩
    rw [← hA, ← hB, ← hC]
    have HE : Hid (cmpE (.mk k xv xn ks) (.mk k2 yv yn ls) = if orL [A, B, C] = 0 then cmpL ks ls else orL [A, B, C]) := by show _ = _; rw [← orL4, hA, hB, hC]; unfold cmpE; rfl
    clear hA hB hC a0 a1 a2 e0 e1 e2 HA1 HA2 HW H1 H2 H3
    generalize w0.drew = w2 at HB2 HA12 HA22 HDN2 ⊢
    clear HBd HB HDN
    have HOR : Hid (Calls Try.prog 30 #[.slice (some ⟨w2.heap.size, 0, none⟩) 3 3] (w2.alloc (.cells #[.int .i64 A, .int .i64 B, .int .i64 C] 3)) fun r w' => r = .returned (.int .i64 (orL [A, B, C])) ∧ w2.alloc (.cells #[.int .i64 A, .int .i64 B, .int .i64 C] 3) = w') := or_any [A, B, C] (by simp) w2.heap.size _ (Arr.new' _ _ _ _ rfl)
    have HB3 : Hid (Below w2.heap.size w2 (w2.alloc (.cells #[.int .i64 A, .int .i64 B, .int .i64 C] 3))) := (Below.refl _ _).alloc (Nat.le_refl _) _
    obtain ⟨O, hO⟩ : ∃ O, O = orL [A, B, C] := ⟨_, rfl⟩
    rw [← hO] at HE HOR
    clear hO
    go_wp2_with fail
    refine HOR.out.mono ?_
    rintro r w3 ⟨rfl, hw3⟩
    have HA13 := Lib.hid (HA12.out.later HB3.out)
    have HA23 := Lib.hid (HA22.out.later HB3.out)
    have HB4 := Lib.hid (HB2.out.trans (HB3.out.mono HB2.out.size))
    have HDN3 : Hid (w.drawn ≤ (w2.alloc (.cells #[.int .i64 A, .int .i64 B, .int .i64 C] 3)).drawn) := HDN2.out
    rw [hw3] at HA13 HA23 HB4 HDN3
    clear HDN2
    clear hw3 HB3 HOR HA12 HA22 HB2
    have a3 := HA13.out.cell 3
    have e3 := HA23.out.cell 3
    simp only [List.getElem?_cons_zero, List.getElem?_cons_succ] at a3 e3
    by_cases hz : O = 0
    · have bz : (O != 0) = false := by rw [hz]; rfl
      have HE2 : Hid (cmpE (.mk k xv xn ks) (.mk k2 yv yn ls) = cmpL ks ls) := by show _ = _; rw [HE.out, if_pos hz]
      have HCF := Lib.hid (cmpf_gw n HIH ks ls q q2 c c2 P Q w3 hks (by have := HN.out; omega) hls
        (fun h => by
          obtain ⟨b, o, g1, g2, g3⟩ := HK.out h
          exact ⟨b, o, g1, g2, g3.keep (cells_below HB4.out hP) g2⟩)
        (fun h => by
          obtain ⟨b, o, g1, g2, g3⟩ := HL.out h
          exact ⟨b, o, g1, g2, g3.keep (cells_below HB4.out hQ) g2⟩)
        (fun b hb => Nat.lt_of_lt_of_le (hP b hb) HB4.out.size) (fun b hb => Nat.lt_of_lt_of_le (hQ b hb) HB4.out.size))
      clear hz
      go_wp2_with fail
      refine HCF.out.mono ?_
      rintro r w5 ⟨rfl, b5, d5⟩
      have HD5 : Hid (w.drawn ≤ w5.drawn) := Nat.le_trans HDN3.out d5
      clear d5
      have HB5 := Lib.hid (HB4.out.trans (b5.mono HB4.out.size))
      clear b5
      go_wp2_with fail
      go_ret
      exact ⟨by rw [HE2.out]; rfl, HB5.out, HD5.out⟩
    · have bz : (O != 0) = true := by rw [bne_iff_ne]; exact hz
      have HE2 : Hid (cmpE (.mk k xv xn ks) (.mk k2 yv yn ls) = O) := by show _ = _; rw [HE.out, if_neg hz]
      clear hz
      go_wp2_with fail
      go_ret
      exact ⟨by rw [HE2.out]; rfl, HB4.out, HDN3.out⟩
end Go.Proofs.Ytdnmgemjhpkekaa
/-
  Sorted lists over any order: what is put in its place, each element once; no program is spoken of. (By tools/gen_ors.py from TuD.)
-/
namespace Go.Proofs.Ytdnmgemjhpkekaa
set_option linter.unusedVariables false
set_option linter.unusedSectionVars false
set_option linter.unusedSimpArgs false
structure OrdL {α : Type} (o : α → α → Int) : Prop where
  eq' : ∀ a b, o a b = 0 → a = b
  self : ∀ a, o a a = 0
  flip : ∀ a b, o b a = - o a b
  up' : ∀ a b c, o a b < 0 → o b c < 0 → o a c < 0
section
variable {α : Type} {o : α → α → Int}
theorem OrdL.eq (H : OrdL o) {a b : α} (h : o a b = 0) : a = b := H.eq' a b h
theorem OrdL.up (H : OrdL o) {a b c : α} (h1 : o a b < 0) (h2 : o b c < 0) : o a c < 0 := H.up' a b c h1 h2
theorem OrdL.le (H : OrdL o) {a b c : α} (h1 : ¬ 0 < o a b) (h2 : ¬ 0 < o b c) : ¬ 0 < o a c := by
  by_cases x : o a b = 0
  · obtain rfl := H.eq x; exact h2
  · by_cases y : o b c = 0
    · obtain rfl := H.eq y; exact h1
    · have := H.up (a := a) (b := b) (c := c) (by omega) (by omega)
      omega
/-- A list whose elements rise. -/
def RisO (o : α → α → Int) (l : List α) : Prop := l.Pairwise fun a b => o a b < 0
/-- An element is put in its place, unless it is there. -/
def put1O (o : α → α → Int) (t : α) : List α → List α
  | [] => [t]
  | a :: l => if o a t < 0 then a :: put1O o t l else if o a t = 0 then a :: l else t :: a :: l
theorem put1_memO (H : OrdL o) (t : α) : ∀ (l : List α) (x : α), x ∈ put1O o t l ↔ x = t ∨ x ∈ l
  | [], x => by simp [put1O]
  | a :: l, x => by
    unfold put1O
    split
    · rw [List.mem_cons, put1_memO H t l x, List.mem_cons]
      constructor
      · rintro (h | h | h)
        · exact .inr (.inl h)
        · exact .inl h
        · exact .inr (.inr h)
      · rintro (h | h | h)
        · exact .inr (.inl h)
        · exact .inl h
        · exact .inr (.inr h)
    · split
      · rename_i h
        obtain rfl := H.eq h
        simp
      · simp
theorem put1_risO (H : OrdL o) (t : α) : ∀ (l : List α), RisO o l → RisO o (put1O o t l)
  | [], _ => by simp [put1O, RisO]
  | a :: l, h => by
    obtain ⟨h1, h2⟩ := List.pairwise_cons.1 h
    unfold put1O
    split
    · rename_i hlt
      refine List.pairwise_cons.2 ⟨fun x hx => ?_, put1_risO H t l h2⟩
      rcases (put1_memO H t l x).1 hx with rfl | hx
      · exact hlt
      · exact h1 x hx
    · rename_i hlt
      split
      · exact h
      · rename_i hne
        have hta : o t a < 0 := by have := H.flip a t; omega
        refine List.pairwise_cons.2 ⟨fun x hx => ?_, h⟩
        rcases List.mem_cons.1 hx with rfl | hx
        · exact hta
        · exact H.up hta (h1 x hx)
/-- The elements of a list in their order, each one once. -/
def srtO (o : α → α → Int) : List α → List α → List α
  | out, [] => out
  | out, t :: l => srtO o (put1O o t out) l
def sortedO (o : α → α → Int) (l : List α) : List α := srtO o [] l
theorem srt_risO (H : OrdL o) : ∀ (l out : List α), RisO o out → RisO o (srtO o out l)
  | [], out, h => h
  | t :: l, out, h => srt_risO H l _ (put1_risO H t out h)
theorem srt_memO (H : OrdL o) : ∀ (l out : List α) (x : α), x ∈ srtO o out l ↔ x ∈ out ∨ x ∈ l
  | [], out, x => by simp [srtO]
  | t :: l, out, x => by
    show x ∈ srtO o (put1O o t out) l ↔ _
    rw [srt_memO H l _ x, put1_memO H, List.mem_cons]
    constructor
    · rintro ((h | h) | h)
      · exact .inr (.inl h)
      · exact .inl h
      · exact .inr (.inr h)
    · rintro (h | h | h)
      · exact .inl (.inr h)
      · exact .inl (.inl h)
      · exact .inr h
theorem sorted_risO (H : OrdL o) (l : List α) : RisO o (sortedO o l) := srt_risO H l [] List.Pairwise.nil
theorem sorted_memO (H : OrdL o) (l : List α) (x : α) : x ∈ sortedO o l ↔ x ∈ l := by
  unfold sortedO
  rw [srt_memO H]; simp
/-- Rising lists with the same elements are the same. -/
theorem ris_extO (H : OrdL o) : ∀ {l m : List α}, RisO o l → RisO o m → (∀ x, x ∈ l ↔ x ∈ m) → l = m
  | [], [], _, _, _ => rfl
  | [], b :: m, _, _, h => absurd ((h b).2 List.mem_cons_self) (by simp)
  | a :: l, [], _, _, h => absurd ((h a).1 List.mem_cons_self) (by simp)
  | a :: l, b :: m, h1, h2, h => by
    obtain ⟨a1, a2⟩ := List.pairwise_cons.1 h1
    obtain ⟨b1, b2⟩ := List.pairwise_cons.1 h2
    have hab : a = b := by
      rcases List.mem_cons.1 ((h a).1 List.mem_cons_self) with e | e
      · exact e
      · rcases List.mem_cons.1 ((h b).2 List.mem_cons_self) with e2 | e2
        · exact e2.symm
        · have x1 := b1 a e
          have x2 := a1 b e2
          have := H.flip a b
          omega
    subst hab
    have : l = m := ris_extO H a2 b2 fun x => by
      constructor
      · intro hx
        rcases List.mem_cons.1 ((h x).1 (List.mem_cons_of_mem _ hx)) with e | e
        · subst e; have := a1 x hx; rw [H.self] at this; omega
        · exact e
      · intro hx
        rcases List.mem_cons.1 ((h x).2 (List.mem_cons_of_mem _ hx)) with e | e
        · subst e; have := b1 x hx; rw [H.self] at this; omega
        · exact e
    rw [this]
theorem sorted_of_risO (H : OrdL o) {l : List α} (h : RisO o l) : sortedO o l = l := ris_extO H (sorted_risO H l) h (sorted_memO H l)
/-- Neighbours that are the same are left out. -/
def cmpctO (o : α → α → Int) : List α → List α
  | [] => []
  | [a] => [a]
  | a :: b :: l => if o a b = 0 then cmpctO o (b :: l) else a :: cmpctO o (b :: l)
theorem cmpct_memO (H : OrdL o) : ∀ (l : List α) (x : α), x ∈ cmpctO o l ↔ x ∈ l
  | [], x => by simp [cmpctO]
  | [a], x => by simp [cmpctO]
  | a :: b :: l, x => by
    have ih := cmpct_memO H (b :: l) x
    unfold cmpctO
    split
    · rename_i h
      obtain rfl := H.eq h
      rw [ih]; simp
    · rw [List.mem_cons, ih]; simp
theorem cmpct_risO (H : OrdL o) : ∀ {l : List α}, l.Pairwise (fun a b => ¬ 0 < o a b) → RisO o (cmpctO o l)
  | [], _ => List.Pairwise.nil
  | [a], _ => by simp [cmpctO, RisO]
  | a :: b :: l, h => by
    obtain ⟨h1, h2⟩ := List.pairwise_cons.1 h
    have ih := cmpct_risO H h2
    unfold cmpctO
    split
    · exact ih
    · rename_i hne
      refine List.pairwise_cons.2 ⟨fun x hx => ?_, ih⟩
      have hab := h1 b List.mem_cons_self
      have hx' := (cmpct_memO H (b :: l) x).1 hx
      rcases List.mem_cons.1 hx' with rfl | hxl
      · omega
      · have hbx := (List.pairwise_cons.1 h2).1 x hxl
        by_cases e : o b x = 0
        · obtain rfl := H.eq e; omega
        · exact H.up (b := b) (by omega) (by omega)
theorem cmpct_sortedO (H : OrdL o) {l m : List α} (h : m.Pairwise (fun a b => ¬ 0 < o a b)) (hm : ∀ x, x ∈ m ↔ x ∈ l) : cmpctO o m = sortedO o l :=
  ris_extO H (cmpct_risO H h) (sorted_risO H l) fun x => by rw [cmpct_memO H, sorted_memO H, hm]
theorem cmpct_lenO (H : OrdL o) : ∀ (l : List α), (cmpctO o l).length ≤ l.length
  | [] => Nat.le_refl _
  | [a] => Nat.le_refl _
  | a :: b :: l => by
    have ih := cmpct_lenO H (b :: l)
    unfold cmpctO
    split
    · simp only [List.length_cons] at ih ⊢; omega
    · simp only [List.length_cons] at ih ⊢; omega
end
end Go.Proofs.Ytdnmgemjhpkekaa
/-
  Elements of several cells in a row of the call's own; what is kept of a list in order where neighbours with one key are made one.
-/
namespace Go.Proofs.Ytdnmgemjhpkekaa
open Go.ChangeShapes Go.WideShapes Go.ChangeAt Go.RowKit Go.Lib Go.Sort
set_option linter.unusedVariables false
set_option linter.unusedSectionVars false
set_option linter.unusedSimpArgs false

section
variable {α : Type} [Inhabited α] {enc : α → List Value} {k : Nat} {w w' : World} {blk off : Nat} {d : Array α}
theorem rangeG (hk : ∀ x, (enc x).length = k) (h : HoldsK enc k w blk off d) {i : Nat} (hi : i < d.size) : w.rangeAt blk (off + i * k) (enc d[i]!) := fun j v hv => by
  have hj : j < k := by rw [← hk d[i]!]; exact (List.getElem?_eq_some_iff.1 hv).1
  rw [(HoldsK.cell h hi hj).1, List.getElem!_eq_getElem?_getD, hv]; rfl
theorem thereG (h : HoldsK enc k w blk off d) {i : Nat} (hi : i < d.size) : w.there blk (off + i * k) k := fun j hj => by
  obtain ⟨h1, h2⟩ := HoldsK.cell h hi hj
  rw [h1, h2]; exact ⟨rfl, rfl⟩
theorem setManyG (hk : ∀ x, (enc x).length = k) (hpos : 0 < k) (d : Array α) (i : Nat) (x : α) (hi : i < d.size) : setMany (flatK enc k d) (i * k) (enc x) = flatK enc k (d.setIfInBounds i x) := by
  refine ext_get! (by simp) fun t ht => ?_
  have ht' : t < d.size * k := by simpa using ht
  rw [get_setMany _ _ _ t (by simpa using ht'), get_flatK _ _ _ t ht', get_flatK _ _ _ t (by simpa using ht'), hk]
  by_cases a : t / k = i
  · rw [if_pos ((blk_iff k i t hpos).2 a)]
    subst a
    have := Nat.div_add_mod t k
    rw [Nat.mul_comm] at this
    rw [show t - t / k * k = t % k by omega, show (d.setIfInBounds (t / k) x)[t / k]! = x by simp [hi]]
  · rw [if_neg (fun h => a ((blk_iff k i t hpos).1 h)), getElem!_set_other d i (t / k) x a]
theorem mul_room {i k n : Nat} (h : i < n) : i * k + k ≤ n * k := by
  have := Nat.mul_le_mul_right k (show i + 1 ≤ n from h)
  rwa [Nat.succ_mul] at this
/-- A store of an element into the row. -/
theorem putG (hk : ∀ x, (enc x).length = k) (hpos : 0 < k) (h : HoldsK enc k w blk off d) {i : Nat} (hi : i < d.size) (x : α) : HoldsK enc k (w.setCells blk (off + i * k) (enc x)) blk off (d.setIfInBounds i x) := by
  have e : w.setCells blk (off + i * k) (enc x) = putRowK enc k w blk off (d.setIfInBounds i x) := by
    conv => lhs; rw [← putRowK_self enc k w blk off d h]
    unfold putRowK
    rw [setCells_putRow _ _ _ _ _ _ (by rw [hk, size_flatK]; exact mul_room hi), setManyG hk hpos d i x hi]
  rw [e]
  exact holdsK_putRowK enc k w blk off d _ h (by simp)
theorem setCells_appG (b : Nat) : ∀ (xs ys : List Value) (o : Nat) (w : World), w.setCells b o (xs ++ ys) = (w.setCells b o xs).setCells b (o + xs.length) ys
  | [], ys, o, w => by simp [World.setCells]
  | v :: r, ys, o, w => by
    rw [List.cons_append, World.setCells, World.setCells, setCells_appG b r ys (o + 1), List.length_cons, show o + 1 + r.length = o + (r.length + 1) by omega]
theorem putsG (hk : ∀ x, (enc x).length = k) (hpos : 0 < k) : ∀ (xs : List α) (d : Array α) (j : Nat) (w : World), HoldsK enc k w blk off d → j + xs.length ≤ d.size →
    ∃ d' : Array α, HoldsK enc k (w.setCells blk (off + j * k) (xs.flatMap enc)) blk off d' ∧ d'.size = d.size ∧ ∀ i, i < j → d'[i]! = d[i]!
  | [], d, j, w, h, _ => ⟨d, h, rfl, fun _ _ => rfl⟩
  | x :: r, d, j, w, h, hl => by
    have hl' : j + (r.length + 1) ≤ d.size := by simpa using hl
    obtain ⟨d', h1, h2, h3⟩ := putsG hk hpos r (d.setIfInBounds j x) (j + 1) _ (putG hk hpos h (by omega) x) (by simp; omega)
    refine ⟨d', ?_, by rw [h2]; simp, fun i hi => ?_⟩
    · rw [List.flatMap_cons, setCells_appG, hk, show off + j * k + k = off + (j + 1) * k by rw [Nat.succ_mul]; omega]
      exact h1
    · rw [h3 i (by omega), getElem!_set_other d j i x (by omega)]
theorem grown_cells (g : Nat) : ∀ (xs : List Value) (o : Nat) (w : World), w.grownBy (w.setCells g o xs) (some g)
  | [], o, w => ⟨rfl, rfl, rfl, Nat.le_refl _, fun _ _ _ => rfl⟩
  | v :: r, o, w => by
    have h := grown_cells g r (o + 1) (w.setCell ⟨g, o, none⟩ v)
    refine ⟨h.os, h.tape, h.output, ?_, fun k hk hne => ?_⟩
    · have := h.size
      simp [World.setCells, World.setCell] at this ⊢
      try omega
    · rw [World.setCells, h.block k (by simpa [World.setCell] using hk) hne]
      exact Below.heap_setCell _ _ _ _ (fun e => hne (by rw [e]))
theorem grown_refl (w : World) (g : Nat) : w.grownBy w (some g) := ⟨rfl, rfl, rfl, Nat.le_refl _, fun _ _ _ => rfl⟩
theorem grown_tr {w1 w2 : World} {g : Nat} (a : w.grownBy w1 (some g)) (b : w1.grownBy w2 (some g)) : w.grownBy w2 (some g) :=
  ⟨b.os.trans a.os, b.tape.trans a.tape, b.output.trans a.output, Nat.le_trans a.size b.size, fun k hk hne => (b.block k (Nat.lt_of_lt_of_le hk a.size) hne).trans (a.block k hk hne)⟩
theorem grown_below {w1 w2 : World} {g : Nat} (a : w.grownBy w1 (some g)) (b : Below w1.heap.size w1 w2) : w.grownBy w2 (some g) :=
  grown_tr a ⟨b.os, b.tape, b.output, b.size, fun k hk _ => b.block k hk⟩
theorem holdsK_below (h : HoldsK enc k w blk off d) (hb : blk < w.heap.size) (hB : Below w.heap.size w w') : HoldsK enc k w' blk off d := fun j hj => by
  have := h j hj
  unfold World.cell? World.frozen? at this ⊢
  rw [hB.block blk hb]
  exact this
end

section
variable {α β : Type} [Inhabited α] [DecidableEq β]
/-- Of the first m elements those that are first or whose key is another than that of the one before. -/
def kpS (key : α → β) (d : Array α) : Nat → List α
  | 0 => []
  | m + 1 => kpS key d m ++ (if m = 0 ∨ key d[m]! ≠ key d[m - 1]! then [d[m]!] else [])
theorem kpS_yes {key : α → β} {d : Array α} {m : Nat} (h : key d[m]! ≠ key d[m - 1]!) : kpS key d (m + 1) = kpS key d m ++ [d[m]!] := by rw [kpS, if_pos (.inr h)]
theorem kpS_no {key : α → β} {d : Array α} {m : Nat} (hm : 0 < m) (h : key d[m]! = key d[m - 1]!) : kpS key d (m + 1) = kpS key d m := by
  rw [kpS, if_neg (fun e => e.elim (fun e => by omega) fun e => e h), List.append_nil]
theorem kpS_len (key : α → β) (d : Array α) : ∀ m, (kpS key d m).length ≤ m
  | 0 => Nat.le_refl _
  | m + 1 => by
    have := kpS_len key d m
    rw [kpS, List.length_append]
    split <;> simp <;> omega
/-- Where no neighbours have one key, all are kept. -/
theorem kpS_all {key : α → β} {d : Array α} : ∀ {m : Nat}, (∀ j, 0 < j → j < m → key d[j]! ≠ key d[j - 1]!) → (kpS key d m).length = m ∧ ∀ j, j < m → (kpS key d m)[j]? = some d[j]!
  | 0, _ => ⟨rfl, fun j hj => by omega⟩
  | m + 1, h => by
    obtain ⟨h1, h2⟩ := kpS_all (m := m) fun j h0 hj => h j h0 (by omega)
    have e : kpS key d (m + 1) = kpS key d m ++ [d[m]!] := by
      rw [kpS, if_pos]
      by_cases e : m = 0
      · exact .inl e
      · exact .inr (h m (by omega) (by omega))
    rw [e]
    refine ⟨by simp [h1], fun j hj => ?_⟩
    by_cases hm : j < m
    · rw [List.getElem?_append_left (by rw [h1]; exact hm), h2 j hm]
    · obtain rfl : j = m := by omega
      rw [List.getElem?_append_right (by omega), h1, Nat.sub_self]; rfl
/-- The second loop: m elements have been looked at, kk of them are kept at the row's head; behind them the row is as it was. -/
structure KI (key : α → β) (d : Array α) (m kk : Nat) (dk : Array α) : Prop where
  size : dk.size = d.size
  len : (kpS key d m).length = kk
  lt : kk < m
  low : ∀ j, j < kk → (kpS key d m)[j]? = some dk[j]!
  high : ∀ j, kk ≤ j → dk[j]! = d[j]!
theorem KI.start {key : α → β} {d : Array α} {k0 : Nat} (h0 : 0 < k0) (hall : ∀ j, 0 < j → j < k0 → key d[j]! ≠ key d[j - 1]!) (hdup : key d[k0]! = key d[k0 - 1]!) : KI key d (k0 + 1) k0 d where
  size := rfl
  len := by rw [kpS_no h0 hdup]; exact (kpS_all hall).1
  lt := Nat.lt_succ_self _
  low := fun j hj => by rw [kpS_no h0 hdup]; exact (kpS_all hall).2 j hj
  high := fun _ _ => rfl
theorem KI.keep {key : α → β} {d dk : Array α} {m kk : Nat} (h : KI key d m kk dk) (hm : m < d.size) (hk : key d[m]! ≠ key d[m - 1]!) : KI key d (m + 1) (kk + 1) (dk.setIfInBounds kk d[m]!) where
  size := by simp [h.size]
  len := by rw [kpS_yes hk]; simp [h.len]
  lt := by have := h.lt; omega
  low := fun j hj => by
    rw [kpS_yes hk]
    by_cases e : j = kk
    · subst e
      rw [List.getElem?_append_right (by rw [h.len]; exact Nat.le_refl _), h.len, Nat.sub_self, getElem!_set_same dk j _ (by have := h.lt; have := h.size; omega)]
      rfl
    · rw [List.getElem?_append_left (by rw [h.len]; omega), h.low j (by omega), getElem!_set_other dk kk j _ e]
  high := fun j hj => by rw [getElem!_set_other dk kk j _ (by omega), h.high j (by omega)]
theorem KI.skip {key : α → β} {d dk : Array α} {m kk : Nat} (h : KI key d m kk dk) (hk : key d[m]! = key d[m - 1]!) : KI key d (m + 1) kk dk := by
  have h0 : 0 < m := by have := h.lt; omega
  exact ⟨h.size, by rw [kpS_no h0 hk]; exact h.len, by have := h.lt; omega, fun j hj => by rw [kpS_no h0 hk]; exact h.low j hj, h.high⟩
/-- Of a list in order: its keys, in order, each one once. -/
theorem kpS_rises {o : β → β → Int} (H : OrdL o) {key : α → β} {d : Array α} (hs : ∀ i j, i < j → j < d.size → ¬ 0 < o (key d[i]!) (key d[j]!)) :
    ∀ m, m < d.size → ∃ pre, (kpS key d (m + 1)).map key = pre ++ [key d[m]!] ∧ RisO o (pre ++ [key d[m]!]) ∧ ∀ x, x ∈ (pre ++ [key d[m]!]) ↔ ∃ j, j ≤ m ∧ key d[j]! = x
  | 0, _ => ⟨[], by simp [kpS], by simp [RisO], fun x => by
      simp only [List.nil_append, List.mem_singleton, Nat.le_zero]
      exact ⟨fun e => ⟨0, rfl, e.symm⟩, fun ⟨j, h1, h2⟩ => by subst h1; exact h2.symm⟩⟩
  | m + 1, hm => by
    obtain ⟨pre, h1, h2, h3⟩ := kpS_rises H hs m (by omega)
    by_cases e : key d[m + 1]! = key d[m]!
    · refine ⟨pre, by rw [kpS_no (by omega) (by simpa using e), h1, e], by rw [e]; exact h2, fun x => ?_⟩
      rw [e, h3]
      constructor
      · rintro ⟨j, hj, hx⟩; exact ⟨j, by omega, hx⟩
      · rintro ⟨j, hj, hx⟩
        by_cases ej : j = m + 1
        · subst ej; exact ⟨m, Nat.le_refl _, e ▸ hx⟩
        · exact ⟨j, by omega, hx⟩
    · have hlt : o (key d[m]!) (key d[m + 1]!) < 0 := by
        have h4 := hs m (m + 1) (by omega) hm
        have h5 : o (key d[m]!) (key d[m + 1]!) ≠ 0 := fun h => e (H.eq h).symm
        omega
      refine ⟨pre ++ [key d[m]!], by rw [kpS_yes (by simpa using e), List.map_append, h1]; rfl, ?_, fun x => ?_⟩
      · refine List.pairwise_append.2 ⟨h2, List.pairwise_singleton _ _, fun x hx y hy => ?_⟩
        rw [List.mem_singleton] at hy
        subst hy
        rcases List.mem_append.1 hx with h | h
        · exact H.up ((List.pairwise_append.1 h2).2.2 x h _ (List.mem_singleton.2 rfl)) hlt
        · rw [List.mem_singleton] at h; subst h; exact hlt
      · rw [List.mem_append, h3, List.mem_singleton]
        constructor
        · rintro (⟨j, hj, hx⟩ | hx)
          · exact ⟨j, by omega, hx⟩
          · exact ⟨m + 1, Nat.le_refl _, hx.symm⟩
        · rintro ⟨j, hj, hx⟩
          by_cases ej : j = m + 1
          · subst ej; exact .inr hx.symm
          · exact .inl ⟨j, by omega, hx⟩
theorem kpS_sorted {o : β → β → Int} (H : OrdL o) {key : α → β} {d : Array α} {l : List β} (hs : ∀ i j, i < j → j < d.size → ¬ 0 < o (key d[i]!) (key d[j]!)) (hm : ∀ x, (∃ j, j < d.size ∧ key d[j]! = x) ↔ x ∈ l) :
    (kpS key d d.size).map key = sortedO o l := by
  refine ris_extO H ?_ (sorted_risO H l) fun x => ?_
  · rcases hn : d.size with _ | n
    · simp [kpS, RisO]
    · obtain ⟨pre, h1, h2, _⟩ := kpS_rises H hs n (by omega)
      rw [h1]; exact h2
  · rw [sorted_memO H, ← hm]
    rcases hn : d.size with _ | n
    · simp [kpS]
    · obtain ⟨pre, h1, _, h3⟩ := kpS_rises H hs n (by omega)
      rw [h1, h3]
      constructor
      · rintro ⟨j, hj, hx⟩; exact ⟨j, by omega, hx⟩
      · rintro ⟨j, hj, hx⟩; exact ⟨j, by omega, hx⟩
end
end Go.Proofs.Ytdnmgemjhpkekaa
/-
  vestryref10.Compare.
-/
namespace Go.Proofs.Ytdnmgemjhpkekaa
open Go.ChangeShapes Go.WideShapes Go.ChangeAt Go.RowKit
set_option linter.unusedVariables false
set_option linter.unusedSectionVars false
set_option linter.unusedSimpArgs false

theorem cmpE_lt {k k2 : Int} {v n v2 n2 : List UInt8} {ks ls : List Ex} (h : k < k2) : cmpE (.mk k v n ks) (.mk k2 v2 n2 ls) = -1 := by
  unfold cmpE
  simp [orL, Ex.kind, Lib.compareInt, h]
theorem cmpE_gt {k k2 : Int} {v n v2 n2 : List UInt8} {ks ls : List Ex} (h : k2 < k) : cmpE (.mk k v n ks) (.mk k2 v2 n2 ls) = 1 := by
  unfold cmpE
  have h2 : ¬ k < k2 := by omega
  simp [orL, Ex.kind, Lib.compareInt, h, h2]
theorem cmpE_via {k : Int} {v n v2 n2 : List UInt8} {ks ls : List Ex} (h : Lib.compareBytes v v2 ≠ 0) : cmpE (.mk k v n ks) (.mk k v2 n2 ls) = Lib.compareBytes v v2 := by
  unfold cmpE
  simp [orL, Ex.kind, Ex.via, Lib.compareInt, h]
theorem cmpE_nm {k : Int} {v n v2 n2 : List UInt8} {ks ls : List Ex} (h1 : Lib.compareBytes v v2 = 0) (h : Lib.compareBytes n n2 ≠ 0) : cmpE (.mk k v n ks) (.mk k v2 n2 ls) = Lib.compareBytes n n2 := by
  unfold cmpE
  simp [orL, Ex.kind, Ex.via, Ex.nm, Lib.compareInt, h, h1]
theorem cmpE_kids {k : Int} {v n v2 n2 : List UInt8} {ks ls : List Ex} (h1 : Lib.compareBytes v v2 = 0) (h : Lib.compareBytes n n2 = 0) : cmpE (.mk k v n ks) (.mk k v2 n2 ls) = cmpL ks ls := by
  rw [cmpE, show Lib.compareInt k (Ex.mk k v2 n2 ls).kind = 0 by simp [Ex.kind, Lib.compareInt]]
  simp only [orL, Ex.via, Ex.nm, Ex.kids, h1, h, if_true]
  by_cases h3 : cmpL ks ls = 0 <;> simp [h3]
theorem cmpL_end {ks ls : List Ex} {i : Nat} (h1 : i ≤ ks.length) (h2 : i ≤ ls.length) (h : ¬ (i < ks.length ∧ i < ls.length)) : cmpL (ks.drop i) (ls.drop i) = if ks.length < ls.length then -1 else if ls.length < ks.length then 1 else 0 := by
  by_cases h3 : i < ks.length
  · rw [List.drop_eq_getElem_cons h3, show ls.drop i = [] from List.drop_eq_nil_of_le (by omega), if_neg (by omega), if_pos (by omega)]
    unfold cmpL; rfl
  · rw [show ks.drop i = [] from List.drop_eq_nil_of_le (by omega)]
    by_cases h4 : i < ls.length
    · rw [List.drop_eq_getElem_cons h4, if_pos (by omega)]
      unfold cmpL; rfl
    · rw [show ls.drop i = [] from List.drop_eq_nil_of_le (by omega), if_neg (by omega), if_neg (by omega)]
      unfold cmpL; rfl

set_option maxRecDepth 100000 in
set_option maxHeartbeats 8000000 in
theorem rcompare_any : ∀ (n : Nat) (x y : Ex) (vx vy : Value) (P Q : Nat → Prop) (w : World), sizeE x ≤ n → sizeE x ≤ 900000 → sizeE y ≤ 900000 → okE 100000 x → okE 100000 y → RdE P w x vx → RdE Q w y vy → (∀ b, P b → b < w.heap.size) → (∀ b, Q b → b < w.heap.size) → Calls Try.prog 10 #[vx, vy] w fun r w' => r = .returned (.int .i64 (cmpE x y)) ∧ Below w.heap.size w w' := by
  intro n
  induction n with
  | zero => intro x y vx vy P Q w h; have := sizeE_pos x; omega
  | succ n ih =>
    intro x y vx vy P Q w hx hxm hy hox hoy h1 h2 hP hQ
    obtain ⟨q, c, rfl, _, hk⟩ := h1.form
    obtain ⟨q2, c2, rfl, _, hl⟩ := h2.form
    obtain ⟨k, xv, xn, ks⟩ := x
    obtain ⟨k2, yv, yn, ls⟩ := y
    unfold exv
    show Calls _ _ #[.agg #[.int .i64 k, .string (bstr xv), .string (bstr xn), .slice q ks.length c], .agg #[.int .i64 k2, .string (bstr yv), .string (bstr yn), .slice q2 ls.length c2]] _ _
    have hks : sizeL ks ≤ n := by unfold sizeE at hx; omega
    have hkm : sizeL ks ≤ 900000 := by unfold sizeE at hxm; omega
    have hls : sizeL ls ≤ 900000 := by unfold sizeE at hy; omega
    have hlen := sizeL_len ks
    have hlen2 := sizeL_len ls
    unfold okE at hox hoy
    have HOK := Lib.hid hox.2.2
    have HOL := Lib.hid hoy.2.2
    have HOV : Hid (∀ W, Calls Try.prog 24 #[.string (bstr xv), .string (bstr yv)] W fun e w' => e = .returned (.int .i64 (Lib.compareBytes xv yv)) ∧ Below W.heap.size W w') := fun W => order_any (bstr xv) (bstr yv) (by rw [bstr_size]; omega) (by rw [bstr_size]; omega) W
    have HON : Hid (∀ W, Calls Try.prog 24 #[.string (bstr xn), .string (bstr yn)] W fun e w' => e = .returned (.int .i64 (Lib.compareBytes xn yn)) ∧ Below W.heap.size W w') := fun W => order_any (bstr xn) (bstr yn) (by rw [bstr_size]; omega) (by rw [bstr_size]; omega) W
    have hb : Below w.heap.size w ((w.alloc (.cells #[.int .i64 k, .string (bstr xv), .string (bstr xn), .slice q ks.length c] 31)).alloc (.cells #[.int .i64 k2, .string (bstr yv), .string (bstr yn), .slice q2 ls.length c2] 31)) := ((Below.refl _ _).alloc (Nat.le_refl _) _).alloc (by simp) _
    have ha1 : Arr ((w.alloc (.cells #[.int .i64 k, .string (bstr xv), .string (bstr xn), .slice q ks.length c] 31)).alloc (.cells #[.int .i64 k2, .string (bstr yv), .string (bstr yn), .slice q2 ls.length c2] 31)) 31 w.heap.size [.int .i64 k, .string (bstr xv), .string (bstr xn), .slice q ks.length c] := (Arr.new' w _ _ _ rfl).alloc _
    have ha2 : Arr ((w.alloc (.cells #[.int .i64 k, .string (bstr xv), .string (bstr xn), .slice q ks.length c] 31)).alloc (.cells #[.int .i64 k2, .string (bstr yv), .string (bstr yn), .slice q2 ls.length c2] 31)) 31 (w.heap.size + 1) [.int .i64 k2, .string (bstr yv), .string (bstr yn), .slice q2 ls.length c2] := Arr.new2 w _ _ _ _ rfl
    have HB := Lib.hid hb
    have HA1 := Lib.hid ha1
    have HA2 := Lib.hid ha2
    have HIH := Lib.hid ih
    have HP := Lib.hid hP
    have HQ := Lib.hid hQ
    have HK : Hid (0 < ks.length → ∃ b o, q = some ⟨b, o, none⟩ ∧ P b ∧ RdL P w ks b o) := hk
    have HL : Hid (0 < ls.length → ∃ b o, q2 = some ⟨b, o, none⟩ ∧ Q b ∧ RdL Q w ls b o) := hl
    clear h1 h2 hk hl hx hy hxm hb ha1 ha2 ih hox hoy hP hQ
    by_cases hlt : k < k2
    · have HE : Hid (cmpE (.mk k xv xn ks) (.mk k2 yv yn ls) = -1) := cmpE_lt hlt
      go_enter Try.func10, Try.ntmps10
      go_wp2_with fail
      go_ret
      exact ⟨by rw [HE.out]; rfl, HB.out⟩
    by_cases hgt : k2 < k
    · have HE : Hid (cmpE (.mk k xv xn ks) (.mk k2 yv yn ls) = 1) := cmpE_gt hgt
      go_enter Try.func10, Try.ntmps10
      go_wp2_with fail
      go_ret
      exact ⟨by rw [HE.out]; rfl, HB.out⟩
    obtain rfl : k = k2 := by omega
    have HEV : Hid (Lib.compareBytes xv yv ≠ 0 → cmpE (.mk k xv xn ks) (.mk k yv yn ls) = Lib.compareBytes xv yv) := cmpE_via
    have HEN : Hid (Lib.compareBytes xv yv = 0 → Lib.compareBytes xn yn ≠ 0 → cmpE (.mk k xv xn ks) (.mk k yv yn ls) = Lib.compareBytes xn yn) := cmpE_nm
    have HEK : Hid (Lib.compareBytes xv yv = 0 → Lib.compareBytes xn yn = 0 → cmpE (.mk k xv xn ks) (.mk k yv yn ls) = cmpL ks ls) := cmpE_kids
    obtain ⟨A, hA⟩ : ∃ A, A = Lib.compareBytes xv yv := ⟨_, rfl⟩
    obtain ⟨B, hB⟩ : ∃ B, B = Lib.compareBytes xn yn := ⟨_, rfl⟩
    rw [← hA] at HOV HEV HEN HEK
    rw [← hB] at HON HEN HEK
    obtain ⟨CE, hCE⟩ : ∃ E, E = cmpE (.mk k xv xn ks) (.mk k yv yn ls) := ⟨_, rfl⟩
    rw [← hCE] at HEV HEN HEK ⊢
    clear hA hB hCE hlt hgt
    have hself : ¬ k < k := by omega
    go_enter Try.func10, Try.ntmps10
    go_wp2_with fail
    refine (HOV.out _).mono ?_
    rintro r w1 ⟨rfl, b1⟩
    have HA11 := Lib.hid (HA1.out.later b1)
    have HA21 := Lib.hid (HA2.out.later b1)
    have HB1 := Lib.hid (HB.out.trans (b1.mono HB.out.size))
    clear b1 HA1 HA2 HB
    have a1 := HA11.out.cell 1
    have a2 := HA11.out.cell 2
    have e1 := HA21.out.cell 1
    have e2 := HA21.out.cell 2
    simp only [List.getElem?_cons_zero, List.getElem?_cons_succ] at a1 a2 e1 e2
    by_cases hz : A = 0
    case neg =>
      have bz : (A != 0) = true := by rw [bne_iff_ne]; exact hz
      have HE2 := Lib.hid (HEV.out hz)
      clear hz
      go_wp2_with fail
      refine (HOV.out _).mono ?_
      rintro r w2 ⟨rfl, b2⟩
      have HB2 := Lib.hid (HB1.out.trans (b2.mono HB1.out.size))
      clear b2
      go_wp2_with fail
      go_ret
      exact ⟨by rw [HE2.out]; rfl, HB2.out⟩
    have bz : (A != 0) = false := by rw [hz]; rfl
    have HEN2 := Lib.hid (HEN.out hz)
    have HEK2 := Lib.hid (HEK.out hz)
    clear hz
    go_wp2_with fail
    refine (HON.out _).mono ?_
    rintro r w2 ⟨rfl, b2⟩
    have HA12 := Lib.hid (HA11.out.later b2)
    have HA22 := Lib.hid (HA21.out.later b2)
    have HB2 := Lib.hid (HB1.out.trans (b2.mono HB1.out.size))
    clear b2 a1 a2 e1 e2 HA11 HA21 HB1
    have a2 := HA12.out.cell 2
    have e2 := HA22.out.cell 2
    simp only [List.getElem?_cons_zero, List.getElem?_cons_succ] at a2 e2
    by_cases hz : B = 0
    case neg =>
      have bz2 : (B != 0) = true := by rw [bne_iff_ne]; exact hz
      have HE2 := Lib.hid (HEN2.out hz)
      clear hz
      go_wp2_with fail
      refine (HON.out _).mono ?_
      rintro r w3 ⟨rfl, b3⟩
      have HB3 := Lib.hid (HB2.out.trans (b3.mono HB2.out.size))
      clear b3
      go_wp2_with fail
      go_ret
      exact ⟨by rw [HE2.out]; rfl, HB3.out⟩
    have bz2 : (B != 0) = false := by rw [hz]; rfl
    have HE2 := Lib.hid (HEK2.out hz)
    clear hz a2 e2 HEV HEN HEK HEN2 HEK2 HOV HON
    go_wp2_with fail
    go_loopw [5] (fun iv wr => ∃ i : Nat, i ≤ ks.length ∧ i ≤ ls.length ∧ iv = .int .i64 i ∧ Hid (cmpL ks ls = cmpL (ks.drop i) (ls.drop i)) ∧ Hid (Below w.heap.size w wr ∧ Arr wr 31 w.heap.size [.int .i64 k, .string (bstr xv), .string (bstr xn), .slice q ks.length c] ∧ Arr wr 31 (w.heap.size + 1) [.int .i64 k, .string (bstr yv), .string (bstr yn), .slice q2 ls.length c2])) (fun iv _ => ks.length - (intOf iv).toNat)
    case atStart => exact ⟨0, Nat.zero_le _, Nat.zero_le _, rfl, rfl, HB2.out, HA12.out, HA22.out⟩
    case round =>
      obtain ⟨i, hi, hi2, rfl, HD, HI2⟩ := hrel
      have HI := Lib.hid HI2.out.1
      have HAI := Lib.hid HI2.out.2.1
      have HAJ := Lib.hid HI2.out.2.2
      clear HI2 HB2 HA12 HA22
      have hi0 : (0 : Int) ≤ i := by omega
      have a3 := HAI.out.cell 3
      have e3 := HAJ.out.cell 3
      simp only [List.getElem?_cons_zero, List.getElem?_cons_succ] at a3 e3
      by_cases hboth : i < ks.length ∧ i < ls.length
      · obtain ⟨hlt, hlt2⟩ := hboth
        have hi1 : (i : Int) < ks.length := by omega
        have hi3 : (i : Int) < ls.length := by omega
        have HST := Lib.hid (cmpL_step hlt hlt2)
        have hP := HP.out
        obtain ⟨ba, oa, rfl, hba, hl⟩ := HK.out (by omega)
        obtain ⟨x, hx⟩ : ∃ x, x = ks.getD i ex0 := ⟨_, rfl⟩
        obtain ⟨q2a, c2a, x0, x1, x2, x3, hr⟩ := hl.at hlt
        have hxs := sizeL_get ks i hlt
        have hxd := depthL_get ks i hlt
        rw [← hx] at x0 x1 x2 x3 hr hxs hxd
        have HX := Lib.hid hx
        obtain ⟨xk, xv2, xn2, xs⟩ := x
        have cc : ∀ n, wr.cell? ⟨ba, n, none⟩ = w.cell? ⟨ba, n, none⟩ := fun n => (HI.out).cell (p := ⟨ba, n, none⟩) (hP _ hba)
        have X0 : wr.cell? ⟨ba, oa + i * 4, none⟩ = some (.int .i64 xk) := (cc _).trans x0
        have X1 : wr.cell? ⟨ba, oa + i * 4 + 1, none⟩ = some (.string (bstr xv2)) := (cc _).trans x1
        have X2 : wr.cell? ⟨ba, oa + i * 4 + 2, none⟩ = some (.string (bstr xn2)) := (cc _).trans x2
        have X3 : wr.cell? ⟨ba, oa + i * 4 + 3, none⟩ = some (.slice q2a xs.length c2a) := (cc _).trans x3
        clear x0 x1 x2 x3 cc hx
        have hQ := HQ.out
        obtain ⟨bab, oab, rfl, hbab, hlb⟩ := HL.out (by omega)
        obtain ⟨x, hx⟩ : ∃ x, x = ls.getD i ex0 := ⟨_, rfl⟩
        obtain ⟨q2b, c2b, x0, x1, x2, x3, hrb⟩ := hlb.at hlt2
        have hxsb := sizeL_get ls i hlt2
        have hxdb := depthL_get ls i hlt2
        rw [← hx] at x0 x1 x2 x3 hrb hxsb hxdb
        have HXb := Lib.hid hx
        obtain ⟨xkb, xv2b, xn2b, xsb⟩ := x
        have cc : ∀ n, wr.cell? ⟨bab, n, none⟩ = w.cell? ⟨bab, n, none⟩ := fun n => (HI.out).cell (p := ⟨bab, n, none⟩) (hQ _ hbab)
        have X0b : wr.cell? ⟨bab, oab + i * 4, none⟩ = some (.int .i64 xkb) := (cc _).trans x0
        have X1b : wr.cell? ⟨bab, oab + i * 4 + 1, none⟩ = some (.string (bstr xv2b)) := (cc _).trans x1
        have X2b : wr.cell? ⟨bab, oab + i * 4 + 2, none⟩ = some (.string (bstr xn2b)) := (cc _).trans x2
        have X3b : wr.cell? ⟨bab, oab + i * 4 + 3, none⟩ = some (.slice q2b xsb.length c2b) := (cc _).trans x3
        clear x0 x1 x2 x3 cc hx
        have HR : Hid (RdE P wr (.mk xk xv2 xn2 xs) (.agg #[.int .i64 xk, .string (bstr xv2), .string (bstr xn2), .slice q2a xs.length c2a])) := hr.below HI.out hP
        have HR2 : Hid (RdE Q wr (.mk xkb xv2b xn2b xsb) (.agg #[.int .i64 xkb, .string (bstr xv2b), .string (bstr xn2b), .slice q2b xsb.length c2b])) := hrb.below HI.out hQ
        have HC : Hid (∀ W, Below wr.heap.size wr W → Calls Try.prog 10 #[.agg #[.int .i64 xk, .string (bstr xv2), .string (bstr xn2), .slice q2a xs.length c2a], .agg #[.int .i64 xkb, .string (bstr xv2b), .string (bstr xn2b), .slice q2b xsb.length c2b]] W fun r w' => r = .returned (.int .i64 (cmpE (.mk xk xv2 xn2 xs) (.mk xkb xv2b xn2b xsb))) ∧ Below W.heap.size W w') :=
          fun W hW => HIH.out (.mk xk xv2 xn2 xs) (.mk xkb xv2b xn2b xsb) _ _ P Q W (by omega) (by omega) (by omega) (HX.out ▸ okL_get HOK.out hlt) (HXb.out ▸ okL_get HOL.out hlt2) (HR.out.below hW (fun b hb => Nat.lt_of_lt_of_le (hP b hb) HI.out.size)) (HR2.out.below hW (fun b hb => Nat.lt_of_lt_of_le (hQ b hb) HI.out.size)) (fun b hb => Nat.lt_of_lt_of_le (hP b hb) (Nat.le_trans HI.out.size hW.size)) (fun b hb => Nat.lt_of_lt_of_le (hQ b hb) (Nat.le_trans HI.out.size hW.size))
        rw [← HX.out, ← HXb.out, orL2] at HST
        obtain ⟨E, hE⟩ : ∃ E, E = cmpE (.mk xk xv2 xn2 xs) (.mk xkb xv2b xn2b xsb) := ⟨_, rfl⟩
        rw [← hE] at HC HST
        clear hl hr hxs hxd hba hP hE hlb hrb hxsb hxdb hbab hQ
        go_upto_region 12 with (fail)
        refine wp_region_still_tail 10 (by kernel_rfl) (by kernel_rfl) ?_
        simp only [List.take_succ_cons, List.take_zero, List.drop_succ_cons, List.drop_zero]
        repeat still_step
        refine wpStill_nil ?_
        change wpList _ _ _ _ _ wr.drew
        have HBd : Hid (Below wr.heap.size wr wr.drew) := (Below.refl _ _).drew
        have HCd := Lib.hid (HC.out _ HBd.out)
        have HId := Lib.hid (HI.out.trans (HBd.out.mono HI.out.size))
        have HAd := Lib.hid (HAI.out.later HBd.out)
        have HAe := Lib.hid (HAJ.out.later HBd.out)
        clear a3 e3 X0 X1 X2 X3 X0b X1b X2b X3b HC HAI HAJ HR HR2 HI
        generalize wr.drew = wd at HBd HCd HId HAd HAe ⊢
        go_wp2_with fail
        refine HCd.out.mono ?_
        rintro r w5 ⟨rfl, b5⟩
        have HB5 := Lib.hid (HId.out.trans (b5.mono HId.out.size))
        have HA5 := Lib.hid (HAd.out.later b5)
        have HA6 := Lib.hid (HAe.out.later b5)
        clear b5
        by_cases hz : E = 0
        · have bz5 : (E != 0) = false := by rw [hz]; rfl
          have HST2 : Hid (cmpL ks ls = cmpL (ks.drop (i + 1)) (ls.drop (i + 1))) := by show _ = _; rw [HD.out, HST.out, if_pos hz]
          clear hz
          go_wp2_with fail
          go_roundw
          case rel => exact ⟨i + 1, by omega, by omega, by go_num, HST2.out, HB5.out, HA5.out, HA6.out⟩
          case measure => simp [intOf]; omega
        · have bz5 : (E != 0) = true := by rw [bne_iff_ne]; exact hz
          have HST2 : Hid (cmpL ks ls = E) := by show _ = _; rw [HD.out, HST.out, if_neg hz]
          clear hz
          go_wp2_with fail
          go_ret
          exact ⟨by rw [HE2.out, HST2.out]; rfl, HB5.out⟩
      · have HEN := Lib.hid (cmpL_end hi hi2 hboth)
        by_cases hlt : i < ks.length
        · have hi1 : (i : Int) < ks.length := by omega
          have hi3 : ¬ (i : Int) < ls.length := by omega
          have h4 : ¬ (ks.length : Int) < ls.length := by omega
          have h5 : (ls.length : Int) < ks.length := by omega
          have HRS : Hid (CE = 1) := by show _ = _; rw [HE2.out, HD.out, HEN.out, if_neg (by omega), if_pos (by omega)]
          clear hboth
          go_wp2_with fail
          go_ret
          exact ⟨by rw [HRS.out]; rfl, HI.out⟩
        · have hi1 : ¬ (i : Int) < ks.length := by omega
          by_cases hl2 : ks.length < ls.length
          · have h4 : (ks.length : Int) < ls.length := by omega
            have HRS : Hid (CE = -1) := by show _ = _; rw [HE2.out, HD.out, HEN.out, if_pos hl2]
            clear hboth
            go_wp2_with fail
            go_ret
            exact ⟨by rw [HRS.out]; rfl, HI.out⟩
          · have h4 : ¬ (ks.length : Int) < ls.length := by omega
            have h5 : ¬ (ls.length : Int) < ks.length := by omega
            have HRS : Hid (CE = 0) := by show _ = _; rw [HE2.out, HD.out, HEN.out, if_neg hl2, if_neg (by omega)]
            clear hboth
            go_wp2_with fail
            go_ret
            exact ⟨by rw [HRS.out]; rfl, HI.out⟩
end Go.Proofs.Ytdnmgemjhpkekaa
/-
  The order of expressions: one order, in which only the same ones are equal.
-/
namespace Go.Proofs.Ytdnmgemjhpkekaa
open Go.ChangeShapes Go.WideShapes Go.ChangeAt Go.RowKit
set_option linter.unusedVariables false
set_option linter.unusedSectionVars false
set_option linter.unusedSimpArgs false

def T3 (x : Int) : Prop := x = -1 ∨ x = 0 ∨ x = 1
theorem ci_three (a b : Int) : T3 (Lib.compareInt a b) := by
  unfold T3 Lib.compareInt
  by_cases h : a < b
  · simp [h]
  · by_cases h2 : b < a
    · simp [h, h2]
    · have : a = b := by omega
      simp [this]
theorem ci_flip (a b : Int) : Lib.compareInt b a = - Lib.compareInt a b := by
  unfold Lib.compareInt
  by_cases h : a < b
  · have h2 : ¬ b < a := by omega
    simp [h, h2]
  · by_cases h2 : b < a
    · simp [h, h2]
    · have : a = b := by omega
      simp [this]
theorem orL_three : ∀ (l : List Int), (∀ x ∈ l, T3 x) → T3 (orL l)
  | [], _ => .inr (.inl rfl)
  | x :: r, h => by
    have hr := orL_three r fun y hy => h y (List.mem_cons_of_mem _ hy)
    have hx := h x (List.mem_cons_self)
    unfold orL
    split <;> assumption
theorem orL_flip : ∀ (l : List Int), orL (l.map fun x => -x) = - orL l
  | [] => rfl
  | x :: r => by
    have hr := orL_flip r
    simp only [List.map_cons]
    unfold orL
    by_cases h : x = 0
    · simp [h, hr]
    · have h2 : ¬ -x = 0 := by omega
      simp [h]
mutual
theorem cmpE_three : ∀ a b : Ex, T3 (cmpE a b)
  | .mk k v n ks, .mk k2 v2 n2 ls => by
    have := cmpL_three ks ls
    unfold cmpE
    refine orL_three _ fun x hx => ?_
    simp only [List.mem_cons, List.not_mem_nil, or_false] at hx
    rcases hx with rfl | rfl | rfl | rfl
    · exact ci_three _ _
    · exact cb_three _ _
    · exact cb_three _ _
    · exact this
theorem cmpL_three : ∀ a b : List Ex, T3 (cmpL a b)
  | [], [] => .inr (.inl (by unfold cmpL; rfl))
  | [], _ :: _ => .inl (by unfold cmpL; rfl)
  | _ :: _, [] => .inr (.inr (by unfold cmpL; rfl))
  | a :: r, b :: s => by
    have h1 := cmpE_three a b
    have h2 := cmpL_three r s
    unfold cmpL
    refine orL_three _ fun x hx => ?_
    simp only [List.mem_cons, List.not_mem_nil, or_false] at hx
    rcases hx with rfl | rfl
    · exact h1
    · exact h2
end
mutual
theorem cmpE_flip : ∀ a b : Ex, cmpE b a = - cmpE a b
  | .mk k v n ks, .mk k2 v2 n2 ls => by
    have h := cmpL_flip ks ls
    unfold cmpE
    simp only [Ex.kind, Ex.via, Ex.nm, Ex.kids]
    rw [ci_flip k k2, cb_flip v v2, cb_flip n n2, h, ← orL_flip]; rfl
theorem cmpL_flip : ∀ a b : List Ex, cmpL b a = - cmpL a b
  | [], [] => by unfold cmpL; rfl
  | [], _ :: _ => by unfold cmpL; rfl
  | _ :: _, [] => by unfold cmpL; rfl
  | a :: r, b :: s => by
    have h1 := cmpE_flip a b
    have h2 := cmpL_flip r s
    unfold cmpL
    rw [h1, h2, ← orL_flip]; rfl
end
mutual
theorem cmpE_self : ∀ a : Ex, cmpE a a = 0
  | .mk k v n ks => by
    rw [cmpE_kids (cb_self v) (cb_self n)]
    exact cmpL_self ks
theorem cmpL_self : ∀ a : List Ex, cmpL a a = 0
  | [] => by unfold cmpL; rfl
  | a :: r => by
    have h1 := cmpE_self a
    have h2 := cmpL_self r
    unfold cmpL
    rw [h1, h2]; rfl
end
theorem cmp_cases (k k2 : Int) (v n v2 n2 : List UInt8) (ks ls : List Ex) :
    (k < k2 ∧ cmpE (.mk k v n ks) (.mk k2 v2 n2 ls) = -1) ∨ (k2 < k ∧ cmpE (.mk k v n ks) (.mk k2 v2 n2 ls) = 1) ∨
    (k = k2 ∧ Lib.compareBytes v v2 ≠ 0 ∧ cmpE (.mk k v n ks) (.mk k2 v2 n2 ls) = Lib.compareBytes v v2) ∨
    (k = k2 ∧ v = v2 ∧ Lib.compareBytes n n2 ≠ 0 ∧ cmpE (.mk k v n ks) (.mk k2 v2 n2 ls) = Lib.compareBytes n n2) ∨
    (k = k2 ∧ v = v2 ∧ n = n2 ∧ cmpE (.mk k v n ks) (.mk k2 v2 n2 ls) = cmpL ks ls) := by
  by_cases h1 : k < k2
  · exact .inl ⟨h1, cmpE_lt h1⟩
  by_cases h2 : k2 < k
  · exact .inr (.inl ⟨h2, cmpE_gt h2⟩)
  obtain rfl : k = k2 := by omega
  by_cases h3 : Lib.compareBytes v v2 = 0
  · by_cases h4 : Lib.compareBytes n n2 = 0
    · exact .inr (.inr (.inr (.inr ⟨rfl, cb_eq _ _ h3, cb_eq _ _ h4, cmpE_kids h3 h4⟩)))
    · exact .inr (.inr (.inr (.inl ⟨rfl, cb_eq _ _ h3, h4, cmpE_nm h3 h4⟩)))
  · exact .inr (.inr (.inl ⟨rfl, h3, cmpE_via h3⟩))
mutual
theorem cmpE_eq : ∀ {a b : Ex}, cmpE a b = 0 → a = b
  | .mk k v n ks, .mk k2 v2 n2 ls, h => by
    have hl := @cmpL_eq ks ls
    rcases cmp_cases k k2 v n v2 n2 ks ls with ⟨_, e⟩ | ⟨_, e⟩ | ⟨_, g, e⟩ | ⟨_, _, g, e⟩ | ⟨rfl, rfl, rfl, e⟩
    · rw [e] at h; cases h
    · rw [e] at h; cases h
    · rw [e] at h; exact absurd h g
    · rw [e] at h; exact absurd h g
    · rw [e] at h; rw [hl h]
theorem cmpL_eq : ∀ {a b : List Ex}, cmpL a b = 0 → a = b
  | [], [], _ => rfl
  | [], _ :: _, h => by unfold cmpL at h; cases h
  | _ :: _, [], h => by unfold cmpL at h; cases h
  | a :: r, b :: s, h => by
    have h1 := @cmpE_eq a b
    have h2 := @cmpL_eq r s
    unfold cmpL at h
    rw [orL2] at h
    by_cases hz : cmpE a b = 0
    · rw [if_pos hz] at h; rw [h1 hz, h2 h]
    · rw [if_neg hz] at h; exact absurd h hz
end
mutual
theorem cmpE_up : ∀ {a b c : Ex}, cmpE a b < 0 → cmpE b c < 0 → cmpE a c < 0
  | .mk k v n ks, .mk k2 v2 n2 ls, .mk k3 v3 n3 ms, h1, h2 => by
    have hl := @cmpL_up ks ls ms
    rcases cmp_cases k k2 v n v2 n2 ks ls with ⟨g, e⟩ | ⟨_, e⟩ | ⟨rfl, g, e⟩ | ⟨rfl, rfl, g, e⟩ | ⟨rfl, rfl, rfl, e⟩
    · rcases cmp_cases k2 k3 v2 n2 v3 n3 ls ms with ⟨g2, e2⟩ | ⟨_, e2⟩ | ⟨rfl, g2, e2⟩ | ⟨rfl, rfl, g2, e2⟩ | ⟨rfl, rfl, rfl, e2⟩
      · rw [cmpE_lt (by omega)]; omega
      · rw [e2] at h2; omega
      · rw [cmpE_lt g]; omega
      · rw [cmpE_lt g]; omega
      · rw [cmpE_lt g]; omega
    · rw [e] at h1; omega
    · rw [e] at h1
      rcases cmp_cases k k3 v2 n2 v3 n3 ls ms with ⟨g2, e2⟩ | ⟨_, e2⟩ | ⟨rfl, g2, e2⟩ | ⟨rfl, rfl, g2, e2⟩ | ⟨rfl, rfl, rfl, e2⟩
      · rw [cmpE_lt g2]; omega
      · rw [e2] at h2; omega
      · rw [e2] at h2
        have h3 := cb_up _ _ _ h1 h2
        rw [cmpE_via (by omega)]; exact h3
      · rw [cmpE_via g]; exact h1
      · rw [cmpE_via g]; exact h1
    · rw [e] at h1
      rcases cmp_cases k k3 v n2 v3 n3 ls ms with ⟨g2, e2⟩ | ⟨_, e2⟩ | ⟨rfl, g2, e2⟩ | ⟨rfl, rfl, g2, e2⟩ | ⟨rfl, rfl, rfl, e2⟩
      · rw [cmpE_lt g2]; omega
      · rw [e2] at h2; omega
      · rw [e2] at h2
        rw [cmpE_via g2]; exact h2
      · rw [e2] at h2
        have h3 := cb_up _ _ _ h1 h2
        rw [cmpE_nm (cb_self _) (by omega)]; exact h3
      · rw [cmpE_nm (cb_self _) g]; exact h1
    · rw [e] at h1
      rcases cmp_cases k k3 v n v3 n3 ls ms with ⟨g2, e2⟩ | ⟨_, e2⟩ | ⟨rfl, g2, e2⟩ | ⟨rfl, rfl, g2, e2⟩ | ⟨rfl, rfl, rfl, e2⟩
      · rw [cmpE_lt g2]; omega
      · rw [e2] at h2; omega
      · rw [e2] at h2
        rw [cmpE_via g2]; exact h2
      · rw [e2] at h2
        rw [cmpE_nm (cb_self _) g2]; exact h2
      · rw [e2] at h2
        rw [cmpE_kids (cb_self _) (cb_self _)]; exact hl h1 h2
theorem cmpL_up : ∀ {a b c : List Ex}, cmpL a b < 0 → cmpL b c < 0 → cmpL a c < 0
  | [], [], _, h1, _ => by unfold cmpL at h1; omega
  | [], _ :: _, [], _, h2 => by unfold cmpL at h2; omega
  | [], _ :: _, _ :: _, _, _ => by unfold cmpL; omega
  | _ :: _, [], _, h1, _ => by unfold cmpL at h1; omega
  | _ :: _, _ :: _, [], _, h2 => by unfold cmpL at h2; omega
  | a :: r, b :: s, c :: u, h1, h2 => by
    have he := @cmpE_up a b c
    have hr := @cmpL_up r s u
    have q1 := @cmpE_eq a b
    have q2 := @cmpE_eq b c
    unfold cmpL at h1 h2 ⊢
    rw [orL2] at h1 h2 ⊢
    by_cases z1 : cmpE a b = 0
    · obtain rfl := q1 z1
      rw [if_pos z1] at h1
      by_cases z2 : cmpE a c = 0
      · rw [if_pos z2] at h2 ⊢; exact hr h1 h2
      · rw [if_neg z2] at h2 ⊢; exact h2
    · rw [if_neg z1] at h1
      by_cases z2 : cmpE b c = 0
      · obtain rfl := q2 z2
        rw [if_neg z1]; exact h1
      · rw [if_neg z2] at h2
        have := he h1 h2
        rw [if_neg (by omega)]; exact this
end
theorem cmpE_le {a b c : Ex} (h1 : ¬ 0 < cmpE a b) (h2 : ¬ 0 < cmpE b c) : cmpE a c ≤ 0 := by
  by_cases z1 : cmpE a b = 0
  · rw [cmpE_eq z1]; omega
  · by_cases z2 : cmpE b c = 0
    · rw [← cmpE_eq z2]; omega
    · have := cmpE_up (a := a) (b := b) (c := c) (by omega) (by omega); omega
end Go.Proofs.Ytdnmgemjhpkekaa
/-
  Canonical expressions over an order; no program is spoken of.
-/
namespace Go.Proofs.Ytdnmgemjhpkekaa
set_option linter.unusedVariables false
set_option linter.unusedSectionVars false
set_option linter.unusedSimpArgs false

def flatK (k : Int) : List Ex → List Ex
  | [] => []
  | x :: r => (if x.kind = k then x.kids else [x]) ++ flatK k r
def finE (o : Ex → Ex → Int) (k : Int) (v n : List UInt8) (ks : List Ex) : Ex :=
  if k = 3 ∨ k = 4 then (match sortedO o (flatK k ks) with
    | [y] => y
    | l => .mk k v n l) else .mk k v n ks
mutual
def canE (o : Ex → Ex → Int) : Ex → Ex
  | .mk k v n ks => finE o k v n (canL o ks)
def canL (o : Ex → Ex → Int) : List Ex → List Ex
  | [] => []
  | e :: r => canE o e :: canL o r
end
mutual
def Can (o : Ex → Ex → Int) : Ex → Prop
  | .mk k v n ks => CanL o ks ∧ (k = 3 ∨ k = 4 → RisO o ks ∧ 2 ≤ ks.length ∧ ∀ x ∈ ks, x.kind ≠ k)
def CanL (o : Ex → Ex → Int) : List Ex → Prop
  | [] => True
  | e :: r => Can o e ∧ CanL o r
end
theorem canL_len (o : Ex → Ex → Int) : ∀ l : List Ex, (canL o l).length = l.length
  | [] => rfl
  | e :: r => by rw [canL, List.length_cons, canL_len o r, List.length_cons]
theorem canL_map (o : Ex → Ex → Int) : ∀ l : List Ex, canL o l = l.map (canE o)
  | [] => rfl
  | e :: r => by rw [canL, canL_map o r]; rfl
theorem canL_mem {o : Ex → Ex → Int} : ∀ {l : List Ex}, CanL o l → ∀ x ∈ l, Can o x
  | [], _, x, h => by simp at h
  | e :: r, hc, x, h => by
    unfold CanL at hc
    rcases List.mem_cons.1 h with rfl | h
    · exact hc.1
    · exact canL_mem hc.2 x h
theorem canL_all {o : Ex → Ex → Int} : ∀ {l : List Ex}, (∀ x ∈ l, Can o x) → CanL o l
  | [], _ => by unfold CanL; trivial
  | e :: r, h => by unfold CanL; exact ⟨h e (by simp), canL_all fun x hx => h x (by simp [hx])⟩
/-! ### canonical expressions stay -/
theorem flatK_self {k : Int} : ∀ {l : List Ex}, (∀ x ∈ l, x.kind ≠ k) → flatK k l = l
  | [], _ => rfl
  | x :: r, h => by rw [flatK, if_neg (h x (by simp)), flatK_self fun y hy => h y (by simp [hy])]; rfl
theorem fin_self {o : Ex → Ex → Int} (H : OrdL o) {k : Int} {v n : List UInt8} {ks : List Ex} (h : k = 3 ∨ k = 4 → RisO o ks ∧ 2 ≤ ks.length ∧ ∀ x ∈ ks, x.kind ≠ k) : finE o k v n ks = .mk k v n ks := by
  unfold finE
  by_cases hk : k = 3 ∨ k = 4
  · obtain ⟨h1, h2, h3⟩ := h hk
    rw [if_pos hk, flatK_self h3, sorted_of_risO H h1]
    match ks, h2 with
    | a :: b :: r, _ => rfl
  · rw [if_neg hk]
mutual
theorem can_self {o : Ex → Ex → Int} (H : OrdL o) : ∀ e : Ex, Can o e → canE o e = e
  | .mk k v n ks, h => by
    unfold Can at h
    unfold canE
    rw [cans_self H ks h.1]
    exact fin_self H h.2
theorem cans_self {o : Ex → Ex → Int} (H : OrdL o) : ∀ l : List Ex, CanL o l → canL o l = l
  | [], _ => rfl
  | e :: r, h => by
    unfold CanL at h
    unfold canL
    rw [can_self H e h.1, cans_self H r h.2]
end
/-! ### what is made is canonical -/
def nlv (e : Ex) : Nat := (leavesE e).length
theorem nlv_sum (l : List Ex) : (leavesL l).length = (l.map nlv).sum := (leaves_sum l).symm
theorem put1_sum {o : Ex → Ex → Int} (t : Ex) : ∀ l : List Ex, ((put1O o t l).map nlv).sum ≤ nlv t + (l.map nlv).sum
  | [] => by simp [put1O]
  | a :: l => by
    have ih := put1_sum (o := o) t l
    unfold put1O
    split
    · simp only [List.map_cons, List.sum_cons]; omega
    split
    · simp only [List.map_cons, List.sum_cons]; omega
    · simp only [List.map_cons, List.sum_cons]; omega
theorem srt_sum {o : Ex → Ex → Int} : ∀ (l out : List Ex), ((srtO o out l).map nlv).sum ≤ (out.map nlv).sum + (l.map nlv).sum
  | [], out => by simp [srtO]
  | t :: l, out => by
    have h1 := srt_sum (o := o) l (put1O o t out)
    have h2 := put1_sum (o := o) t out
    show ((srtO o (put1O o t out) l).map nlv).sum ≤ _
    simp only [List.map_cons, List.sum_cons]
    omega
theorem sorted_sum {o : Ex → Ex → Int} (l : List Ex) : ((sortedO o l).map nlv).sum ≤ (l.map nlv).sum := by
  have := srt_sum (o := o) l []
  simpa [sortedO] using this
theorem nlv_kids {x : Ex} {k : Int} (hk : k = 3 ∨ k = 4) (h : x.kind = k) : nlv x = (x.kids.map nlv).sum := by
  obtain ⟨k', v, n, ks⟩ := x
  have h : k' = k := h
  subst h
  show (leavesE (.mk k' v n ks)).length = (ks.map nlv).sum
  rw [leavesE, if_neg (by rcases hk with rfl | rfl <;> decide), nlv_sum]
theorem flat_sum {k : Int} (hk : k = 3 ∨ k = 4) : ∀ l : List Ex, ((flatK k l).map nlv).sum = (l.map nlv).sum
  | [] => rfl
  | x :: r => by
    rw [flatK, List.map_append, List.sum_append, flat_sum hk r, List.map_cons, List.sum_cons]
    by_cases h : x.kind = k
    · rw [if_pos h, nlv_kids hk h]
    · rw [if_neg h]; simp
theorem flat_mem {k : Int} : ∀ {l : List Ex} {x : Ex}, x ∈ flatK k l ↔ ∃ y ∈ l, if y.kind = k then x ∈ y.kids else x = y
  | [], x => by simp [flatK]
  | y :: r, x => by
    rw [flatK, List.mem_append, flat_mem (l := r)]
    constructor
    · rintro (h | ⟨z, hz, h⟩)
      · refine ⟨y, by simp, ?_⟩
        by_cases hy : y.kind = k
        · rw [if_pos hy] at h ⊢; exact h
        · rw [if_neg hy] at h ⊢; simpa using h
      · exact ⟨z, by simp [hz], h⟩
    · rintro ⟨z, hz, h⟩
      rcases List.mem_cons.1 hz with rfl | hz
      · left
        by_cases hy : z.kind = k
        · rw [if_pos hy] at h ⊢; exact h
        · rw [if_neg hy] at h ⊢; simpa using h
      · exact .inr ⟨z, hz, h⟩
/-- What is shown of a canonical expression, beside the expression that it is made of. -/
def CanOk (o : Ex → Ex → Int) (d m : Nat) (x : Ex) : Prop := Can o x ∧ formE x = true ∧ depthE x ≤ d ∧ nlv x ≤ m
theorem depth_kids (x : Ex) : depthL x.kids + 1 = depthE x := by
  obtain ⟨k, v, n, ks⟩ := x
  rw [depthE]; rfl
theorem form_kids {x : Ex} (h : formE x = true) : formL x.kids = true := by
  obtain ⟨k, v, n, ks⟩ := x
  unfold formE at h
  simp only [Bool.and_eq_true] at h
  exact h.2
theorem can_kids {o : Ex → Ex → Int} {x : Ex} (h : Can o x) : CanL o x.kids ∧ (x.kind = 3 ∨ x.kind = 4 → RisO o x.kids ∧ 2 ≤ x.kids.length ∧ ∀ y ∈ x.kids, y.kind ≠ x.kind) := by
  obtain ⟨k, v, n, ks⟩ := x
  unfold Can at h
  exact h
mutual
theorem can_ok {o : Ex → Ex → Int} (H : OrdL o) : ∀ e : Ex, formE e = true → CanOk o (depthE e) (nlv e) (canE o e)
  | .mk k v n ks, h => by
    unfold formE at h
    simp only [Bool.and_eq_true] at h
    obtain ⟨hp, hks⟩ := h
    obtain ⟨c1, c2, c3, c4⟩ := cans_ok H ks hks
    have hlen := canL_len o ks
    unfold canE
    obtain ⟨l, hl⟩ : ∃ l, l = canL o ks := ⟨_, rfl⟩
    rw [← hl] at c1 c2 c3 c4 hlen ⊢
    rw [show depthE (.mk k v n ks) = depthL ks + 1 from by rw [depthE]]
    by_cases hk : k = 3 ∨ k = 4
    · have hv : v = [] ∧ n = [] ∧ 2 ≤ ks.length := by
        unfold partB at hp
        rw [if_neg (by omega), if_neg (by omega), if_pos hk] at hp
        simp only [Bool.and_eq_true, decide_eq_true_eq] at hp
        exact ⟨hp.1.2, hp.2, hp.1.1⟩
      obtain ⟨rfl, rfl, h2⟩ := hv
      have hL : leafK k = false := by rcases hk with rfl | rfl <;> rfl
      have hn : nlv (.mk k [] [] ks) = (leavesL ks).length := by unfold nlv leavesE; rw [if_neg (by rw [hL]; simp)]
      rw [hn]
      unfold finE
      rw [if_pos hk]
      obtain ⟨s, hs⟩ : ∃ s, s = sortedO o (flatK k l) := ⟨_, rfl⟩
      have hmem : ∀ x ∈ s, (Can o x ∧ formE x = true ∧ x.kind ≠ k) ∧ depthE x ≤ depthL ks := by
        intro x hx
        rw [hs, sorted_memO H] at hx
        obtain ⟨y, hy, hxy⟩ := flat_mem.1 hx
        have cy := canL_mem c1 y hy
        have fy := formL_mem c2 y hy
        have dy := depthL_mem c3 y hy
        by_cases hyk : y.kind = k
        · rw [if_pos hyk] at hxy
          obtain ⟨k1, k2⟩ := can_kids cy
          obtain ⟨_, _, k5⟩ := k2 (hyk ▸ hk)
          refine ⟨⟨canL_mem k1 x hxy, formL_mem (form_kids fy) x hxy, hyk ▸ k5 x hxy⟩, ?_⟩
          have := depth_kids y
          have := depthL_mem (d := depthL y.kids) (Nat.le_refl _) x hxy
          omega
        · rw [if_neg hyk] at hxy
          subst hxy
          exact ⟨⟨cy, fy, hyk⟩, dy⟩
      have hris : RisO o s := hs ▸ sorted_risO H _
      have hsum : (s.map nlv).sum ≤ (leavesL ks).length := by
        have a1 := sorted_sum (o := o) (flatK k l)
        rw [flat_sum hk] at a1
        have a2 := nlv_sum l
        rw [hs]; omega
      rw [← hs]
      match hsm : s with
      | [] =>
        exfalso
        match l, hlen with
        | y :: r, _ =>
          have hy : ∃ x, x ∈ flatK k (y :: r) := by
            by_cases hyk : y.kind = k
            · obtain ⟨_, k2⟩ := can_kids (canL_mem c1 y (by simp))
              obtain ⟨_, k4, _⟩ := k2 (hyk ▸ hk)
              match hkk : y.kids, k4 with
              | z :: _, _ => exact ⟨z, flat_mem.2 ⟨y, by simp, by rw [if_pos hyk, hkk]; simp⟩⟩
            · exact ⟨y, flat_mem.2 ⟨y, by simp, by rw [if_neg hyk]⟩⟩
          obtain ⟨x, hx⟩ := hy
          have := (sorted_memO H _ x).2 hx
          rw [← hs] at this
          simp at this
        | [], h0 => simp at h0; omega
      | [y] =>
        obtain ⟨⟨m1, m2, m3⟩, m4⟩ := hmem y (by simp)
        show CanOk o _ _ y
        simp only [List.map_cons, List.map_nil, List.sum_cons, List.sum_nil] at hsum
        exact ⟨m1, m2, by omega, by omega⟩
      | a :: b :: r =>
        show CanOk o _ _ (.mk k [] [] (a :: b :: r))
        refine ⟨?_, ?_, ?_, ?_⟩
        · unfold Can
          exact ⟨canL_all fun x hx => (hmem x hx).1.1, fun _ => ⟨hris, by simp, fun x hx => (hmem x hx).1.2.2⟩⟩
        · unfold formE
          rw [formL_ofall fun x hx => (hmem x hx).1.2.1, Bool.and_true]
          unfold partB
          rw [if_neg (by omega), if_neg (by omega), if_pos hk]
          simp
        · rw [depthE]
          have := depthL_all fun x hx => (hmem x hx).2
          omega
        · unfold nlv leavesE
          rw [if_neg (by rw [hL]; simp), nlv_sum]
          exact hsum
    · unfold finE
      rw [if_neg hk]
      refine ⟨?_, ?_, ?_, ?_⟩
      · unfold Can; exact ⟨c1, fun h => absurd h hk⟩
      · unfold formE; rw [hlen, hp, c2]; rfl
      · rw [depthE]; omega
      · unfold nlv leavesE
        split
        · simp
        · exact c4
theorem cans_ok {o : Ex → Ex → Int} (H : OrdL o) : ∀ l : List Ex, formL l = true → CanL o (canL o l) ∧ formL (canL o l) = true ∧ depthL (canL o l) ≤ depthL l ∧ (leavesL (canL o l)).length ≤ (leavesL l).length
  | [], _ => by unfold canL; exact ⟨by unfold CanL; trivial, by unfold formL; rfl, Nat.le_refl _, Nat.le_refl _⟩
  | e :: r, h => by
    unfold formL at h
    simp only [Bool.and_eq_true] at h
    obtain ⟨a1, a2, a3, a4⟩ := can_ok H e h.1
    obtain ⟨b1, b2, b3, b4⟩ := cans_ok H r h.2
    unfold nlv at a4
    rw [canL]
    refine ⟨by unfold CanL; exact ⟨a1, b1⟩, by unfold formL; rw [a2, b2]; rfl, ?_, ?_⟩
    · rw [depthL, depthL]; omega
    · rw [leavesL, leavesL, List.length_append, List.length_append]; omega
end
theorem canE_right {o : Ex → Ex → Int} (H : OrdL o) {e : Ex} (h : rightE e = true) : rightE (canE o e) = true ∧ depthE (canE o e) ≤ depthE e ∧ canE o (canE o e) = canE o e := by
  obtain ⟨h1, h2, h3⟩ := right_all h
  obtain ⟨a1, a2, a3, a4⟩ := can_ok H e h1
  unfold nlv at a4
  refine ⟨?_, a3, can_self H _ a1⟩
  unfold rightE
  rw [a2, decide_eq_true (show depthE (canE o e) ≤ 16 by omega), decide_eq_true (show (leavesE (canE o e)).length ≤ 32 by omega)]; rfl
end Go.Proofs.Ytdnmgemjhpkekaa
/-
  The reference's way of putting things in their places; no program is spoken of.
-/
namespace Go.Proofs.Ytdnmgemjhpkekaa
set_option linter.unusedVariables false
set_option linter.unusedSectionVars false
set_option linter.unusedSimpArgs false
section
variable {α : Type} {o : α → α → Int}
/-- One element against the whole list: it goes ahead of the first that is not less, and what is the same is left out. -/
def rputO (o : α → α → Int) (e : α) : Bool → List α → List α
  | p, [] => if p = true then [] else [e]
  | p, a :: r => (if ¬ 0 < o e a ∧ p = false then [e] else []) ++ ((if o e a = 0 then [] else [a]) ++ rputO o e (p || decide (¬ 0 < o e a)) r)
theorem rput_past (H : OrdL o) (e : α) : ∀ (l : List α), (∀ x ∈ l, o e x < 0) → rputO o e true l = l
  | [], _ => rfl
  | a :: r, h => by
    have ha := h a (by simp)
    rw [rputO, if_neg (by simp), if_neg (by omega)]
    show [] ++ ([a] ++ rputO o e true r) = _
    rw [rput_past H e r fun x hx => h x (by simp [hx])]; rfl
theorem rput_eq (H : OrdL o) (e : α) : ∀ (l : List α), RisO o l → rputO o e false l = put1O o e l
  | [], _ => rfl
  | a :: r, h => by
    obtain ⟨h1, h2⟩ := List.pairwise_cons.1 h
    have hf := H.flip a e
    rw [rputO, put1O]
    by_cases c1 : o a e < 0
    · rw [if_pos c1, if_neg (by omega), if_neg (by omega), show (false || decide (¬ 0 < o e a)) = false from by simp; omega, rput_eq H e r h2]; rfl
    · rw [if_neg c1, if_pos ⟨by omega, rfl⟩, show (false || decide (¬ 0 < o e a)) = true from by simp; omega]
      by_cases c2 : o a e = 0
      · obtain rfl := H.eq c2
        rw [if_pos c2, if_pos (H.self a), rput_past H a r h1]; rfl
      · rw [if_neg c2, if_neg (by omega), rput_past H e r fun x hx => H.up (by omega) (h1 x hx)]; rfl
theorem srtO_snoc (t : α) : ∀ (l out : List α), srtO o out (l ++ [t]) = put1O o t (srtO o out l)
  | [], out => rfl
  | a :: l, out => by rw [List.cons_append]; show srtO o (put1O o a out) (l ++ [t]) = put1O o t (srtO o (put1O o a out) l); exact srtO_snoc t l _
theorem srtO_app : ∀ (l m out : List α), srtO o out (l ++ m) = srtO o (srtO o out l) m
  | [], m, out => rfl
  | a :: l, m, out => by rw [List.cons_append]; exact srtO_app l m (put1O o a out)
end
theorem flatK_snoc (k : Int) : ∀ (l : List Ex) (x : Ex), flatK k (l ++ [x]) = flatK k l ++ (if x.kind = k then x.kids else [x])
  | [], x => by simp [flatK]
  | a :: l, x => by rw [List.cons_append, flatK, flatK_snoc k l x, flatK, List.append_assoc]
/-- Kids in their places, one by one: as the sum of all. -/
theorem kids_step {o : Ex → Ex → Int} (k : Int) (l : List Ex) (x : Ex) : sortedO o (flatK k (l ++ [x])) = if x.kind = k then srtO o (sortedO o (flatK k l)) x.kids else put1O o x (sortedO o (flatK k l)) := by
  unfold sortedO
  rw [flatK_snoc, srtO_app]
  by_cases h : x.kind = k
  · rw [if_pos h, if_pos h]
  · rw [if_neg h, if_neg h]; rfl
end Go.Proofs.Ytdnmgemjhpkekaa
/-
  Expressions as the elements of a row: what is read of each, and what the row holds.
-/
namespace Go.Proofs.Ytdnmgemjhpkekaa
open Go.ChangeShapes Go.WideShapes Go.ChangeAt Go.RowKit Go.Lib Go.Sort
set_option linter.unusedVariables false
set_option linter.unusedSectionVars false
set_option linter.unusedSimpArgs false

section
variable {α : Type} [Inhabited α] {enc : α → List Value} {k : Nat}
theorem flatG_len (hk : ∀ x, (enc x).length = k) : ∀ (l : List α), (l.flatMap enc).length = l.length * k
  | [] => by simp
  | x :: l => by rw [List.flatMap_cons, List.length_append, flatG_len hk l, hk, List.length_cons, Nat.succ_mul]; omega
theorem flat_getG (hk : ∀ x, (enc x).length = k) (hpos : 0 < k) : ∀ (l : List α) (t : Nat), (l.flatMap enc)[t]? = (l[t / k]?).bind fun x => (enc x)[t % k]?
  | [], t => by simp
  | x :: l, t => by
    rw [List.flatMap_cons]
    by_cases h : t < k
    · rw [List.getElem?_append_left (by rw [hk]; exact h), Nat.div_eq_of_lt h, Nat.mod_eq_of_lt h]; rfl
    · have h' : k ≤ t := Nat.le_of_not_lt h
      rw [List.getElem?_append_right (by rw [hk]; exact h'), hk, flat_getG hk hpos l (t - k), Nat.div_eq_sub_div hpos h', Nat.mod_eq_sub_mod h']; rfl
theorem flatK_listG (hk : ∀ x, (enc x).length = k) (hpos : 0 < k) (l : List α) : Go.Sort.flatK enc k l.toArray = (l.flatMap enc).toArray := by
  apply Array.ext_getElem?
  intro t
  rw [show ((l.flatMap enc).toArray)[t]? = (l.flatMap enc)[t]? from List.getElem?_toArray, flat_getG hk hpos]
  by_cases h : t < l.length * k
  · have h6 : t / k < l.length := Nat.div_lt_of_lt_mul (by rw [Nat.mul_comm]; exact h)
    have hm : t % k < (enc l[t / k]).length := by rw [hk]; exact Nat.mod_lt _ hpos
    rw [List.getElem?_eq_getElem h6, Option.bind_some, List.getElem?_eq_getElem hm, Go.Sort.flatK, Array.getElem?_map]
    rw [Array.getElem?_eq_getElem (by simpa using h), Option.map_some, Array.getElem_range]
    rw [show (l.toArray[t / k]! : α) = l[t / k] by simp [h6], List.getElem!_eq_getElem?_getD, List.getElem?_eq_getElem hm]; rfl
  · have h6 : l.length ≤ t / k := (Nat.le_div_iff_mul_le hpos).2 (by omega)
    rw [Array.getElem?_eq_none (by simpa using h), List.getElem?_eq_none h6]; rfl
theorem holds_of_rowG (hk : ∀ x, (enc x).length = k) (hpos : 0 < k) {w : World} {g : Nat} {cur : Array Value} {e : TypeId} {l : List α} (hb : w.heap[g]? = some (.cells cur e (0, 0))) (ht : cur.toList.take (l.length * k) = l.flatMap enc) : HoldsK enc k w g 0 l.toArray := by
  intro j hj
  have hj' : j < l.length * k := by simpa using hj
  refine ⟨?_, by simp [World.frozen?, hb]⟩
  have h1 : (cur.toList.take (l.length * k))[j]? = (l.flatMap enc)[j]? := by rw [ht]
  rw [List.getElem?_take_of_lt hj'] at h1
  simp only [World.cell?, hb, Nat.zero_add]
  simp only [Option.isSome_none, Bool.false_eq_true, if_false]
  rw [← Array.getElem?_toList, h1, flatK_listG hk hpos]
  have hlt : j < (l.flatMap enc).length := by rw [flatG_len hk]; exact hj'
  rw [List.getElem?_eq_getElem hlt]
  simp
  rw [List.getElem?_eq_getElem hlt]; rfl
theorem row_of_holdsG (hk : ∀ x, (enc x).length = k) (hpos : 0 < k) {w : World} {g : Nat} {l : List α} {d : Array α} (h : HoldsK enc k w g 0 d) (hl : l.length ≤ d.size) (he : ∀ i, i < l.length → l[i]? = some d[i]!) : w.rangeAt g 0 (l.flatMap enc) := fun j v hv => by
  have hj : j < l.length * k := by rw [← flatG_len hk]; exact (List.getElem?_eq_some_iff.1 hv).1
  have h6 : j / k < l.length := Nat.div_lt_of_lt_mul (by rw [Nat.mul_comm]; exact hj)
  have hm : j % k < k := Nat.mod_lt _ hpos
  rw [flat_getG hk hpos, he _ h6, Option.bind_some] at hv
  have h2 := (HoldsK.cell h (show j / k < d.size by omega) hm).1
  have := Nat.div_add_mod j k
  rw [Nat.mul_comm] at this
  rw [show 0 + j = 0 + j / k * k + j % k by omega, h2, List.getElem!_eq_getElem?_getD, hv]; rfl
theorem grownBy_sortG {w : World} {g n : Nat} {os : Array Obj} (d : Array α) : w.grownBy (sortWorldK enc k w g 0 n d os) (some g) := by
  refine ⟨rfl, rfl, rfl, by simp [sortWorldK, putRowK, putRow, mapBlock, Sort.ahead], fun k hk hne => ?_⟩
  unfold sortWorldK
  rw [heap_grow_old _ _ (by simpa [putRowK, putRow, mapBlock, Sort.ahead] using hk)]
  have : g ≠ k := fun e => hne (by rw [e])
  simp [putRowK, putRow, mapBlock, Sort.ahead, Array.getElem?_modify, this]
theorem swoG {β : Type} {o : β → β → Int} (H : OrdL o) (key : α → β) : SWO (ltOf fun x y => o (key x) (key y)) where
  irrefl x := by simp [ltOf, H.self]
  trans x y z h1 h2 := by
    simp only [ltOf, decide_eq_true_eq] at *
    exact H.up h1 h2
  ntrans x y z h1 h2 := by
    simp only [ltOf, decide_eq_false_iff_not] at *
    have f1 := H.flip (key x) (key y); have f2 := H.flip (key y) (key z); have f3 := H.flip (key x) (key z)
    have := H.le (a := key z) (b := key y) (c := key x) (by omega) (by omega)
    omega
end
theorem ordX : OrdL cmpE := ⟨fun _ _ h => cmpE_eq h, cmpE_self, cmpE_flip, fun _ _ _ h1 h2 => cmpE_up h1 h2⟩
instance : DecidableEq Ex := fun a b => if h : cmpE a b = 0 then .isTrue (cmpE_eq h) else .isFalse fun e => h (by rw [e]; exact cmpE_self b)
/-- An expression with the place of its kids. -/
abbrev Xr := Ex × Option Addr × Nat
def xcs (x : Xr) : List Value := [.int .i64 x.1.kind, .string (bstr x.1.via), .string (bstr x.1.nm), .slice x.2.1 x.1.kids.length x.2.2]
theorem xcs_exv (x : Xr) : Value.agg (xcs x).toArray = exv x.1 x.2.1 x.2.2 := rfl
/-- .. that is read. -/
structure Xs (P : Nat → Prop) (w : World) where
  x : Xr
  ok : RdE P w x.1 (exv x.1 x.2.1 x.2.2) ∧ sizeE x.1 ≤ 900000
def xenc {P : Nat → Prop} {w : World} (x : Xs P w) : List Value := xcs x.1
def xkey {P : Nat → Prop} {w : World} (x : Xs P w) : Ex := x.1.1
def x0 (P : Nat → Prop) (w : World) : Xs P w := ⟨(.mk 0 [] [] [], none, 0), by unfold RdE exv; exact ⟨none, 0, rfl, Nat.le_refl _, fun h => absurd h (by decide)⟩, by unfold sizeE sizeL; decide⟩
instance (P : Nat → Prop) (w : World) : Inhabited (Xs P w) := ⟨x0 P w⟩
theorem xenc_len {P : Nat → Prop} {w : World} (x : Xs P w) : (xenc x).length = 4 := rfl
theorem xenc_one {P : Nat → Prop} {w : World} (x : Xs P w) : ∀ v ∈ xenc x, v.oneCell' = true := fun v hv => by
  simp only [xenc, xcs, List.mem_cons, List.not_mem_nil, or_false] at hv
  rcases hv with rfl | rfl | rfl | rfl <;> rfl
theorem xs_of_cells {P : Nat → Prop} {w : World} : ∀ {ks : List Ex} {cs : List Value}, CellsL P w ks cs → sizeL ks ≤ 900000 → ∃ d : List (Xs P w), d.map xkey = ks ∧ d.flatMap xenc = cs
  | [], [], _, _ => ⟨[], rfl, rfl⟩
  | e :: r, v0 :: v1 :: v2 :: v3 :: cs, h, hs => by
    unfold sizeL at hs
    obtain ⟨q, c, e1, _⟩ := h.1.form
    have h1 := h.1
    rw [e1] at h1
    obtain ⟨d, h2, h3⟩ := xs_of_cells h.2 (by omega)
    refine ⟨⟨(e, q, c), h1, by show sizeE e ≤ _; omega⟩ :: d, by rw [List.map_cons, h2]; rfl, ?_⟩
    rw [List.flatMap_cons, h3]
    unfold exv at e1
    simp only [Value.agg.injEq, Array.mk.injEq, List.cons.injEq, and_true] at e1
    obtain ⟨rfl, rfl, rfl, rfl⟩ := e1
    rfl
  | [], _ :: _, h, _ => h.elim
  | _ :: _, [], h, _ => h.elim
  | _ :: _, [_], h, _ => h.elim
  | _ :: _, [_, _], h, _ => h.elim
  | _ :: _, [_, _, _], h, _ => h.elim
theorem cells_of_xs {P Q : Nat → Prop} {w w' : World} (hr : ∀ (e : Ex) (v : Value), RdE P w e v → RdE Q w' e v) : ∀ (d : List (Xs P w)), CellsL Q w' (d.map xkey) (d.flatMap xenc)
  | [] => trivial
  | x :: r => ⟨hr _ _ x.2.1, cells_of_xs hr r⟩
theorem grown_rd {P : Nat → Prop} {w w' : World} {g : Nat} (hg : w.grownBy w' (some g)) (hP : ∀ b, P b → b < w.heap.size ∧ b ≠ g) {e : Ex} {v : Value} (h : RdE P w e v) : RdE P w' e v :=
  h.keep fun b hb n => World.cell?_of_block (hg.block b (hP b hb).1 fun e => (hP b hb).2 (Option.some.inj e))
theorem cmpX {P : Nat → Prop} {w : World} {g size : Nat} (hP : ∀ b, P b → b < w.heap.size ∧ b ≠ g) : CmpLays Try.prog 32 #[] (xenc (P := P) (w := w)) 4 (fun x y => cmpE (xkey x) (xkey y)) g 0 size w := fun m os dk _ x y => by
  have hg : w.grownBy (sortWorldK xenc 4 w g 0 m dk os) (some g) := grownBy_sortG dk
  refine (ecompare_gw 900000 (Nat.le_refl _) x.1.1 y.1.1 _ _ P P _ x.2.2 y.2.2 (grown_rd hg hP x.2.1) (grown_rd hg hP y.2.1) (fun b hb => Nat.lt_of_lt_of_le (hP b hb).1 hg.size) (fun b hb => Nat.lt_of_lt_of_le (hP b hb).1 hg.size)).mono ?_
  rintro e w' ⟨rfl, hb, hd⟩
  exact ⟨rfl, exact_of hb hd⟩
end Go.Proofs.Ytdnmgemjhpkekaa
/-
  slices.CompactFunc with the closure of canon.ordered (expressions).
-/
namespace Go.Proofs.Ytdnmgemjhpkekaa
open Go.ChangeShapes Go.WideShapes Go.ChangeAt Go.RowKit Go.Lib Go.Sort
set_option linter.unusedVariables false
set_option linter.unusedSectionVars false
set_option linter.unusedSimpArgs false

theorem zeroCellsG {α : Type} [Inhabited α] {enc : α → List Value} {k : Nat} (hk : ∀ x, (enc x).length = k) (hpos : 0 < k) (z : α) (n : Nat) : (Builtin.zeroCells (enc z).toArray n).toList = (List.replicate n z).flatMap enc := by
  apply List.ext_getElem?
  intro t
  rw [flat_getG hk hpos, Array.getElem?_toList]
  unfold Builtin.zeroCells
  rw [Array.getElem?_map]
  have hs : (enc z).toArray.size = k := by simp [hk]
  rw [hs]
  by_cases h : t < n * k
  · have h6 : t / k < n := Nat.div_lt_of_lt_mul (by rw [Nat.mul_comm]; exact h)
    have hm : t % k < (enc z).length := by rw [hk]; exact Nat.mod_lt _ hpos
    rw [Array.getElem?_eq_getElem (by simpa using h), List.getElem?_replicate, if_pos h6, Option.bind_some, List.getElem?_eq_getElem hm, Option.map_some, Array.getElem_range]
    simp [hm]
  · have h6 : ¬ t / k < n := fun e => h (by have := (Nat.div_lt_iff_lt_mul hpos).1 e; omega)
    rw [Array.getElem?_eq_none (by simpa using h), List.getElem?_replicate, if_neg h6]; rfl
/-- The row in the block blk holds dk; what else there was is as it was. -/
def CSt {α : Type} [Inhabited α] (enc : α → List Value) (k : Nat) (w : World) (blk : Nat) (dk : Array α) (wr : World) : Prop := w.grownBy wr (some blk) ∧ HoldsK enc k wr blk 0 dk ∧ blk < w.heap.size
section
variable {α : Type} [Inhabited α] {enc : α → List Value} {k : Nat} {w wr w' : World} {blk : Nat} {dk : Array α}
theorem CSt.below (h : CSt enc k w blk dk wr) (hb : Below wr.heap.size wr w') : CSt enc k w blk dk w' := ⟨grown_below h.1 hb, holdsK_below h.2.1 (Nat.lt_of_lt_of_le h.2.2 h.1.size) hb, h.2.2⟩
theorem CSt.drew (h : CSt enc k w blk dk wr) : CSt enc k w blk dk wr.drew := h.below (Below.refl _ _).drew
theorem CSt.put (hk : ∀ x, (enc x).length = k) (hpos : 0 < k) (h : CSt enc k w blk dk wr) {i : Nat} (hi : i < dk.size) (x : α) : CSt enc k w blk (dk.setIfInBounds i x) (wr.setCells blk (i * k) (enc x)) := by
  have h2 := putG hk hpos h.2.1 hi x
  rw [Nat.zero_add] at h2
  exact ⟨grown_tr h.1 (grown_cells blk _ _ _), h2, h.2.2⟩
theorem CSt.range (hk : ∀ x, (enc x).length = k) (h : CSt enc k w blk dk wr) {i : Nat} (hi : i < dk.size) : wr.rangeAt blk (i * k) (enc dk[i]!) := by
  have h2 := rangeG hk h.2.1 hi
  rwa [Nat.zero_add] at h2
theorem CSt.there (h : CSt enc k w blk dk wr) {i : Nat} (hi : i < dk.size) : wr.there blk (i * k) k := by
  have h2 := thereG h.2.1 hi
  rwa [Nat.zero_add] at h2
end
def Xv {P : Nat → Prop} {w0 : World} (u : Xs P w0) : Value := .agg (xenc u).toArray
section
variable {P : Nat → Prop} {w0 : World} {ops : Array Oper} {rest : List Oper} {o : Oper} {a : Act} {Q : Exit → Act → World → Prop} {w : World} {b off : Nat} {x y : Operand} {u v : Xs P w0}
theorem loadX (hr : w.rangeAt b off (xenc u)) (hs : o.guard = none ∧ o.op = .load 31 x ∧ a.eval x = .pointer (some ⟨b, off, none⟩))
    (hk : wpList Try.prog ops Q rest (a.put o.dst (Xv u)) w) : wpList Try.prog ops Q (o :: rest) a w :=
  wpList_load_mid hs.1 _ x hs.2.1 b off hs.2.2 _ _ hr Try.underlying31 rfl (by kernel_rfl) hk
theorem stillX {Q' : Act → Prop} (hr : w.rangeAt b off (xenc u)) (hs : o.guard = none ∧ o.op = .load 31 x ∧ a.eval x = .pointer (some ⟨b, off, none⟩))
    (hk : wpStill Try.prog ops w Q' rest (a.put o.dst (Xv u))) : wpStill Try.prog ops w Q' (o :: rest) a :=
  still_load hs.1 _ x hs.2.1 b off hs.2.2 _ _ hr Try.underlying31 rfl (by kernel_rfl) hk
theorem storeX (ht : w.there b off 4) (hs : o.guard = none ∧ o.op = .store 31 x y ∧ a.eval x = .pointer (some ⟨b, off, none⟩) ∧ a.eval y = Xv u)
    (hk : wpList Try.prog ops Q rest (a.put o.dst undef) (w.setCells b off (xenc u))) : wpList Try.prog ops Q (o :: rest) a w :=
  wpList_store_mid hs.1 _ x y hs.2.1 b off (xenc u).toArray hs.2.2.1 hs.2.2.2 ht (by kernel_rfl) (all_oneCell_toArray (xenc_one u)) hk
/-- clear. -/
theorem run_clearX (w : World) (ty : TypeId) (b o n c : Nat) (hn : 0 < n) (hT : ∀ i, i < n → w.there b (o + i * 4) 4) :
    (Builtin.clear_ #[29] ty #[.slice (some ⟨b, o, none⟩) n c]).run Try.prog w = .ok (.tuple #[]) (w.setCells b o ((List.replicate n (x0 P w0)).flatMap xenc)) := by
  have hv : ∀ w, (zeroValue 31).run Try.prog w = .ok (.agg #[.int .i64 0, .string ByteArray.empty, .string ByteArray.empty, .slice none 0 0]) w := fun w => by kernel_rfl
  have hlen : ((List.replicate n (x0 P w0)).flatMap xenc).length = n * 4 := by rw [flatG_len xenc_len, List.length_replicate]
  have ht : ∀ j, j < n * 4 → (w.cell? ⟨b, o + j, none⟩).isSome = true ∧ w.frozen? ⟨b, o + j, none⟩ = false := fun j hj => by
    have := hT (j / 4) (by omega) (j % 4) (by omega)
    rwa [show o + j / 4 * 4 + j % 4 = o + j by omega] at this
  have hst := run_storeCells_cells (P := Try.prog) b o ((List.replicate n (x0 P w0)).flatMap xenc) 0 w (fun j hj => (ht j (by rwa [hlen] at hj)).1) (fun j hj => (ht j (by rwa [hlen] at hj)).2) (by
    intro v hv'
    obtain ⟨x, _, hx⟩ := List.mem_flatMap.1 hv'
    exact xenc_one x v hx)
  simp only [Nat.add_zero] at hst
  have hz : (Builtin.zeroCells #[.int .i64 0, .string ByteArray.empty, .string ByteArray.empty, .slice none 0 0] n).toList = (List.replicate n (x0 P w0)).flatMap xenc := zeroCellsG xenc_len (by decide) (x0 P w0) n
  obtain ⟨m, rfl⟩ : ∃ m, n = m + 1 := ⟨n - 1, by omega⟩
  simp only [Builtin.clear_]
  simp only [List.size_toArray, List.length_cons, List.length_nil, getElem?_pos, List.getElem_toArray, List.getElem_cons_zero, Nat.zero_add, Nat.lt_add_one, Sem.run_bind, run_underlying Try.underlying29, Result.andThen_ok, hv, Value.cells, hz, hst, Sem.run_pure]
end
set_option maxHeartbeats 4000000 in
set_option maxRecDepth 1000000 in
theorem compactX_any {P : Nat → Prop} {w0 : World} {w : World} {blk cap : Nat} {pv : Value} (d : Array (Xs P w0)) (hs : CSt xenc 4 w blk d w) (hsz : d.size ≤ 900000) (hcap : d.size ≤ cap)
    (heq : ∀ (x y : Xs P w0) (W : World), w.grownBy W (some blk) → Calls Try.prog 48 #[Xv x, Xv y, pv] W fun e w' => e = .returned (.bool (decide (xkey x = xkey y))) ∧ Below W.heap.size W w') :
    Calls Try.prog 47 #[.slice (some ⟨blk, 0, none⟩) d.size cap, .func (.func 48) #[] #[pv]] w fun e w' => e = .returned (.slice (some ⟨blk, 0, none⟩) (kpS xkey d d.size).length cap) ∧ w.grownBy w' (some blk) ∧ ∃ d' : Array (Xs P w0), HoldsK xenc 4 w' blk 0 d' ∧ d'.size = d.size ∧ ∀ j, j < (kpS xkey d d.size).length → (kpS xkey d d.size)[j]? = some d'[j]! := by
  have HEQ := Lib.hid heq
  have HS := Lib.hid hs
  have HSZ := Lib.hid hsz
  have HCP := Lib.hid hcap
  clear heq hs
  by_cases h2 : d.size < 2
  · have HA := Lib.hid (kpS_all (key := xkey) (d := d) (m := d.size) (fun j h0 hj => by omega))
    go_enter Try.func47, Try.ntmps47
    go_wp2_with fail
    go_ret
    exact ⟨by rw [HA.out.1]; rfl, HS.out.1, d, HS.out.2.1, rfl, fun j hj => HA.out.2 j (by rw [HA.out.1] at hj; exact hj)⟩
  · go_enter Try.func47, Try.ntmps47
    go_wp2_with fail
    go_loopg [5] d.size (fun g s5 wr => ∃ k : Nat, 1 ≤ k ∧ k ≤ d.size ∧ d.size - k ≤ g ∧ s5 = .int .i64 k ∧ CSt xenc 4 w blk d wr ∧ ∀ j, 0 < j → j < k → xkey d[j]! ≠ xkey d[j - 1]!)
    case atStart => exact ⟨1, Nat.le_refl _, by omega, by omega, rfl, HS.out, fun j h0 hj => by omega⟩
    case round =>
      obtain ⟨k, hk1, hk, hg, rfl, hc, hall⟩ := hrel
      have HC := Lib.hid hc
      have A := Lib.hid hall
      clear hc hall
      by_cases hlt : k < d.size
      · have HW : Hid (IntKind.i64.wrap ((k : Int) - 1) = ((k - 1 : Nat) : Int)) := by show _ = _; rw [IntKind.wrap_i64]; omega
        have hk1' : k - 1 < d.size := by omega
        have c1 := Lib.hid (HC.out.drew.range xenc_len hlt)
        have c0 := Lib.hid (HC.out.drew.range xenc_len (i := k - 1) (by omega))
        have HC2 := Lib.hid HC.out.drew
        generalize hx : d[k]! = x at c1
        generalize hy : d[k - 1]! = y at c0
        have B := Lib.hid (And.intro hx hy)
        clear hx hy HC
        go_wp2_with fail
        refine region_tail 10 (by kernel_rfl) (by kernel_rfl) ?_
        simp only [List.take_succ_cons, List.take_zero, List.drop_succ_cons, List.drop_zero]
        repeat first
          | still_step
          | (rw [HW.out]; still_step)
          | ((with_reducible refine stillX (x := .tmp 21) (o := ⟨some 22, _, _, _, _, _⟩) c1.out ?_ ?_); exact ⟨rfl, rfl, by go_simp⟩)
          | ((with_reducible refine stillX (x := .tmp 26) (o := ⟨some 27, _, _, _, _, _⟩) c0.out ?_ ?_); exact ⟨rfl, rfl, by go_simp⟩)
        refine wpStill_nil ?_
        clear c0 c1
        generalize wr.drew = w2 at HC2 ⊢
        have HQ := Lib.hid (HEQ.out x y w2 HC2.out.1)
        go_wp2_with fail
        refine HQ.out.mono ?_
        rintro e w3 ⟨rfl, b3⟩
        have HC3 := Lib.hid (HC2.out.below b3)
        clear b3 HQ HC2
        by_cases hdup : xkey x = xkey y
        · rw [decide_eq_true hdup]
          have KS : Hid (KI xkey d (k + 1) k d) := KI.start (by omega) A.out (by rw [B.out.1, B.out.2]; exact hdup)
          clear hdup
          go_wp2_with fail
          go_loopg [5, 7] d.size (fun g s5 s7 wr => ∃ (kk k2 : Nat) (dk : Array (Xs P w0)), s5 = .int .i64 kk ∧ s7 = .int .i64 k2 ∧ 1 ≤ k2 ∧ k + k2 ≤ d.size ∧ d.size - (k + k2) ≤ g ∧ CSt xenc 4 w blk dk wr ∧ KI xkey d (k + k2) kk dk)
          case atStart => exact ⟨k, 1, d, rfl, rfl, Nat.le_refl _, by omega, by omega, HC3.out, KS.out⟩
          case round =>
            obtain ⟨kk, k2, dk, rfl, rfl, h1, hle, hg2, hc, hI⟩ := hrel
            have hkk := hI.lt
            have hds := hI.size
            have HC := Lib.hid hc
            have I2 := Lib.hid hI
            clear hc HC3 KS
            by_cases hlt2 : k + k2 < d.size
            · have cm := Lib.hid (HC.out.drew.range xenc_len (i := k + k2) (by omega))
              have cp := Lib.hid (HC.out.drew.range xenc_len (i := k + k2 - 1) (by omega))
              have hk2' : k2 - 1 < d.size - k := by omega
              have HW2 : Hid (IntKind.i64.wrap ((k2 : Int) - 1) = ((k2 - 1 : Nat) : Int)) := by show _ = _; rw [IntKind.wrap_i64]; omega
              rw [hI.high (k + k2) (by omega), show (k + k2) * 4 = k * 4 + k2 * 4 by omega] at cm
              rw [hI.high (k + k2 - 1) (by omega), show (k + k2 - 1) * 4 = k * 4 + (k2 - 1) * 4 by omega] at cp
              have HC2 := Lib.hid HC.out.drew
              have HIH := Lib.hid (hI.high (k + k2) (by omega))
              clear hI HC
              generalize hu : d[k + k2]! = u at cm HIH
              generalize hv : d[k + k2 - 1]! = v at cp
              have C := Lib.hid (And.intro hu hv)
              clear hu hv
              go_wp2_with fail
              refine region_tail 10 (by kernel_rfl) (by kernel_rfl) ?_
              simp only [List.take_succ_cons, List.take_zero, List.drop_succ_cons, List.drop_zero]
              repeat first
                | still_step
                | (rw [HW2.out]; still_step)
                | ((with_reducible refine stillX (x := .tmp 41) (o := ⟨some 42, _, _, _, _, _⟩) cm.out ?_ ?_); exact ⟨rfl, rfl, by go_simp⟩)
                | ((with_reducible refine stillX (x := .tmp 46) (o := ⟨some 47, _, _, _, _, _⟩) cp.out ?_ ?_); exact ⟨rfl, rfl, by go_simp⟩)
              refine wpStill_nil ?_
              clear cp cm
              generalize wr.drew = w4 at HC2 ⊢
              have HQ := Lib.hid (HEQ.out u v w4 HC2.out.1)
              go_wp2_with fail
              refine HQ.out.mono ?_
              rintro e w5 ⟨rfl, b5⟩
              have HC5 := Lib.hid (HC2.out.below b5)
              clear b5 HQ HC2
              by_cases huv : xkey u = xkey v
              · rw [decide_eq_true huv]
                have HK : Hid (KI xkey d (k + k2 + 1) kk dk) := I2.out.skip (by rw [C.out.1, C.out.2, huv])
                clear huv
                go_wp2_with fail
                go_roundg (d.size - (k + (k2 + 1)))
                case measure => omega
                case rel => exact ⟨kk, k2 + 1, dk, rfl, by go_num, by omega, by omega, Nat.le_refl _, HC5.out, HK.out⟩
              · rw [decide_eq_false huv]
                have HK : Hid (KI xkey d (k + k2 + 1) (kk + 1) (dk.setIfInBounds kk u)) := by
                  have := I2.out.keep hlt2 (by rw [C.out.1, C.out.2]; exact huv)
                  rwa [C.out.1] at this
                have cm := Lib.hid (HC5.out.range xenc_len (i := k + k2) (by omega))
                rw [HIH.out, show (k + k2) * 4 = k * 4 + k2 * 4 by omega] at cm
                have ck := Lib.hid (HC5.out.there (i := kk) (by omega))
                have HC6 := Lib.hid (HC5.out.put xenc_len (by decide) (i := kk) (by omega) u)
                have hkd : kk < d.size := by omega
                clear huv HC5
                go_wp2_with (first
                  | ((with_reducible refine loadX (x := .tmp 54) (o := ⟨some 55, _, _, _, _, _⟩) cm.out ?_ ?_); exact ⟨rfl, rfl, by go_simp⟩)
                  | ((with_reducible refine storeX (x := .tmp 56) (y := .tmp 55) (u := u) (o := ⟨none, .store _ _ _, _, _, _, _⟩) ck.out ?_ ?_); exact ⟨rfl, rfl, by go_simp, rfl⟩))
                go_roundg (d.size - (k + (k2 + 1)))
                case measure => omega
                case rel => exact ⟨kk + 1, k2 + 1, dk.setIfInBounds kk u, by go_num, by go_num, by omega, by omega, Nat.le_refl _, HC6.out, HK.out⟩
            · have hend : k + k2 = d.size := by omega
              have hcl : ∀ ty, (Builtin.clear_ #[29] ty #[.slice (some ⟨blk, kk * 4, none⟩) (d.size - kk) (cap - kk)]).run Try.prog wr = .ok (.tuple #[]) (wr.setCells blk (kk * 4) ((List.replicate (d.size - kk) (x0 P w0)).flatMap xenc)) :=
                fun ty => run_clearX wr ty blk (kk * 4) (d.size - kk) _ (by omega) (fun i hi => by
                  have := HC.out.there (i := kk + i) (by omega)
                  rwa [show (kk + i) * 4 = kk * 4 + i * 4 by omega] at this)
              obtain ⟨d', g1, g2, g3⟩ := putsG xenc_len (by decide) (List.replicate (d.size - kk) (x0 P w0)) dk kk wr HC.out.2.1 (by simp; omega)
              rw [Nat.zero_add] at g1
              have G1 := Lib.hid g1
              have G2 := Lib.hid (g2.trans hds)
              have G3 := Lib.hid g3
              have HGR : Hid (w.grownBy (wr.setCells blk (kk * 4) ((List.replicate (d.size - kk) (x0 P w0)).flatMap xenc)) (some blk)) := grown_tr HC.out.1 (grown_cells blk _ _ _)
              clear g1 g2 g3 hI HC
              go_wp2_with fail
              go_ret
              have hI := I2.out
              rw [hend] at hI
              exact ⟨by rw [hI.len]; rfl, HGR.out, d', G1.out, G2.out, fun j hj => by rw [hI.len] at hj; rw [G3.out j hj]; exact hI.low j hj⟩
        · rw [decide_eq_false hdup]
          have A2 : Hid (∀ j, 0 < j → j < k + 1 → xkey d[j]! ≠ xkey d[j - 1]!) := fun j h0 hj => by
            by_cases e : j = k
            · subst e
              rw [B.out.1, B.out.2]; exact hdup
            · exact A.out j h0 (by omega)
          clear hdup
          go_wp2_with fail
          go_roundg (d.size - (k + 1))
          case measure => omega
          case rel => exact ⟨k + 1, by omega, by omega, Nat.le_refl _, by go_num, HC3.out, A2.out⟩
      · have HA := Lib.hid (kpS_all (key := xkey) (d := d) (m := d.size) (fun j h0 hj => A.out j h0 (by omega)))
        go_wp2_with fail
        go_ret
        exact ⟨by rw [HA.out.1]; rfl, HC.out.1, d, HC.out.2.1, rfl, fun j hj => HA.out.2 j (by rw [HA.out.1] at hj; exact hj)⟩
end Go.Proofs.Ytdnmgemjhpkekaa
