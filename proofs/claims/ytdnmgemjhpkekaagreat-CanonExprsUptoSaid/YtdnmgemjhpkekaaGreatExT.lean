/-
  vestryref10.Compare.
-/
import Derived.Test.YtdnmgemjhpkekaaGreatExM
import Derived.Test.YtdnmgemjhpkekaaGreatOrd
import Derived.StillTailTactics
namespace Go.Proofs.YtdnmgemjhpkekaaGreat
open Go.ChangeShapes Go.WideShapes Go.ChangeAt Go.RowKit
set_option linter.unusedVariables false

theorem cmpE_lt {k k2 : Int} {v n v2 n2 : List UInt8} {ks ls : List Ex} (h : k < k2) : cmpE (.mk k v n ks) (.mk k2 v2 n2 ls) = -1 := by
  unfold cmpE
  simp [orL, Ex.kind, Lib.compareInt, h]
theorem cmpE_gt {k k2 : Int} {v n v2 n2 : List UInt8} {ks ls : List Ex} (h : k2 < k) : cmpE (.mk k v n ks) (.mk k2 v2 n2 ls) = 1 := by
  unfold cmpE
  have h2 : ¬ k < k2 := by omega
  simp [orL, Ex.kind, Lib.compareInt, h, h2]
theorem cmpE_via {k : Int} {v n v2 n2 : List UInt8} {ks ls : List Ex} (h : Lib.compareBytes v v2 ≠ 0) : cmpE (.mk k v n ks) (.mk k v2 n2 ls) = Lib.compareBytes v v2 := by
  unfold cmpE
  simp [orL, Ex.kind, Ex.via, Lib.compareInt, h]
theorem cmpE_nm {k : Int} {v n v2 n2 : List UInt8} {ks ls : List Ex} (h1 : Lib.compareBytes v v2 = 0) (h : Lib.compareBytes n n2 ≠ 0) : cmpE (.mk k v n ks) (.mk k v2 n2 ls) = Lib.compareBytes n n2 := by
  unfold cmpE
  simp [orL, Ex.kind, Ex.via, Ex.nm, Lib.compareInt, h, h1]
theorem cmpE_kids {k : Int} {v n v2 n2 : List UInt8} {ks ls : List Ex} (h1 : Lib.compareBytes v v2 = 0) (h : Lib.compareBytes n n2 = 0) : cmpE (.mk k v n ks) (.mk k v2 n2 ls) = cmpL ks ls := by
  rw [cmpE, show Lib.compareInt k (Ex.mk k v2 n2 ls).kind = 0 by simp [Ex.kind, Lib.compareInt]]
  simp only [orL, Ex.via, Ex.nm, Ex.kids, h1, h, if_true]
  by_cases h3 : cmpL ks ls = 0 <;> simp [h3]
theorem cmpL_end {ks ls : List Ex} {i : Nat} (h1 : i ≤ ks.length) (h2 : i ≤ ls.length) (h : ¬ (i < ks.length ∧ i < ls.length)) : cmpL (ks.drop i) (ls.drop i) = if ks.length < ls.length then -1 else if ls.length < ks.length then 1 else 0 := by
  by_cases h3 : i < ks.length
  · rw [List.drop_eq_getElem_cons h3, show ls.drop i = [] from List.drop_eq_nil_of_le (by omega), if_neg (by omega), if_pos (by omega)]
    unfold cmpL; rfl
  · rw [show ks.drop i = [] from List.drop_eq_nil_of_le (by omega)]
    by_cases h4 : i < ls.length
    · rw [List.drop_eq_getElem_cons h4, if_pos (by omega)]
      unfold cmpL; rfl
    · rw [show ls.drop i = [] from List.drop_eq_nil_of_le (by omega), if_neg (by omega), if_neg (by omega)]
      unfold cmpL; rfl

set_option maxRecDepth 100000 in
set_option maxHeartbeats 8000000 in
theorem rcompare_any : ∀ (n : Nat) (x y : Ex) (vx vy : Value) (P Q : Nat → Prop) (w : World), sizeE x ≤ n → sizeE x ≤ 900000 → sizeE y ≤ 900000 → okE 100000 x → okE 100000 y → RdE P w x vx → RdE Q w y vy → (∀ b, P b → b < w.heap.size) → (∀ b, Q b → b < w.heap.size) → Calls Tryz.prog 8 #[vx, vy] w fun r w' => r = .returned (.int .i64 (cmpE x y)) ∧ Below w.heap.size w w' := by
  intro n
  induction n with
  | zero => intro x y vx vy P Q w h; have := sizeE_pos x; omega
  | succ n ih =>
    intro x y vx vy P Q w hx hxm hy hox hoy h1 h2 hP hQ
    obtain ⟨q, c, rfl, _, hk⟩ := h1.form
    obtain ⟨q2, c2, rfl, _, hl⟩ := h2.form
    obtain ⟨k, xv, xn, ks⟩ := x
    obtain ⟨k2, yv, yn, ls⟩ := y
    unfold exv
    show Calls _ _ #[.agg #[.int .i64 k, .string (bstr xv), .string (bstr xn), .slice q ks.length c], .agg #[.int .i64 k2, .string (bstr yv), .string (bstr yn), .slice q2 ls.length c2]] _ _
    have hks : sizeL ks ≤ n := by unfold sizeE at hx; omega
    have hkm : sizeL ks ≤ 900000 := by unfold sizeE at hxm; omega
    have hls : sizeL ls ≤ 900000 := by unfold sizeE at hy; omega
    have hlen := sizeL_len ks
    have hlen2 := sizeL_len ls
    unfold okE at hox hoy
    have HOK := Lib.hid hox.2.2
    have HOL := Lib.hid hoy.2.2
    have HOV : Hid (∀ W, Calls Tryz.prog 20 #[.string (bstr xv), .string (bstr yv)] W fun e w' => e = .returned (.int .i64 (Lib.compareBytes xv yv)) ∧ Below W.heap.size W w') := fun W => order_any (bstr xv) (bstr yv) (by rw [bstr_size]; omega) (by rw [bstr_size]; omega) W
    have HON : Hid (∀ W, Calls Tryz.prog 20 #[.string (bstr xn), .string (bstr yn)] W fun e w' => e = .returned (.int .i64 (Lib.compareBytes xn yn)) ∧ Below W.heap.size W w') := fun W => order_any (bstr xn) (bstr yn) (by rw [bstr_size]; omega) (by rw [bstr_size]; omega) W
    have hb : Below w.heap.size w ((w.alloc (.cells #[.int .i64 k, .string (bstr xv), .string (bstr xn), .slice q ks.length c] 24)).alloc (.cells #[.int .i64 k2, .string (bstr yv), .string (bstr yn), .slice q2 ls.length c2] 24)) := ((Below.refl _ _).alloc (Nat.le_refl _) _).alloc (by simp) _
    have ha1 : Arr ((w.alloc (.cells #[.int .i64 k, .string (bstr xv), .string (bstr xn), .slice q ks.length c] 24)).alloc (.cells #[.int .i64 k2, .string (bstr yv), .string (bstr yn), .slice q2 ls.length c2] 24)) 24 w.heap.size [.int .i64 k, .string (bstr xv), .string (bstr xn), .slice q ks.length c] := (Arr.new' w _ _ _ rfl).alloc _
    have ha2 : Arr ((w.alloc (.cells #[.int .i64 k, .string (bstr xv), .string (bstr xn), .slice q ks.length c] 24)).alloc (.cells #[.int .i64 k2, .string (bstr yv), .string (bstr yn), .slice q2 ls.length c2] 24)) 24 (w.heap.size + 1) [.int .i64 k2, .string (bstr yv), .string (bstr yn), .slice q2 ls.length c2] := Arr.new2 w _ _ _ _ rfl
    have HB := Lib.hid hb
    have HA1 := Lib.hid ha1
    have HA2 := Lib.hid ha2
    have HIH := Lib.hid ih
    have HP := Lib.hid hP
    have HQ := Lib.hid hQ
    have HK : Hid (0 < ks.length → ∃ b o, q = some ⟨b, o, none⟩ ∧ P b ∧ RdL P w ks b o) := hk
    have HL : Hid (0 < ls.length → ∃ b o, q2 = some ⟨b, o, none⟩ ∧ Q b ∧ RdL Q w ls b o) := hl
    clear h1 h2 hk hl hx hy hxm hb ha1 ha2 ih hox hoy hP hQ
    by_cases hlt : k < k2
    · have HE : Hid (cmpE (.mk k xv xn ks) (.mk k2 yv yn ls) = -1) := cmpE_lt hlt
      go_enter Tryz.func8, Tryz.ntmps8
      go_wp2_with fail
      go_ret
      exact ⟨by rw [HE.out]; rfl, HB.out⟩
    by_cases hgt : k2 < k
    · have HE : Hid (cmpE (.mk k xv xn ks) (.mk k2 yv yn ls) = 1) := cmpE_gt hgt
      go_enter Tryz.func8, Tryz.ntmps8
      go_wp2_with fail
      go_ret
      exact ⟨by rw [HE.out]; rfl, HB.out⟩
    obtain rfl : k = k2 := by omega
    have HEV : Hid (Lib.compareBytes xv yv ≠ 0 → cmpE (.mk k xv xn ks) (.mk k yv yn ls) = Lib.compareBytes xv yv) := cmpE_via
    have HEN : Hid (Lib.compareBytes xv yv = 0 → Lib.compareBytes xn yn ≠ 0 → cmpE (.mk k xv xn ks) (.mk k yv yn ls) = Lib.compareBytes xn yn) := cmpE_nm
    have HEK : Hid (Lib.compareBytes xv yv = 0 → Lib.compareBytes xn yn = 0 → cmpE (.mk k xv xn ks) (.mk k yv yn ls) = cmpL ks ls) := cmpE_kids
    obtain ⟨A, hA⟩ : ∃ A, A = Lib.compareBytes xv yv := ⟨_, rfl⟩
    obtain ⟨B, hB⟩ : ∃ B, B = Lib.compareBytes xn yn := ⟨_, rfl⟩
    rw [← hA] at HOV HEV HEN HEK
    rw [← hB] at HON HEN HEK
    obtain ⟨CE, hCE⟩ : ∃ E, E = cmpE (.mk k xv xn ks) (.mk k yv yn ls) := ⟨_, rfl⟩
    rw [← hCE] at HEV HEN HEK ⊢
    clear hA hB hCE hlt hgt
    have hself : ¬ k < k := by omega
    go_enter Tryz.func8, Tryz.ntmps8
    go_wp2_with fail
    refine (HOV.out _).mono ?_
    rintro r w1 ⟨rfl, b1⟩
    have HA11 := Lib.hid (HA1.out.later b1)
    have HA21 := Lib.hid (HA2.out.later b1)
    have HB1 := Lib.hid (HB.out.trans (b1.mono HB.out.size))
    clear b1 HA1 HA2 HB
    have a1 := HA11.out.cell 1
    have a2 := HA11.out.cell 2
    have e1 := HA21.out.cell 1
    have e2 := HA21.out.cell 2
    simp only [List.getElem?_cons_zero, List.getElem?_cons_succ] at a1 a2 e1 e2
    by_cases hz : A = 0
    case neg =>
      have bz : (A != 0) = true := by rw [bne_iff_ne]; exact hz
      have HE2 := Lib.hid (HEV.out hz)
      clear hz
      go_wp2_with fail
      refine (HOV.out _).mono ?_
      rintro r w2 ⟨rfl, b2⟩
      have HB2 := Lib.hid (HB1.out.trans (b2.mono HB1.out.size))
      clear b2
      go_wp2_with fail
      go_ret
      exact ⟨by rw [HE2.out]; rfl, HB2.out⟩
    have bz : (A != 0) = false := by rw [hz]; rfl
    have HEN2 := Lib.hid (HEN.out hz)
    have HEK2 := Lib.hid (HEK.out hz)
    clear hz
    go_wp2_with fail
    refine (HON.out _).mono ?_
    rintro r w2 ⟨rfl, b2⟩
    have HA12 := Lib.hid (HA11.out.later b2)
    have HA22 := Lib.hid (HA21.out.later b2)
    have HB2 := Lib.hid (HB1.out.trans (b2.mono HB1.out.size))
    clear b2 a1 a2 e1 e2 HA11 HA21 HB1
    have a2 := HA12.out.cell 2
    have e2 := HA22.out.cell 2
    simp only [List.getElem?_cons_zero, List.getElem?_cons_succ] at a2 e2
    by_cases hz : B = 0
    case neg =>
      have bz2 : (B != 0) = true := by rw [bne_iff_ne]; exact hz
      have HE2 := Lib.hid (HEN2.out hz)
      clear hz
      go_wp2_with fail
      refine (HON.out _).mono ?_
      rintro r w3 ⟨rfl, b3⟩
      have HB3 := Lib.hid (HB2.out.trans (b3.mono HB2.out.size))
      clear b3
      go_wp2_with fail
      go_ret
      exact ⟨by rw [HE2.out]; rfl, HB3.out⟩
    have bz2 : (B != 0) = false := by rw [hz]; rfl
    have HE2 := Lib.hid (HEK2.out hz)
    clear hz a2 e2 HEV HEN HEK HEN2 HEK2 HOV HON
    go_wp2_with fail
    go_loopw [5] (fun iv wr => ∃ i : Nat, i ≤ ks.length ∧ i ≤ ls.length ∧ iv = .int .i64 i ∧ Hid (cmpL ks ls = cmpL (ks.drop i) (ls.drop i)) ∧ Hid (Below w.heap.size w wr ∧ Arr wr 24 w.heap.size [.int .i64 k, .string (bstr xv), .string (bstr xn), .slice q ks.length c] ∧ Arr wr 24 (w.heap.size + 1) [.int .i64 k, .string (bstr yv), .string (bstr yn), .slice q2 ls.length c2])) (fun iv _ => ks.length - (intOf iv).toNat)
    case atStart => exact ⟨0, Nat.zero_le _, Nat.zero_le _, rfl, rfl, HB2.out, HA12.out, HA22.out⟩
    case round =>
      obtain ⟨i, hi, hi2, rfl, HD, HI2⟩ := hrel
      have HI := Lib.hid HI2.out.1
      have HAI := Lib.hid HI2.out.2.1
      have HAJ := Lib.hid HI2.out.2.2
      clear HI2 HB2 HA12 HA22
      have hi0 : (0 : Int) ≤ i := by omega
      have a3 := HAI.out.cell 3
      have e3 := HAJ.out.cell 3
      simp only [List.getElem?_cons_zero, List.getElem?_cons_succ] at a3 e3
      by_cases hboth : i < ks.length ∧ i < ls.length
      · obtain ⟨hlt, hlt2⟩ := hboth
        have hi1 : (i : Int) < ks.length := by omega
        have hi3 : (i : Int) < ls.length := by omega
        have HST := Lib.hid (cmpL_step hlt hlt2)
        have hP := HP.out
        obtain ⟨ba, oa, rfl, hba, hl⟩ := HK.out (by omega)
        obtain ⟨x, hx⟩ : ∃ x, x = ks.getD i ex0 := ⟨_, rfl⟩
        obtain ⟨q2a, c2a, x0, x1, x2, x3, hr⟩ := hl.at hlt
        have hxs := sizeL_get ks i hlt
        have hxd := depthL_get ks i hlt
        rw [← hx] at x0 x1 x2 x3 hr hxs hxd
        have HX := Lib.hid hx
        obtain ⟨xk, xv2, xn2, xs⟩ := x
        have cc : ∀ n, wr.cell? ⟨ba, n, none⟩ = w.cell? ⟨ba, n, none⟩ := fun n => (HI.out).cell (p := ⟨ba, n, none⟩) (hP _ hba)
        have X0 : wr.cell? ⟨ba, oa + i * 4, none⟩ = some (.int .i64 xk) := (cc _).trans x0
        have X1 : wr.cell? ⟨ba, oa + i * 4 + 1, none⟩ = some (.string (bstr xv2)) := (cc _).trans x1
        have X2 : wr.cell? ⟨ba, oa + i * 4 + 2, none⟩ = some (.string (bstr xn2)) := (cc _).trans x2
        have X3 : wr.cell? ⟨ba, oa + i * 4 + 3, none⟩ = some (.slice q2a xs.length c2a) := (cc _).trans x3
        clear x0 x1 x2 x3 cc hx
        have hQ := HQ.out
        obtain ⟨bab, oab, rfl, hbab, hlb⟩ := HL.out (by omega)
        obtain ⟨x, hx⟩ : ∃ x, x = ls.getD i ex0 := ⟨_, rfl⟩
        obtain ⟨q2b, c2b, x0, x1, x2, x3, hrb⟩ := hlb.at hlt2
        have hxsb := sizeL_get ls i hlt2
        have hxdb := depthL_get ls i hlt2
        rw [← hx] at x0 x1 x2 x3 hrb hxsb hxdb
        have HXb := Lib.hid hx
        obtain ⟨xkb, xv2b, xn2b, xsb⟩ := x
        have cc : ∀ n, wr.cell? ⟨bab, n, none⟩ = w.cell? ⟨bab, n, none⟩ := fun n => (HI.out).cell (p := ⟨bab, n, none⟩) (hQ _ hbab)
        have X0b : wr.cell? ⟨bab, oab + i * 4, none⟩ = some (.int .i64 xkb) := (cc _).trans x0
        have X1b : wr.cell? ⟨bab, oab + i * 4 + 1, none⟩ = some (.string (bstr xv2b)) := (cc _).trans x1
        have X2b : wr.cell? ⟨bab, oab + i * 4 + 2, none⟩ = some (.string (bstr xn2b)) := (cc _).trans x2
        have X3b : wr.cell? ⟨bab, oab + i * 4 + 3, none⟩ = some (.slice q2b xsb.length c2b) := (cc _).trans x3
        clear x0 x1 x2 x3 cc hx
        have HR : Hid (RdE P wr (.mk xk xv2 xn2 xs) (.agg #[.int .i64 xk, .string (bstr xv2), .string (bstr xn2), .slice q2a xs.length c2a])) := hr.below HI.out hP
        have HR2 : Hid (RdE Q wr (.mk xkb xv2b xn2b xsb) (.agg #[.int .i64 xkb, .string (bstr xv2b), .string (bstr xn2b), .slice q2b xsb.length c2b])) := hrb.below HI.out hQ
        have HC : Hid (∀ W, Below wr.heap.size wr W → Calls Tryz.prog 8 #[.agg #[.int .i64 xk, .string (bstr xv2), .string (bstr xn2), .slice q2a xs.length c2a], .agg #[.int .i64 xkb, .string (bstr xv2b), .string (bstr xn2b), .slice q2b xsb.length c2b]] W fun r w' => r = .returned (.int .i64 (cmpE (.mk xk xv2 xn2 xs) (.mk xkb xv2b xn2b xsb))) ∧ Below W.heap.size W w') :=
          fun W hW => HIH.out (.mk xk xv2 xn2 xs) (.mk xkb xv2b xn2b xsb) _ _ P Q W (by omega) (by omega) (by omega) (HX.out ▸ okL_get HOK.out hlt) (HXb.out ▸ okL_get HOL.out hlt2) (HR.out.below hW (fun b hb => Nat.lt_of_lt_of_le (hP b hb) HI.out.size)) (HR2.out.below hW (fun b hb => Nat.lt_of_lt_of_le (hQ b hb) HI.out.size)) (fun b hb => Nat.lt_of_lt_of_le (hP b hb) (Nat.le_trans HI.out.size hW.size)) (fun b hb => Nat.lt_of_lt_of_le (hQ b hb) (Nat.le_trans HI.out.size hW.size))
        rw [← HX.out, ← HXb.out, orL2] at HST
        obtain ⟨E, hE⟩ : ∃ E, E = cmpE (.mk xk xv2 xn2 xs) (.mk xkb xv2b xn2b xsb) := ⟨_, rfl⟩
        rw [← hE] at HC HST
        clear hl hr hxs hxd hba hP hE hlb hrb hxsb hxdb hbab hQ
        go_upto_region 12 with (fail)
        refine wp_region_still_tail 10 (by kernel_rfl) (by kernel_rfl) ?_
        simp only [List.take_succ_cons, List.take_zero, List.drop_succ_cons, List.drop_zero]
        repeat still_step
        refine wpStill_nil ?_
        change wpList _ _ _ _ _ wr.drew
        have HBd : Hid (Below wr.heap.size wr wr.drew) := (Below.refl _ _).drew
        have HCd := Lib.hid (HC.out _ HBd.out)
        have HId := Lib.hid (HI.out.trans (HBd.out.mono HI.out.size))
        have HAd := Lib.hid (HAI.out.later HBd.out)
        have HAe := Lib.hid (HAJ.out.later HBd.out)
        clear a3 e3 X0 X1 X2 X3 X0b X1b X2b X3b HC HAI HAJ HR HR2 HI
        generalize wr.drew = wd at HBd HCd HId HAd HAe ⊢
        go_wp2_with fail
        refine HCd.out.mono ?_
        rintro r w5 ⟨rfl, b5⟩
        have HB5 := Lib.hid (HId.out.trans (b5.mono HId.out.size))
        have HA5 := Lib.hid (HAd.out.later b5)
        have HA6 := Lib.hid (HAe.out.later b5)
        clear b5
        by_cases hz : E = 0
        · have bz5 : (E != 0) = false := by rw [hz]; rfl
          have HST2 : Hid (cmpL ks ls = cmpL (ks.drop (i + 1)) (ls.drop (i + 1))) := by show _ = _; rw [HD.out, HST.out, if_pos hz]
          clear hz
          go_wp2_with fail
          go_roundw
          case rel => exact ⟨i + 1, by omega, by omega, by go_num, HST2.out, HB5.out, HA5.out, HA6.out⟩
          case measure => simp [intOf]; omega
        · have bz5 : (E != 0) = true := by rw [bne_iff_ne]; exact hz
          have HST2 : Hid (cmpL ks ls = E) := by show _ = _; rw [HD.out, HST.out, if_neg hz]
          clear hz
          go_wp2_with fail
          go_ret
          exact ⟨by rw [HE2.out, HST2.out]; rfl, HB5.out⟩
      · have HEN := Lib.hid (cmpL_end hi hi2 hboth)
        by_cases hlt : i < ks.length
        · have hi1 : (i : Int) < ks.length := by omega
          have hi3 : ¬ (i : Int) < ls.length := by omega
          have h4 : ¬ (ks.length : Int) < ls.length := by omega
          have h5 : (ls.length : Int) < ks.length := by omega
          have HRS : Hid (CE = 1) := by show _ = _; rw [HE2.out, HD.out, HEN.out, if_neg (by omega), if_pos (by omega)]
          clear hboth
          go_wp2_with fail
          go_ret
          exact ⟨by rw [HRS.out]; rfl, HI.out⟩
        · have hi1 : ¬ (i : Int) < ks.length := by omega
          by_cases hl2 : ks.length < ls.length
          · have h4 : (ks.length : Int) < ls.length := by omega
            have HRS : Hid (CE = -1) := by show _ = _; rw [HE2.out, HD.out, HEN.out, if_pos hl2]
            clear hboth
            go_wp2_with fail
            go_ret
            exact ⟨by rw [HRS.out]; rfl, HI.out⟩
          · have h4 : ¬ (ks.length : Int) < ls.length := by omega
            have h5 : ¬ (ls.length : Int) < ks.length := by omega
            have HRS : Hid (CE = 0) := by show _ = _; rw [HE2.out, HD.out, HEN.out, if_neg hl2, if_neg (by omega)]
            clear hboth
            go_wp2_with fail
            go_ret
            exact ⟨by rw [HRS.out]; rfl, HI.out⟩
end Go.Proofs.YtdnmgemjhpkekaaGreat
