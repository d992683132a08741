/-
  vestryref10.Compare.
-/
import Derived.Test.YteieimchleioaaaDoorMg6
import Derived.StillTailTactics
namespace Go.Proofs.YteieimchleioaaaDoor
open Go.ChangeShapes Go.WideShapes Go.ChangeAt Go.RowKit
set_option linter.unusedVariables false

theorem cmpE_lt {k k2 : Int} {v n v2 n2 : List UInt8} {ks ls : List Ex} (h : k < k2) : cmpE (.mk k v n ks) (.mk k2 v2 n2 ls) = -1 := by
  unfold cmpE
  simp [orL, Ex.kind, Lib.compareInt, h]
theorem cmpE_gt {k k2 : Int} {v n v2 n2 : List UInt8} {ks ls : List Ex} (h : k2 < k) : cmpE (.mk k v n ks) (.mk k2 v2 n2 ls) = 1 := by
  unfold cmpE
  have h2 : ¬ k < k2 := by omega
  simp [orL, Ex.kind, Lib.compareInt, h, h2]
theorem cmpE_via {k : Int} {v n v2 n2 : List UInt8} {ks ls : List Ex} (h : Lib.compareBytes v v2 ≠ 0) : cmpE (.mk k v n ks) (.mk k v2 n2 ls) = Lib.compareBytes v v2 := by
  unfold cmpE
  simp [orL, Ex.kind, Ex.via, Lib.compareInt, h]
theorem cmpE_nm {k : Int} {v n v2 n2 : List UInt8} {ks ls : List Ex} (h1 : Lib.compareBytes v v2 = 0) (h : Lib.compareBytes n n2 ≠ 0) : cmpE (.mk k v n ks) (.mk k v2 n2 ls) = Lib.compareBytes n n2 := by
  unfold cmpE
  simp [orL, Ex.kind, Ex.via, Ex.nm, Lib.compareInt, h, h1]
theorem cmpE_kids {k : Int} {v n v2 n2 : List UInt8} {ks ls : List Ex} (h1 : Lib.compareBytes v v2 = 0) (h : Lib.compareBytes n n2 = 0) : cmpE (.mk k v n ks) (.mk k v2 n2 ls) = cmpL ks ls := by
  rw [cmpE, show Lib.compareInt k (Ex.mk k v2 n2 ls).kind = 0 by simp [Ex.kind, Lib.compareInt]]
  simp only [orL, Ex.via, Ex.nm, Ex.kids, h1, h, if_true]
  by_cases h3 : cmpL ks ls = 0 <;> simp [h3]
theorem cmpL_end {ks ls : List Ex} {i : Nat} (h1 : i ≤ ks.length) (h2 : i ≤ ls.length) (h : ¬ (i < ks.length ∧ i < ls.length)) : cmpL (ks.drop i) (ls.drop i) = if ks.length < ls.length then -1 else if ls.length < ks.length then 1 else 0 := by
  by_cases h3 : i < ks.length
  · rw [List.drop_eq_getElem_cons h3, show ls.drop i = [] from List.drop_eq_nil_of_le (by omega), if_neg (by omega), if_pos (by omega)]
    unfold cmpL; rfl
  · rw [show ks.drop i = [] from List.drop_eq_nil_of_le (by omega)]
    by_cases h4 : i < ls.length
    · rw [List.drop_eq_getElem_cons h4, if_pos (by omega)]
      unfold cmpL; rfl
    · rw [show ls.drop i = [] from List.drop_eq_nil_of_le (by omega), if_neg (by omega), if_neg (by omega)]
      unfold cmpL; rfl

set_option maxRecDepth 100000 in
set_option maxHeartbeats 8000000 in
theorem rcompare_any : ∀ (n : Nat) (x y : Ex) (vx vy : Value) (P Q : Nat → Prop) (w : World), sizeE x ≤ n → sizeE x ≤ 900000 → sizeE y ≤ 900000 → okE 100000 x → okE 100000 y → RdE P w x vx → RdE Q w y vy → (∀ b, P b → b < w.heap.size) → (∀ b, Q b → b < w.heap.size) → Calls Tryd.prog 10 #[vx, vy] w fun r w' => r = .returned (.int .i64 (cmpE x y)) ∧ Below w.heap.size w w' := by
  intro n
  induction n with
  | zero => intro x y vx vy P Q w h; have := sizeE_pos x; omega
  | succ n ih =>
    intro x y vx vy P Q w hx hxm hy hox hoy h1 h2 hP hQ
    obtain ⟨q, c, rfl, _, hk⟩ := h1.form
    obtain ⟨q2, c2, rfl, _, hl⟩ := h2.form
    obtain ⟨k, xv, xn, ks⟩ := x
    obtain ⟨k2, yv, yn, ls⟩ := y
    unfold exv
    show Calls _ _ #[.agg #[.int .i64 k, .string (bstr xv), .string (bstr xn), .slice q ks.length c], .agg #[.int .i64 k2, .string (bstr yv), .string (bstr yn), .slice q2 ls.length c2]] _ _
    have hks : sizeL ks ≤ n := by unfold sizeE at hx; omega
    have hkm : sizeL ks ≤ 900000 := by unfold sizeE at hxm; omega
    have hls : sizeL ls ≤ 900000 := by unfold sizeE at hy; omega
    have hlen := sizeL_len ks
    have hlen2 := sizeL_len ls
    unfold okE at hox hoy
    have HOK := Lib.hid hox.2.2
    have HOL := Lib.hid hoy.2.2
    have HOV : Hid (∀ W, Calls Tryd.prog 24 #[.string (bstr xv), .string (bstr yv)] W fun e w' => e = .returned (.int .i64 (Lib.compareBytes xv yv)) ∧ Below W.heap.size W w') := fun W => order_any (bstr xv) (bstr yv) (by rw [bstr_size]; omega) (by rw [bstr_size]; omega) W
    have HON : Hid (∀ W, Calls Tryd.prog 24 #[.string (bstr xn), .string (bstr yn)] W fun e w' => e = .returned (.int .i64 (Lib.compareBytes xn yn)) ∧ Below W.heap.size W w') := fun W => order_any (bstr xn) (bstr yn) (by rw [bstr_size]; omega) (by rw [bstr_size]; omega) W
    have hb : Below w.heap.size w ((w.alloc (.cells #[.int .i64 k, .string (bstr xv), .string (bstr xn), .slice q ks.length c] 25)).alloc (.cells #[.int .i64 k2, .string (bstr yv), .string (bstr yn), .slice q2 ls.length c2] 25)) := ((Below.refl _ _).alloc (Nat.le_refl _) _).alloc (by simp) _
    have ha1 : Arr ((w.alloc (.cells #[.int .i64 k, .string (bstr xv), .string (bstr xn), .slice q ks.length c] 25)).alloc (.cells #[.int .i64 k2, .string (bstr yv), .string (bstr yn), .slice q2 ls.length c2] 25)) 25 w.heap.size [.int .i64 k, .string (bstr xv), .string (bstr xn), .slice q ks.length c] := (Arr.new' w _ _ _ rfl).alloc _
    have ha2 : Arr ((w.alloc (.cells #[.int .i64 k, .string (bstr xv), .string (bstr xn), .slice q ks.length c] 25)).alloc (.cells #[.int .i64 k2, .string (bstr yv), .string (bstr yn), .slice q2 ls.length c2] 25)) 25 (w.heap.size + 1) [.int .i64 k2, .string (bstr yv), .string (bstr yn), .slice q2 ls.length c2] := Arr.new2 w _ _ _ _ rfl
    have HB := Lib.hid hb
    have HA1 := Lib.hid ha1
    have HA2 := Lib.hid ha2
    have HIH := Lib.hid ih
    have HP := Lib.hid hP
    have HQ := Lib.hid hQ
    have HK : Hid (0 < ks.length → ∃ b o, q = some ⟨b, o, none⟩ ∧ P b ∧ RdL P w ks b o) := hk
    have HL : Hid (0 < ls.length → ∃ b o, q2 = some ⟨b, o, none⟩ ∧ Q b ∧ RdL Q w ls b o) := hl
    clear h1 h2 hk hl hx hy hxm hb ha1 ha2 ih hox hoy hP hQ
    by_cases hlt : k < k2
    · have HE : Hid (cmpE (.mk k xv xn ks) (.mk k2 yv yn ls) = -1) := cmpE_lt hlt
      go_enter Tryd.func10, Tryd.ntmps10
      go_wp2_with fail
      go_ret
      exact ⟨by rw [HE.out]; rfl, HB.out⟩
    by_cases hgt : k2 < k
    · have HE : Hid (cmpE (.mk k xv xn ks) (.mk k2 yv yn ls) = 1) := cmpE_gt hgt
      go_enter Tryd.func10, Tryd.ntmps10
      go_wp2_with fail
      go_ret
      exact ⟨by rw [HE.out]; rfl, HB.out⟩
    obtain rfl : k = k2 := by omega
    have HEV : Hid (Lib.compareBytes xv yv ≠ 0 → cmpE (.mk k xv xn ks) (.mk k yv yn ls) = Lib.compareBytes xv yv) := cmpE_via
    have HEN : Hid (Lib.compareBytes xv yv = 0 → Lib.compareBytes xn yn ≠ 0 → cmpE (.mk k xv xn ks) (.mk k yv yn ls) = Lib.compareBytes xn yn) := cmpE_nm
    have HEK : Hid (Lib.compareBytes xv yv = 0 → Lib.compareBytes xn yn = 0 → cmpE (.mk k xv xn ks) (.mk k yv yn ls) = cmpL ks ls) := cmpE_kids
    obtain ⟨A, hA⟩ : ∃ A, A = Lib.compareBytes xv yv := ⟨_, rfl⟩
    obtain ⟨B, hB⟩ : ∃ B, B = Lib.compareBytes xn yn := ⟨_, rfl⟩
    rw [← hA] at HOV HEV HEN HEK
    rw [← hB] at HON HEN HEK
    obtain ⟨CE, hCE⟩ : ∃ E, E = cmpE (.mk k xv xn ks) (.mk k yv yn ls) := ⟨_, rfl⟩
    rw [← hCE] at HEV HEN HEK ⊢
    clear hA hB hCE hlt hgt
    have hself : ¬ k < k := by omega
    go_enter Tryd.func10, Tryd.ntmps10
    go_wp2_with fail
    refine (HOV.out _).mono ?_
    rintro r w1 ⟨rfl, b1⟩
    have HA11 := Lib.hid (HA1.out.later b1)
    have HA21 := Lib.hid (HA2.out.later b1)
    have HB1 := Lib.hid (HB.out.trans (b1.mono HB.out.size))
    clear b1 HA1 HA2 HB
    have a1 := HA11.out.cell 1
    have a2 := HA11.out.cell 2
    have e1 := HA21.out.cell 1
    have e2 := HA21.out.cell 2
    simp only [List.getElem?_cons_zero, List.getElem?_cons_succ] at a1 a2 e1 e2
    by_cases hz : A = 0
    case neg =>
      have bz : (A != 0) = true := by rw [bne_iff_ne]; exact hz
      have HE2 := Lib.hid (HEV.out hz)
      clear hz
      go_wp2_with fail
      refine (HOV.out _).mono ?_
      rintro r w2 ⟨rfl, b2⟩
      have HB2 := Lib.hid (HB1.out.trans (b2.mono HB1.out.size))
      clear b2
      go_wp2_with fail
      go_ret
      exact ⟨by rw [HE2.out]; rfl, HB2.out⟩
    have bz : (A != 0) = false := by rw [hz]; rfl
    have HEN2 := Lib.hid (HEN.out hz)
    have HEK2 := Lib.hid (HEK.out hz)
    clear hz
    go_wp2_with fail
    refine (HON.out _).mono ?_
    rintro r w2 ⟨rfl, b2⟩
    have HA12 := Lib.hid (HA11.out.later b2)
    have HA22 := Lib.hid (HA21.out.later b2)
    have HB2 := Lib.hid (HB1.out.trans (b2.mono HB1.out.size))
    clear b2 a1 a2 e1 e2 HA11 HA21 HB1
    have a2 := HA12.out.cell 2
    have e2 := HA22.out.cell 2
    simp only [List.getElem?_cons_zero, List.getElem?_cons_succ] at a2 e2
    by_cases hz : B = 0
    case neg =>
      have bz2 : (B != 0) = true := by rw [bne_iff_ne]; exact hz
      have HE2 := Lib.hid (HEN2.out hz)
      clear hz
      go_wp2_with fail
      refine (HON.out _).mono ?_
      rintro r w3 ⟨rfl, b3⟩
      have HB3 := Lib.hid (HB2.out.trans (b3.mono HB2.out.size))
      clear b3
      go_wp2_with fail
      go_ret
      exact ⟨by rw [HE2.out]; rfl, HB3.out⟩
    have bz2 : (B != 0) = false := by rw [hz]; rfl
    have HE2 := Lib.hid (HEK2.out hz)
    clear hz a2 e2 HEV HEN HEK HEN2 HEK2 HOV HON
    go_wp2_with fail
    go_loopw [5] (fun iv wr => ∃ i : Nat, i ≤ ks.length ∧ i ≤ ls.length ∧ iv = .int .i64 i ∧ Hid (cmpL ks ls = cmpL (ks.drop i) (ls.drop i)) ∧ Hid (Below w.heap.size w wr ∧ Arr wr 25 w.heap.size [.int .i64 k, .string (bstr xv), .string (bstr xn), .slice q ks.length c] ∧ Arr wr 25 (w.heap.size + 1) [.int .i64 k, .string (bstr yv), .string (bstr yn), .slice q2 ls.length c2])) (fun iv _ => ks.length - (intOf iv).toNat)
    case atStart => exact ⟨0, Nat.zero_le _, Nat.zero_le _, rfl, rfl, HB2.out, HA12.out, HA22.out⟩
    case round =>
      obtain ⟨i, hi, hi2, rfl, HD, HI2⟩ := hrel
      have HI := Lib.hid HI2.out.1
      have HAI := Lib.hid HI2.out.2.1
      have HAJ := Lib.hid HI2.out.2.2
      clear HI2 HB2 HA12 HA22
      have hi0 : (0 : Int) ≤ i := by omega
      have a3 := HAI.out.cell 3
      have e3 := HAJ.out.cell 3
      simp only [List.getElem?_cons_zero, List.getElem?_cons_succ] at a3 e3
      by_cases hboth : i < ks.length ∧ i < ls.length
      · obtain ⟨hlt, hlt2⟩ := hboth
        have hi1 : (i : Int) < ks.length := by omega
        have hi3 : (i : Int) < ls.length := by omega
        have HST := Lib.hid (cmpL_step hlt hlt2)
        have hP := HP.out
        obtain ⟨ba, oa, rfl, hba, hl⟩ := HK.out (by omega)
        obtain ⟨x, hx⟩ : ∃ x, x = ks.getD i ex0 := ⟨_, rfl⟩
        obtain ⟨q2a, c2a, x0, x1, x2, x3, hr⟩ := hl.at hlt
        have hxs := sizeL_get ks i hlt
        have hxd := depthL_get ks i hlt
        rw [← hx] at x0 x1 x2 x3 hr hxs hxd
        have HX := Lib.hid hx
        obtain ⟨xk, xv2, xn2, xs⟩ := x
        have cc : ∀ n, wr.cell? ⟨ba, n, none⟩ = w.cell? ⟨ba, n, none⟩ := fun n => (HI.out).cell (p := ⟨ba, n, none⟩) (hP _ hba)
        have X0 : wr.cell? ⟨ba, oa + i * 4, none⟩ = some (.int .i64 xk) := (cc _).trans x0
        have X1 : wr.cell? ⟨ba, oa + i * 4 + 1, none⟩ = some (.string (bstr xv2)) := (cc _).trans x1
        have X2 : wr.cell? ⟨ba, oa + i * 4 + 2, none⟩ = some (.string (bstr xn2)) := (cc _).trans x2
        have X3 : wr.cell? ⟨ba, oa + i * 4 + 3, none⟩ = some (.slice q2a xs.length c2a) := (cc _).trans x3
        clear x0 x1 x2 x3 cc hx
        have hQ := HQ.out
        obtain ⟨bab, oab, rfl, hbab, hlb⟩ := HL.out (by omega)
        obtain ⟨x, hx⟩ : ∃ x, x = ls.getD i ex0 := ⟨_, rfl⟩
        obtain ⟨q2b, c2b, x0, x1, x2, x3, hrb⟩ := hlb.at hlt2
        have hxsb := sizeL_get ls i hlt2
        have hxdb := depthL_get ls i hlt2
        rw [← hx] at x0 x1 x2 x3 hrb hxsb hxdb
        have HXb := Lib.hid hx
        obtain ⟨xkb, xv2b, xn2b, xsb⟩ := x
        have cc : ∀ n, wr.cell? ⟨bab, n, none⟩ = w.cell? ⟨bab, n, none⟩ := fun n => (HI.out).cell (p := ⟨bab, n, none⟩) (hQ _ hbab)
        have X0b : wr.cell? ⟨bab, oab + i * 4, none⟩ = some (.int .i64 xkb) := (cc _).trans x0
        have X1b : wr.cell? ⟨bab, oab + i * 4 + 1, none⟩ = some (.string (bstr xv2b)) := (cc _).trans x1
        have X2b : wr.cell? ⟨bab, oab + i * 4 + 2, none⟩ = some (.string (bstr xn2b)) := (cc _).trans x2
        have X3b : wr.cell? ⟨bab, oab + i * 4 + 3, none⟩ = some (.slice q2b xsb.length c2b) := (cc _).trans x3
        clear x0 x1 x2 x3 cc hx
        have HR : Hid (RdE P wr (.mk xk xv2 xn2 xs) (.agg #[.int .i64 xk, .string (bstr xv2), .string (bstr xn2), .slice q2a xs.length c2a])) := hr.below HI.out hP
        have HR2 : Hid (RdE Q wr (.mk xkb xv2b xn2b xsb) (.agg #[.int .i64 xkb, .string (bstr xv2b), .string (bstr xn2b), .slice q2b xsb.length c2b])) := hrb.below HI.out hQ
        have HC : Hid (∀ W, Below wr.heap.size wr W → Calls Tryd.prog 10 #[.agg #[.int .i64 xk, .string (bstr xv2), .string (bstr xn2), .slice q2a xs.length c2a], .agg #[.int .i64 xkb, .string (bstr xv2b), .string (bstr xn2b), .slice q2b xsb.length c2b]] W fun r w' => r = .returned (.int .i64 (cmpE (.mk xk xv2 xn2 xs) (.mk xkb xv2b xn2b xsb))) ∧ Below W.heap.size W w') :=
          fun W hW => HIH.out (.mk xk xv2 xn2 xs) (.mk xkb xv2b xn2b xsb) _ _ P Q W (by omega) (by omega) (by omega) (HX.out ▸ okL_get HOK.out hlt) (HXb.out ▸ okL_get HOL.out hlt2) (HR.out.below hW (fun b hb => Nat.lt_of_lt_of_le (hP b hb) HI.out.size)) (HR2.out.below hW (fun b hb => Nat.lt_of_lt_of_le (hQ b hb) HI.out.size)) (fun b hb => Nat.lt_of_lt_of_le (hP b hb) (Nat.le_trans HI.out.size hW.size)) (fun b hb => Nat.lt_of_lt_of_le (hQ b hb) (Nat.le_trans HI.out.size hW.size))
        rw [← HX.out, ← HXb.out, orL2] at HST
        obtain ⟨E, hE⟩ : ∃ E, E = cmpE (.mk xk xv2 xn2 xs) (.mk xkb xv2b xn2b xsb) := ⟨_, rfl⟩
        rw [← hE] at HC HST
        clear hl hr hxs hxd hba hP hE hlb hrb hxsb hxdb hbab hQ
        go_upto_region 12 with (fail)
        refine wp_region_still_tail 10 (by kernel_rfl) (by kernel_rfl) ?_
        simp only [List.take_succ_cons, List.take_zero, List.drop_succ_cons, List.drop_zero]
        repeat still_step
        refine wpStill_nil ?_
        change wpList _ _ _ _ _ wr.drew
        have HBd : Hid (Below wr.heap.size wr wr.drew) := (Below.refl _ _).drew
        have HCd := Lib.hid (HC.out _ HBd.out)
        have HId := Lib.hid (HI.out.trans (HBd.out.mono HI.out.size))
        have HAd := Lib.hid (HAI.out.later HBd.out)
        have HAe := Lib.hid (HAJ.out.later HBd.out)
        clear a3 e3 X0 X1 X2 X3 X0b X1b X2b X3b HC HAI HAJ HR HR2 HI
        generalize wr.drew = wd at HBd HCd HId HAd HAe ⊢
        go_wp2_with fail
        refine HCd.out.mono ?_
        rintro r w5 ⟨rfl, b5⟩
        have HB5 := Lib.hid (HId.out.trans (b5.mono HId.out.size))
        have HA5 := Lib.hid (HAd.out.later b5)
        have HA6 := Lib.hid (HAe.out.later b5)
        clear b5
        by_cases hz : E = 0
        · have bz5 : (E != 0) = false := by rw [hz]; rfl
          have HST2 : Hid (cmpL ks ls = cmpL (ks.drop (i + 1)) (ls.drop (i + 1))) := by show _ = _; rw [HD.out, HST.out, if_pos hz]
          clear hz
          go_wp2_with fail
          go_roundw
          case rel => exact ⟨i + 1, by omega, by omega, by go_num, HST2.out, HB5.out, HA5.out, HA6.out⟩
          case measure => simp [intOf]; omega
        · have bz5 : (E != 0) = true := by rw [bne_iff_ne]; exact hz
          have HST2 : Hid (cmpL ks ls = E) := by show _ = _; rw [HD.out, HST.out, if_neg hz]
          clear hz
          go_wp2_with fail
          go_ret
          exact ⟨by rw [HE2.out, HST2.out]; rfl, HB5.out⟩
      · have HEN := Lib.hid (cmpL_end hi hi2 hboth)
        by_cases hlt : i < ks.length
        · have hi1 : (i : Int) < ks.length := by omega
          have hi3 : ¬ (i : Int) < ls.length := by omega
          have h4 : ¬ (ks.length : Int) < ls.length := by omega
          have h5 : (ls.length : Int) < ks.length := by omega
          have HRS : Hid (CE = 1) := by show _ = _; rw [HE2.out, HD.out, HEN.out, if_neg (by omega), if_pos (by omega)]
          clear hboth
          go_wp2_with fail
          go_ret
          exact ⟨by rw [HRS.out]; rfl, HI.out⟩
        · have hi1 : ¬ (i : Int) < ks.length := by omega
          by_cases hl2 : ks.length < ls.length
          · have h4 : (ks.length : Int) < ls.length := by omega
            have HRS : Hid (CE = -1) := by show _ = _; rw [HE2.out, HD.out, HEN.out, if_pos hl2]
            clear hboth
            go_wp2_with fail
            go_ret
            exact ⟨by rw [HRS.out]; rfl, HI.out⟩
          · have h4 : ¬ (ks.length : Int) < ls.length := by omega
            have h5 : ¬ (ls.length : Int) < ks.length := by omega
            have HRS : Hid (CE = 0) := by show _ = _; rw [HE2.out, HD.out, HEN.out, if_neg hl2, if_neg (by omega)]
            clear hboth
            go_wp2_with fail
            go_ret
            exact ⟨by rw [HRS.out]; rfl, HI.out⟩
end Go.Proofs.YteieimchleioaaaDoor
/-
  The law's awake is true.
-/
namespace Go.Proofs.YteieimchleioaaaDoor
open Go.ChangeShapes Go.WideShapes Go.ChangeAt Go.RowKit
set_option linter.unusedVariables false

open errAs (ErrT)
def Env (w : World) : Prop := ResT w ∧ ErrT w
theorem Env.below {w w' : World} (h : Env w) (hb : Below w.heap.size w w') : Env w' := ⟨h.1.below hb h.1.lt, errT_below h.2 hb⟩
theorem ReadPost.ok {α : Type} {val : Nat → α → World → Value → Prop} {zero : Value} {w : World} {r : RR α} {e : Ending} {w' : World} {x : α} (h : ReadPost val zero w r e w') (hr : r = .ok x) : ∃ v, e = .returned (.tuple #[v, .nilIface]) ∧ val w.heap.size x w' v ∧ Below w.heap.size w w' := by
  obtain ⟨h1, ⟨y, v, h2, h3, h4⟩ | ⟨c, i, _, h2, _⟩⟩ := h
  · rw [hr] at h2; cases h2; exact ⟨v, h3, h4, h1⟩
  · rw [hr] at h2; cases h2
theorem ReadPost.bad {α : Type} {val : Nat → α → World → Value → Prop} {zero : Value} {w : World} {r : RR α} {e : Ending} {w' : World} {c i : Nat} (h : ReadPost val zero w r e w') (hr : r = .bad c i) : e = .returned (.tuple #[zero, faultN c i]) ∧ c ≠ 0 ∧ Below w.heap.size w w' := by
  obtain ⟨h1, ⟨y, v, h2, _⟩ | ⟨c', i', h0, h2, h3⟩⟩ := h
  · rw [hr] at h2; cases h2
  · rw [hr] at h2; cases h2; exact ⟨h3, h0, h1⟩
/-- Where a schema's definitions lie, and the members of one. -/
theorem VS.at {B : Nat} {l : List DefB} {w : World} {q : Option Addr} {c : Nat} (h : RdK kdDef (Bt B w.heap.size) w l (.slice q l.length c)) {i : Nat} (hi : i < l.length) : ∃ b o q2 c2, q = some ⟨b, o, none⟩ ∧ b < w.heap.size ∧ w.cell? ⟨b, o + i * 2, none⟩ = some (.string (bstr (l.getD i ([], [])).1)) ∧ w.cell? ⟨b, o + i * 2 + 1, none⟩ = some (.slice q2 (l.getD i ([], [])).2.length c2) := by
  obtain ⟨q', c', e, _, h3⟩ := h
  simp only [Value.slice.injEq] at e
  obtain ⟨rfl, _, rfl⟩ := e
  obtain ⟨b, o, rfl, hb, cs, h6, h7⟩ := h3 (by omega)
  have key : ∀ (l : List DefB) (cs : List Value) (o i : Nat), CellsK kdDef (Bt B w.heap.size) w l cs → (∀ j u, cs[j]? = some u → w.cell? ⟨b, o + j, none⟩ = some u) → i < l.length → ∃ q2 c2, w.cell? ⟨b, o + i * 2, none⟩ = some (.string (bstr (l.getD i ([], [])).1)) ∧ w.cell? ⟨b, o + i * 2 + 1, none⟩ = some (.slice q2 (l.getD i ([], [])).2.length c2) := by
    intro l
    induction l with
    | nil => intro cs o i _ _ h; simp at h
    | cons d r ih =>
      intro cs o i hc hx hi
      obtain ⟨a, b', rfl, ⟨v, rfl, hv⟩, h2⟩ := hc
      cases i with
      | zero =>
        obtain ⟨q2, c2, rfl, _⟩ := hv
        exact ⟨q2, c2, hx 0 _ rfl, hx 1 _ rfl⟩
      | succ i =>
        have := ih b' (o + 2) i h2 (fun j u hj => by rw [show o + 2 + j = o + (j + 2) by omega]; exact hx (j + 2) u hj) (by simpa using hi)
        rw [show o + 2 + i * 2 = o + (i + 1) * 2 by omega] at this
        exact this
  obtain ⟨q2, c2, h8, h9⟩ := key l cs o i h6 h7 hi
  exact ⟨b, o, q2, c2, rfl, hb.2, h8, h9⟩
mutual
theorem okE_le {M N : Nat} (h : M ≤ N) : ∀ e : Ex, okE M e → okE N e
  | .mk k v n ks, he => by
    rw [okE] at he ⊢
    exact ⟨Nat.le_trans he.1 h, Nat.le_trans he.2.1 h, okL_le h ks he.2.2⟩
theorem okL_le {M N : Nat} (h : M ≤ N) : ∀ l : List Ex, okL M l → okL N l
  | [], he => by rw [okL]; trivial
  | e :: r, he => by
    rw [okL] at he ⊢
    exact ⟨okE_le h e he.1, okL_le h r he.2⟩
end
/-- What is read as an expression is right and small. -/
theorem readF_right {l : List UInt8} {e : Ex} (h : readF exprF l = .ok e) : rightE e = true ∧ okE 100000 e ∧ sizeE e ≤ 64 := by
  unfold readF at h
  split at h
  · rename_i h0
    have ho : OkTs (tokS l).1 := tokF_ok _ _ _ (Nat.lt_succ_self _) h0
    cases hr : exprF (tokS l).1 ps0 with
    | ok x s =>
      rw [hr] at h
      unfold endF at h
      rw [PR.then_ok] at h
      split at h
      · cases h
        have := expr_right ho (okTs_pos ho) hr
        exact ⟨this.1, okE_le (by decide) _ this.2.1, this.2.2⟩
      · cases h
    | bad k i => rw [hr] at h; cases h
  · cases h
/-- The law's own expression in memory. -/
theorem lit_arr1 (W : World) : Arr ((W.alloc (.cells #[.int .i64 1, .string ⟨#[]⟩, .string ⟨#[98]⟩, .slice none 0 0, .int .i64 1, .string ⟨#[]⟩, .string ⟨#[99]⟩, .slice none 0 0] 25)).alloc (.cells #[.int .i64 1, .string ⟨#[]⟩, .string ⟨#[97]⟩, .slice none 0 0, .int .i64 4, .string ⟨#[]⟩, .string ⟨#[]⟩, .slice (some ⟨W.heap.size, 0, none⟩) 2 2] 25)) 25 W.heap.size [.int .i64 1, .string ⟨#[]⟩, .string ⟨#[98]⟩, .slice none 0 0, .int .i64 1, .string ⟨#[]⟩, .string ⟨#[99]⟩, .slice none 0 0] := (Arr.new' _ _ _ _ rfl).alloc _
theorem lit_arr2 (W : World) : Arr ((W.alloc (.cells #[.int .i64 1, .string ⟨#[]⟩, .string ⟨#[98]⟩, .slice none 0 0, .int .i64 1, .string ⟨#[]⟩, .string ⟨#[99]⟩, .slice none 0 0] 25)).alloc (.cells #[.int .i64 1, .string ⟨#[]⟩, .string ⟨#[97]⟩, .slice none 0 0, .int .i64 4, .string ⟨#[]⟩, .string ⟨#[]⟩, .slice (some ⟨W.heap.size, 0, none⟩) 2 2] 25)) 25 (W.heap.size + 1) [.int .i64 1, .string ⟨#[]⟩, .string ⟨#[97]⟩, .slice none 0 0, .int .i64 4, .string ⟨#[]⟩, .string ⟨#[]⟩, .slice (some ⟨W.heap.size, 0, none⟩) 2 2] := Arr.new2 _ _ _ _ _ rfl
theorem lit_rd (W : World) : RdE (Bt W.heap.size (W.heap.size + 2)) ((W.alloc (.cells #[.int .i64 1, .string ⟨#[]⟩, .string ⟨#[98]⟩, .slice none 0 0, .int .i64 1, .string ⟨#[]⟩, .string ⟨#[99]⟩, .slice none 0 0] 25)).alloc (.cells #[.int .i64 1, .string ⟨#[]⟩, .string ⟨#[97]⟩, .slice none 0 0, .int .i64 4, .string ⟨#[]⟩, .string ⟨#[]⟩, .slice (some ⟨W.heap.size, 0, none⟩) 2 2] 25)) aw2E (.agg #[.int .i64 3, .string ⟨#[]⟩, .string ⟨#[]⟩, .slice (some ⟨W.heap.size + 1, 0, none⟩) 2 2]) := by
  have h1 := lit_arr1 W
  have h2 := lit_arr2 W
  generalize ((W.alloc (.cells #[.int .i64 1, .string ⟨#[]⟩, .string ⟨#[98]⟩, .slice none 0 0, .int .i64 1, .string ⟨#[]⟩, .string ⟨#[99]⟩, .slice none 0 0] 25)).alloc (.cells #[.int .i64 1, .string ⟨#[]⟩, .string ⟨#[97]⟩, .slice none 0 0, .int .i64 4, .string ⟨#[]⟩, .string ⟨#[]⟩, .slice (some ⟨W.heap.size, 0, none⟩) 2 2] 25)) = w at h1 h2 ⊢
  unfold aw2E RdE
  refine ⟨_, _, rfl, Nat.le_refl _, fun _ => ⟨W.heap.size + 1, 0, rfl, ⟨by omega, by omega⟩, ?_⟩⟩
  unfold RdL
  refine ⟨⟨_, _, _, _, h2.cell 0, h2.cell 1, h2.cell 2, h2.cell 3, ?_⟩, ?_⟩
  · unfold RdE; exact ⟨none, 0, rfl, Nat.le_refl _, fun h => by simp at h⟩
  unfold RdL
  refine ⟨⟨_, _, _, _, h2.cell 4, h2.cell 5, h2.cell 6, h2.cell 7, ?_⟩, by unfold RdL; trivial⟩
  unfold RdE
  refine ⟨_, _, rfl, Nat.le_refl _, fun _ => ⟨W.heap.size, 0, rfl, ⟨by omega, by omega⟩, ?_⟩⟩
  unfold RdL
  refine ⟨⟨_, _, _, _, h1.cell 0, h1.cell 1, h1.cell 2, h1.cell 3, ?_⟩, ?_⟩
  · unfold RdE; exact ⟨none, 0, rfl, Nat.le_refl _, fun h => by simp at h⟩
  unfold RdL
  refine ⟨⟨_, _, _, _, h1.cell 4, h1.cell 5, h1.cell 6, h1.cell 7, ?_⟩, by unfold RdL; trivial⟩
  unfold RdE; exact ⟨none, 0, rfl, Nat.le_refl _, fun h => by simp at h⟩
set_option maxRecDepth 100000 in
set_option maxHeartbeats 4000000 in
theorem awake_any (w : World) (h : Env w) : Calls Tryd.prog 7 #[] w fun e w' => e = .returned (.bool true) ∧ Below w.heap.size w w' := by
  have HE := Lib.hid h
  have HQ1 := Lib.hid (parseE_any ⟨#[97, 32, 43, 32, 98, 32, 38, 32, 99]⟩ (by decide) w h.1)
  clear h
  go_enter Tryd.func7, Tryd.ntmps7
  go_wp2_with fail
  refine HQ1.out.mono ?_
  rintro r w1 h1
  obtain ⟨rfl, -, b1⟩ := h1.bad aw1_bad
  have hb2 : Below w1.heap.size w1 (w1.alloc (.cells #[.int .i64 0, .string ⟨#[]⟩, .string ⟨#[]⟩, .slice none 0 0] 25)) := (Below.refl _ _).alloc (Nat.le_refl _) _
  have HE2 := Lib.hid ((HE.out.below b1).below hb2)
  have HB2 := Lib.hid (b1.trans (hb2.mono b1.size))
  have HQ2 := Lib.hid (parseE_any ⟨#[97, 32, 43, 32, 40, 98, 32, 38, 32, 99, 41]⟩ (by decide) _ HE2.out.1)
  clear h1 b1 HQ1 hb2
  unfold faultN
  go_wp2_with fail
  refine HQ2.out.mono ?_
  rintro r w3 h3
  obtain ⟨e2, he2, hc2⟩ := aw2_ok
  obtain ⟨v3, rfl, hv3, b3⟩ := h3.ok he2
  have HRT := Lib.hid (readF_right he2)
  obtain ⟨mk, mv, mn, ms⟩ := e2
  have HC2 : Hid (cmpE (.mk mk mv mn ms) aw2E = 0) := (by simpa using hc2 : cmpE (.mk mk mv mn ms) aw2E = 0)
  have HE3 := Lib.hid (HE2.out.below b3)
  have HB3 := Lib.hid (HB2.out.trans (b3.mono HB2.out.size))
  have HV3 := Lib.hid hv3
  obtain ⟨q4, c4, rfl⟩ := VE.form hv3
  have hb4 : Below w3.heap.size w3 (w3.alloc (.cells #[.int .i64 mk, .string (bstr mv), .string (bstr mn), .slice q4 ms.length c4] 25)) := (Below.refl _ _).alloc (Nat.le_refl _) _
  have HE4 := Lib.hid (HE3.out.below hb4)
  have HB4 := Lib.hid (HB3.out.trans (hb4.mono HB3.out.size))
  have HV4 := Lib.hid (HV3.out.later hb4)
  have HX4 : Hid (Arr (w3.alloc (.cells #[.int .i64 mk, .string (bstr mv), .string (bstr mn), .slice q4 ms.length c4] 25)) 25 w3.heap.size [.int .i64 mk, .string (bstr mv), .string (bstr mn), .slice q4 ms.length c4]) := Arr.new' _ _ _ _ rfl
  have HQ3 := Lib.hid (parseS_any ⟨#[100, 101, 102, 105, 110, 105, 116, 105, 111, 110, 32, 117, 115, 101, 114, 32, 123, 125, 32, 100, 101, 102, 105, 110, 105, 116, 105, 111, 110, 32, 100, 111, 99, 32, 123, 32, 114, 101, 108, 97, 116, 105, 111, 110, 32, 118, 58, 32, 117, 115, 101, 114, 32, 124, 32, 100, 111, 99, 35, 118, 59, 32, 112, 101, 114, 109, 105, 115, 115, 105, 111, 110, 32, 119, 32, 61, 32, 118, 32, 45, 32, 118, 45, 62, 119, 59, 32, 125]⟩ (by decide) _ HE4.out.1)
  clear h3 hv3 b3 HQ2 hb4 he2 hc2 HE2 HB2 HE3 HB3 HV3
  go_wp2_with fail
  refine HQ3.out.mono ?_
  rintro r w5 h5
  obtain ⟨d, hd, hdl⟩ := aw3_ok
  obtain ⟨v5, rfl, hv5, b5⟩ := h5.ok hd
  have HE5 := Lib.hid (HE4.out.below b5)
  have HB5 := Lib.hid (HB4.out.trans (b5.mono HB4.out.size))
  have HV5 := Lib.hid (HV4.out.later b5)
  have HX5 := Lib.hid (HX4.out.later b5)
  obtain ⟨q5, c5, rfl, hv5b⟩ := VS.form hv5
  simp only [Bool.and_eq_true, decide_eq_true_eq] at hdl
  obtain ⟨hd1, hd2⟩ := hdl
  obtain ⟨b, o, q6, c6, rfl, hbl, -, hm6⟩ := VS.at hv5b (i := 1) (by omega)
  rw [hd2] at hm6
  rw [hd1]
  have hm7 : w5.cell? ⟨b, o + 3, none⟩ = some (.slice q6 2 c6) := by rw [show o + 3 = o + 1 * 2 + 1 by omega]; exact hm6
  have hb6 : Below w5.heap.size w5 (w5.alloc (.cells #[.slice (some ⟨b, o, none⟩) 2 c5] 49)) := (Below.refl _ _).alloc (Nat.le_refl _) _
  have HE6 := Lib.hid (HE5.out.below hb6)
  have HB6 := Lib.hid (HB5.out.trans (hb6.mono HB5.out.size))
  have HV6 := Lib.hid (HV5.out.later hb6)
  have HX6 := Lib.hid (HX5.out.later hb6)
  have HM6 : Hid ((w5.alloc (.cells #[.slice (some ⟨b, o, none⟩) 2 c5] 49)).cell? ⟨b, o + 3, none⟩ = some (.slice q6 2 c6) ∧ b < (w5.alloc (.cells #[.slice (some ⟨b, o, none⟩) 2 c5] 49)).heap.size) := ⟨(hb6.cell (p := ⟨b, o + 3, none⟩) hbl).trans hm7, Nat.lt_of_lt_of_le hbl hb6.size⟩
  have HS6 : Hid (Arr (w5.alloc (.cells #[.slice (some ⟨b, o, none⟩) 2 c5] 49)) 49 w5.heap.size [.slice (some ⟨b, o, none⟩) 2 c5]) := Arr.new' _ _ _ _ rfl
  have HT6 := Lib.hid (told_fault 6 6 (by decide) _ HE6.out.2)
  clear h5 b5 HQ3 hb6 hd hd1 hd2 hm6 hm7 hv5 hv5b HE4 HB4 HV4 HX4 HE5 HB5 HV5 HX5 hbl
  have c0 := HS6.out.cell 0
  simp only [List.getElem?_cons_zero] at c0
  go_wp2_with fail
  refine HT6.out.mono ?_
  rintro r w7 ⟨rfl, b7⟩
  have hb8 : Below w7.heap.size w7 ((w7.alloc (.cells #[.int .i64 1, .string ⟨#[]⟩, .string ⟨#[98]⟩, .slice none 0 0, .int .i64 1, .string ⟨#[]⟩, .string ⟨#[99]⟩, .slice none 0 0] 25)).alloc (.cells #[.int .i64 1, .string ⟨#[]⟩, .string ⟨#[97]⟩, .slice none 0 0, .int .i64 4, .string ⟨#[]⟩, .string ⟨#[]⟩, .slice (some ⟨w7.heap.size, 0, none⟩) 2 2] 25)) := ((Below.refl _ _).alloc (Nat.le_refl _) _).alloc (by simp) _
  have HX7 := Lib.hid (HX6.out.later b7)
  have HV8 := Lib.hid ((HV6.out.later b7).later hb8)
  have HB8 := Lib.hid ((HB6.out.trans (b7.mono HB6.out.size)).trans (hb8.mono (Nat.le_trans HB6.out.size b7.size)))
  have HS8 := Lib.hid ((HS6.out.later b7).later hb8)
  have HM8 : Hid (((w7.alloc (.cells #[.int .i64 1, .string ⟨#[]⟩, .string ⟨#[98]⟩, .slice none 0 0, .int .i64 1, .string ⟨#[]⟩, .string ⟨#[99]⟩, .slice none 0 0] 25)).alloc (.cells #[.int .i64 1, .string ⟨#[]⟩, .string ⟨#[97]⟩, .slice none 0 0, .int .i64 4, .string ⟨#[]⟩, .string ⟨#[]⟩, .slice (some ⟨w7.heap.size, 0, none⟩) 2 2] 25)).cell? ⟨b, o + 3, none⟩ = some (.slice q6 2 c6)) := (hb8.cell (p := ⟨b, o + 3, none⟩) (Nat.lt_of_lt_of_le HM6.out.2 b7.size)).trans ((b7.cell (p := ⟨b, o + 3, none⟩) HM6.out.2).trans HM6.out.1)
  have HCM := Lib.hid (rcompare_any _ _ _ _ _ _ _ ((w7.alloc (.cells #[.int .i64 1, .string ⟨#[]⟩, .string ⟨#[98]⟩, .slice none 0 0, .int .i64 1, .string ⟨#[]⟩, .string ⟨#[99]⟩, .slice none 0 0] 25)).alloc (.cells #[.int .i64 1, .string ⟨#[]⟩, .string ⟨#[97]⟩, .slice none 0 0, .int .i64 4, .string ⟨#[]⟩, .string ⟨#[]⟩, .slice (some ⟨w7.heap.size, 0, none⟩) 2 2] 25)) (Nat.le_refl _) (Nat.le_trans HRT.out.2.2 (by decide)) (by decide) HRT.out.2.1 (okE_le (M := 64) (by decide) aw2E (by unfold aw2E; simp [okE, okL])) HV8.out (lit_rd w7) (fun b hb => hb.2) (fun b hb => by have := hb.2; simp; omega))
  rw [HC2.out] at HCM
  clear b7 hb8 HT6 HV6 HB6 HM6 HE6 HX6 HS6 c0
  have x0 := HX7.out.cell 0
  have y0 := HX7.out.free 0
  have x1 := HX7.out.cell 1
  have y1 := HX7.out.free 1
  have x2 := HX7.out.cell 2
  have y2 := HX7.out.free 2
  have x3 := HX7.out.cell 3
  have y3 := HX7.out.free 3
  simp only [List.getElem?_cons_zero, List.getElem?_cons_succ] at x0 x1 x2 x3
  go_wp2_with fail
  refine HCM.out.mono ?_
  rintro r w9 ⟨rfl, b9⟩
  have HS9 := Lib.hid (HS8.out.later b9)
  have HM9 : Hid (w9.cell? ⟨b, o + 3, none⟩ = some (.slice q6 2 c6)) := (b9.cell (p := ⟨b, o + 3, none⟩) (World.block_lt_of_cell? _ _ HM8.out)).trans HM8.out
  have HB9 := Lib.hid (HB8.out.trans (b9.mono HB8.out.size))
  have c0 := HS9.out.cell 0
  have m0 := HM9.out
  have m1 : w9.cell? ⟨b, o + 2 + 1, none⟩ = some (.slice q6 2 c6) := m0
  simp only [List.getElem?_cons_zero] at c0
  clear b9 HCM
  go_wp2_with fail
  go_ret
  exact ⟨rfl, HB9.out⟩
end Go.Proofs.YteieimchleioaaaDoor
/-
  ParseNests: up to 14 parentheses may be open; they make nothing.
-/
namespace Go.Proofs.YteieimchleioaaaDoor
open Go.ChangeShapes Go.WideShapes Go.ChangeAt Go.RowKit
set_option linter.unusedVariables false

def nestB : Nat → List UInt8
  | 0 => [97]
  | k + 1 => [40] ++ nestB k ++ [41]
theorem nestB_len : ∀ k, (nestB k).length = 2 * k + 1
  | 0 => rfl
  | k + 1 => by rw [nestB, List.length_append, List.length_append, nestB_len k]; simp; omega
theorem nest_okB : ((List.range 15).all fun k => okB (fun (e : Ex) => cmpE e (.mk 1 [] [97] []) == 0) (readF exprF (nestB k))) = true := by decide +kernel
theorem nest_badB : ((List.range 5).all fun k => badB (readF exprF (nestB (k + 15))) 7 14) = true := by decide +kernel
theorem nest_ok {k : Nat} (h : k < 15) : ∃ e, readF exprF (nestB k) = .ok e ∧ cmpE e (.mk 1 [] [97] []) = 0 := by
  have := List.all_eq_true.1 nest_okB k (List.mem_range.2 h)
  obtain ⟨e, h1, h2⟩ := okB_ok this
  exact ⟨e, h1, by simpa using h2⟩
theorem nest_bad {k : Nat} (h : 15 ≤ k) (h2 : k < 20) : readF exprF (nestB k) = .bad 7 14 := by
  have := List.all_eq_true.1 nest_badB (k - 15) (List.mem_range.2 (by omega))
  rw [show k - 15 + 15 = k by omega] at this
  exact badB_eq this
set_option maxRecDepth 100000 in
set_option maxHeartbeats 4000000 in
theorem nests_any (n : Int) (w : World) (hn : (Lit.int .u8 n).wf = true) (h : Env w) : Calls Tryd.prog 5 #[.int .u8 n] w fun e w' => e = .returned (.bool true) ∧ Below w.heap.size w w' := by
  have HAW := Lib.hid (awake_any w h)
  have HE := Lib.hid h
  have hn0 : 0 ≤ n ∧ n < 256 := by
    have h1 : IntKind.u8.min = 0 := rfl
    have h2 : IntKind.u8.max = 255 := rfl
    simp [Lit.wf] at hn
    omega
  obtain ⟨m, rfl⟩ : ∃ m : Nat, n = m := ⟨n.toNat, by omega⟩
  have hm : m < 256 := by omega
  have hcv : (Int.tmod (m : Int) 20) = ((m % 20 : Nat) : Int) := by rw [Int.tmod_eq_emod_of_nonneg (by omega)]; omega
  have hk : m % 20 < 20 := Nat.mod_lt _ (by decide)
  clear h hn hn0
  go_enter Tryd.func5, Tryd.ntmps5
  go_wp2_with fail
  refine HAW.out.mono ?_
  rintro r w1 ⟨rfl, b1⟩
  have HE1 := Lib.hid (HE.out.below b1)
  have HB1 := Lib.hid b1
  clear b1 HAW
  go_wp2_with fail
  obtain ⟨K, hK⟩ : ∃ K, K = m % 20 := ⟨_, rfl⟩
  rw [show ((m : Int) % 20) = ((K : Nat) : Int) from by omega]
  have hK2 : K < 20 := by omega
  clear hk hK hcv hm
  go_loopw [4, 5] (fun sv iv wr => ∃ i : Nat, i ≤ K ∧ iv = .int .i64 i ∧ sv = .string (bstr (nestB i)) ∧ Hid (wr = w1)) (fun _ iv _ => K - (intOf iv).toNat)
  case atStart => exact ⟨0, Nat.zero_le _, rfl, rfl, (by first | exact trivial | rfl)⟩
  case round =>
    obtain ⟨i, hi, rfl, rfl, HW⟩ := hrel
    obtain rfl := HW.out
    clear HW
    by_cases hlt : i < K
    · have hlt1 : (i : Int) < K := by omega
      have hi0 : (0 : Int) ≤ i := by omega
      have hi1 : (i : Int) ≤ 100 := by omega
      obtain ⟨sb, hsb⟩ : ∃ sb, sb = bstr (nestB i) := ⟨_, rfl⟩
      have z0 : (sb.size : Int) ≤ 100 := by rw [hsb, bstr_size, nestB_len]; omega
      have HSB : Hid (bstr (nestB (i + 1)) = ⟨#[40]⟩ ++ sb ++ ⟨#[41]⟩) := by
        show _ = _
        rw [hsb, show (⟨#[40]⟩ : ByteArray) = bstr [40] from rfl, show (⟨#[41]⟩ : ByteArray) = bstr [41] from rfl, bstr_app, bstr_app]
        rfl
      rw [← hsb]
      clear hsb
      go_wp2_with fail
      go_roundw
      case rel => exact ⟨i + 1, by omega, by go_num, by rw [HSB.out], (by first | exact trivial | rfl)⟩
      case measure => simp [intOf]; omega
    · have hlt1 : ¬ (i : Int) < K := by omega
      obtain rfl : i = K := by omega
      have HP := Lib.hid (parseE_any (bstr (nestB i)) (by rw [bstr_size, nestB_len]; omega) _ HE1.out.1)
      clear hlt
      go_wp2_with fail
      refine HP.out.mono ?_
      rintro r w3 h3
      by_cases h14 : 14 < i
      · have h14' : (14 : Int) < i := by omega
        obtain ⟨rfl, -, b3⟩ := h3.bad (nest_bad h14 hK2)
        have hb4 : Below w3.heap.size w3 (w3.alloc (.cells #[.int .i64 0, .string ⟨#[]⟩, .string ⟨#[]⟩, .slice none 0 0] 25)) := (Below.refl _ _).alloc (Nat.le_refl _) _
        have HE4 := Lib.hid ((HE1.out.below b3).below hb4)
        have HB4 := Lib.hid ((HB1.out.trans (b3.mono HB1.out.size)).trans (hb4.mono (Nat.le_trans HB1.out.size b3.size)))
        have HT := Lib.hid (told_fault 7 14 (by decide) _ HE4.out.2)
        clear h3 b3 hb4 HP h14
        unfold faultN
        go_wp2_with fail
        refine HT.out.mono ?_
        rintro r w5 ⟨rfl, b5⟩
        have HB5 := Lib.hid (HB4.out.trans (b5.mono HB4.out.size))
        clear b5
        go_wp2_with fail
        go_ret
        exact ⟨rfl, HB5.out⟩
      · have h14' : ¬ (14 : Int) < i := by omega
        obtain ⟨e, he, hc⟩ := nest_ok (k := i) (by omega)
        obtain ⟨v3, rfl, hv3, b3⟩ := h3.ok he
        have HRT := Lib.hid (readF_right he)
        obtain ⟨mk, mv, mn, ms⟩ := e
        have HV3 := Lib.hid hv3
        obtain ⟨q4, c4, rfl⟩ := VE.form hv3
        have hb4 : Below w3.heap.size w3 (w3.alloc (.cells #[.int .i64 mk, .string (bstr mv), .string (bstr mn), .slice q4 ms.length c4] 25)) := (Below.refl _ _).alloc (Nat.le_refl _) _
        have HB4 := Lib.hid ((HB1.out.trans (b3.mono HB1.out.size)).trans (hb4.mono (Nat.le_trans HB1.out.size b3.size)))
        have HV4 := Lib.hid (HV3.out.later hb4)
        have HX4 : Hid (Arr (w3.alloc (.cells #[.int .i64 mk, .string (bstr mv), .string (bstr mn), .slice q4 ms.length c4] 25)) 25 w3.heap.size [.int .i64 mk, .string (bstr mv), .string (bstr mn), .slice q4 ms.length c4]) := Arr.new' _ _ _ _ rfl
        have HCM := Lib.hid (rcompare_any _ _ (.mk 1 [] [97] []) _ (.agg #[.int .i64 1, .string ⟨#[]⟩, .string ⟨#[97]⟩, .slice none 0 0]) _ (fun _ => False) (w3.alloc (.cells #[.int .i64 mk, .string (bstr mv), .string (bstr mn), .slice q4 ms.length c4] 25)) (Nat.le_refl _) (Nat.le_trans HRT.out.2.2 (by decide)) (by decide) HRT.out.2.1 (by simp [okE, okL]) HV4.out (by unfold RdE; exact ⟨none, 0, rfl, Nat.le_refl _, fun h => by simp at h⟩) (fun b hb => hb.2) (fun b hb => hb.elim))
        rw [hc] at HCM
        clear h3 b3 hb4 HP h14 he hc hv3
        have x0 := HX4.out.cell 0
        have y0 := HX4.out.free 0
        have x1 := HX4.out.cell 1
        have y1 := HX4.out.free 1
        have x2 := HX4.out.cell 2
        have y2 := HX4.out.free 2
        have x3 := HX4.out.cell 3
        have y3 := HX4.out.free 3
        simp only [List.getElem?_cons_zero, List.getElem?_cons_succ] at x0 x1 x2 x3
        go_wp2_with fail
        refine HCM.out.mono ?_
        rintro r w5 ⟨rfl, b5⟩
        have HB5 := Lib.hid (HB4.out.trans (b5.mono HB4.out.size))
        clear b5
        go_wp2_with fail
        go_ret
        exact ⟨rfl, HB5.out⟩
end Go.Proofs.YteieimchleioaaaDoor
