/-
  vestryref10.Compare.
-/
import Derived.Test.YtdnmgemjhpkekaaGreatDoorMk0
import Derived.Test.YtdnmgemjhpkekaaGreatDoorOrd
import Derived.StillTailTactics
import Derived.Test.YtdnmgemjhpkekaaGreatDoorStepC
import Derived.Test.YtdnmgemjhpkekaaGreatDoorNameB
import Derived.Test.YtdnmgemjhpkekaaGreatDoorNameR
namespace Go.Proofs.YtdnmgemjhpkekaaGreatDoor
open Go.ChangeShapes Go.WideShapes Go.ChangeAt Go.RowKit
set_option linter.unusedVariables false

theorem cmpE_lt {k k2 : Int} {v n v2 n2 : List UInt8} {ks ls : List Ex} (h : k < k2) : cmpE (.mk k v n ks) (.mk k2 v2 n2 ls) = -1 := by
 unfold cmpE
 simp [orL, Ex.kind, Lib.compareInt, h]
theorem cmpE_gt {k k2 : Int} {v n v2 n2 : List UInt8} {ks ls : List Ex} (h : k2 < k) : cmpE (.mk k v n ks) (.mk k2 v2 n2 ls) = 1 := by
 unfold cmpE
 have h2 : ¬ k < k2 := by omega
 simp [orL, Ex.kind, Lib.compareInt, h, h2]
theorem cmpE_via {k : Int} {v n v2 n2 : List UInt8} {ks ls : List Ex} (h : Lib.compareBytes v v2 ≠ 0) : cmpE (.mk k v n ks) (.mk k v2 n2 ls) = Lib.compareBytes v v2 := by
 unfold cmpE
 simp [orL, Ex.kind, Ex.via, Lib.compareInt, h]
theorem cmpE_nm {k : Int} {v n v2 n2 : List UInt8} {ks ls : List Ex} (h1 : Lib.compareBytes v v2 = 0) (h : Lib.compareBytes n n2 ≠ 0) : cmpE (.mk k v n ks) (.mk k v2 n2 ls) = Lib.compareBytes n n2 := by
 unfold cmpE
 simp [orL, Ex.kind, Ex.via, Ex.nm, Lib.compareInt, h, h1]
theorem cmpE_kids {k : Int} {v n v2 n2 : List UInt8} {ks ls : List Ex} (h1 : Lib.compareBytes v v2 = 0) (h : Lib.compareBytes n n2 = 0) : cmpE (.mk k v n ks) (.mk k v2 n2 ls) = cmpL ks ls := by
 rw [cmpE, show Lib.compareInt k (Ex.mk k v2 n2 ls).kind = 0 by simp [Ex.kind, Lib.compareInt]]
 simp only [orL, Ex.via, Ex.nm, Ex.kids, h1, h, if_true]
 by_cases h3 : cmpL ks ls = 0 <;> simp [h3]
theorem cmpL_end {ks ls : List Ex} {i : Nat} (h1 : i ≤ ks.length) (h2 : i ≤ ls.length) (h : ¬ (i < ks.length ∧ i < ls.length)) : cmpL (ks.drop i) (ls.drop i) = if ks.length < ls.length then -1 else if ls.length < ks.length then 1 else 0 := by
 by_cases h3 : i < ks.length
 ·rw [List.drop_eq_getElem_cons h3, show ls.drop i = [] from List.drop_eq_nil_of_le (by omega), if_neg (by omega), if_pos (by omega)]
  unfold cmpL; rfl
 ·rw [show ks.drop i = [] from List.drop_eq_nil_of_le (by omega)]
  by_cases h4 : i < ls.length
  ·rw [List.drop_eq_getElem_cons h4, if_pos (by omega)]
   unfold cmpL; rfl
  ·rw [show ls.drop i = [] from List.drop_eq_nil_of_le (by omega), if_neg (by omega), if_neg (by omega)]
   unfold cmpL; rfl

set_option maxRecDepth 100000 in
set_option maxHeartbeats 8000000 in
theorem rcompare_any : ∀ (n : Nat) (x y : Ex) (vx vy : Value) (P Q : Nat → Prop) (w : World), sizeE x ≤ n → sizeE x ≤ 900000 → sizeE y ≤ 900000 → okE 100000 x → okE 100000 y → RdE P w x vx → RdE Q w y vy → (∀ b, P b → b < w.heap.size) → (∀ b, Q b → b < w.heap.size) → Calls Tryz.prog 20 #[vx, vy] w fun r w' => r = .returned (.int .i64 (cmpE x y)) ∧ Below w.heap.size w w' := by
 intro n
 induction n with
 | zero => intro x y vx vy P Q w h; have := sizeE_pos x; omega
 | succ n ih =>
  intro x y vx vy P Q w hx hxm hy hox hoy h1 h2 hP hQ
  obtain ⟨q, c, rfl, _, hk⟩ := h1.form
  obtain ⟨q2, c2, rfl, _, hl⟩ := h2.form
  obtain ⟨k, xv, xn, ks⟩ := x
  obtain ⟨k2, yv, yn, ls⟩ := y
  unfold exv
  show Calls _ _ #[.agg #[.int .i64 k, .string (bstr xv), .string (bstr xn), .slice q ks.length c], .agg #[.int .i64 k2, .string (bstr yv), .string (bstr yn), .slice q2 ls.length c2]] _ _
  have hks : sizeL ks ≤ n := by unfold sizeE at hx; omega
  have hkm : sizeL ks ≤ 900000 := by unfold sizeE at hxm; omega
  have hls : sizeL ls ≤ 900000 := by unfold sizeE at hy; omega
  have hlen := sizeL_len ks
  have hlen2 := sizeL_len ls
  unfold okE at hox hoy
  have HOK := hiD hox.2.2
  have HOL := hiD hoy.2.2
  have HOV : Hid (∀ W, Calls Tryz.prog 44 #[.string (bstr xv), .string (bstr yv)] W fun e w' => e = .returned (.int .i64 (Lib.compareBytes xv yv)) ∧ Below W.heap.size W w') := fun W => order_any (bstr xv) (bstr yv) (by rw [bstr_size]; omega) (by rw [bstr_size]; omega) W
  have HON : Hid (∀ W, Calls Tryz.prog 44 #[.string (bstr xn), .string (bstr yn)] W fun e w' => e = .returned (.int .i64 (Lib.compareBytes xn yn)) ∧ Below W.heap.size W w') := fun W => order_any (bstr xn) (bstr yn) (by rw [bstr_size]; omega) (by rw [bstr_size]; omega) W
  have hb : Below w.heap.size w ((w.alloc (.cells #[.int .i64 k, .string (bstr xv), .string (bstr xn), .slice q ks.length c] 42)).alloc (.cells #[.int .i64 k2, .string (bstr yv), .string (bstr yn), .slice q2 ls.length c2] 42)) := ((Below.refl _ _).alloc (Nat.le_refl _) _).alloc (by simp) _
  have ha1 : Arr ((w.alloc (.cells #[.int .i64 k, .string (bstr xv), .string (bstr xn), .slice q ks.length c] 42)).alloc (.cells #[.int .i64 k2, .string (bstr yv), .string (bstr yn), .slice q2 ls.length c2] 42)) 42 w.heap.size [.int .i64 k, .string (bstr xv), .string (bstr xn), .slice q ks.length c] := (Arr.new' w _ _ _ rfl).alloc _
  have ha2 : Arr ((w.alloc (.cells #[.int .i64 k, .string (bstr xv), .string (bstr xn), .slice q ks.length c] 42)).alloc (.cells #[.int .i64 k2, .string (bstr yv), .string (bstr yn), .slice q2 ls.length c2] 42)) 42 (w.heap.size + 1) [.int .i64 k2, .string (bstr yv), .string (bstr yn), .slice q2 ls.length c2] := Arr.new2 w _ _ _ _ rfl
  have HB := hiD hb
  have HA1 := hiD ha1
  have HA2 := hiD ha2
  have HIH := hiD ih
  have HP := hiD hP
  have HQ := hiD hQ
  have HK : Hid (0 < ks.length → ∃ b o, q = some ⟨b, o, none⟩ ∧ P b ∧ RdL P w ks b o) := hk
  have HL : Hid (0 < ls.length → ∃ b o, q2 = some ⟨b, o, none⟩ ∧ Q b ∧ RdL Q w ls b o) := hl
  clear h1 h2 hk hl hx hy hxm hb ha1 ha2 ih hox hoy hP hQ
  by_cases hlt : k < k2
  ·have HE : Hid (cmpE (.mk k xv xn ks) (.mk k2 yv yn ls) = -1) := cmpE_lt hlt
   go_enter Tryz.func20, Tryz.ntmps20
   go_wp2_with fail
   go_ret
   exact ⟨by rw [HE.out]; rfl, HB.out⟩
  by_cases hgt : k2 < k
  ·have HE : Hid (cmpE (.mk k xv xn ks) (.mk k2 yv yn ls) = 1) := cmpE_gt hgt
   go_enter Tryz.func20, Tryz.ntmps20
   go_wp2_with fail
   go_ret
   exact ⟨by rw [HE.out]; rfl, HB.out⟩
  obtain rfl : k = k2 := by omega
  have HEV : Hid (Lib.compareBytes xv yv ≠ 0 → cmpE (.mk k xv xn ks) (.mk k yv yn ls) = Lib.compareBytes xv yv) := cmpE_via
  have HEN : Hid (Lib.compareBytes xv yv = 0 → Lib.compareBytes xn yn ≠ 0 → cmpE (.mk k xv xn ks) (.mk k yv yn ls) = Lib.compareBytes xn yn) := cmpE_nm
  have HEK : Hid (Lib.compareBytes xv yv = 0 → Lib.compareBytes xn yn = 0 → cmpE (.mk k xv xn ks) (.mk k yv yn ls) = cmpL ks ls) := cmpE_kids
  obtain ⟨A, hA⟩ : ∃ A, A = Lib.compareBytes xv yv := ⟨_, rfl⟩
  obtain ⟨B, hB⟩ : ∃ B, B = Lib.compareBytes xn yn := ⟨_, rfl⟩
  rw [← hA] at HOV HEV HEN HEK
  rw [← hB] at HON HEN HEK
  obtain ⟨CE, hCE⟩ : ∃ E, E = cmpE (.mk k xv xn ks) (.mk k yv yn ls) := ⟨_, rfl⟩
  rw [← hCE] at HEV HEN HEK ⊢
  clear hA hB hCE hlt hgt
  have hself : ¬ k < k := by omega
  go_enter Tryz.func20, Tryz.ntmps20
  go_wp2_with fail
  refine (HOV.out _).mono ?_
  rintro r w1 ⟨rfl, b1⟩
  have HA11 := hiD (HA1.out.later b1)
  have HA21 := hiD (HA2.out.later b1)
  have HB1 := hiD (HB.out.trans (b1.mono HB.out.size))
  clear b1 HA1 HA2 HB
  have a1 := HA11.out.cell 1
  have a2 := HA11.out.cell 2
  have e1 := HA21.out.cell 1
  have e2 := HA21.out.cell 2
  simp only [List.getElem?_cons_zero, List.getElem?_cons_succ] at a1 a2 e1 e2
  by_cases hz : A = 0
  case neg =>
   have bz : (A != 0) = true := by rw [bne_iff_ne]; exact hz
   have HE2 := hiD (HEV.out hz)
   clear hz
   go_wp2_with fail
   refine (HOV.out _).mono ?_
   rintro r w2 ⟨rfl, b2⟩
   have HB2 := hiD (HB1.out.trans (b2.mono HB1.out.size))
   clear b2
   go_wp2_with fail
   go_ret
   exact ⟨by rw [HE2.out]; rfl, HB2.out⟩
  have bz : (A != 0) = false := by rw [hz]; rfl
  have HEN2 := hiD (HEN.out hz)
  have HEK2 := hiD (HEK.out hz)
  clear hz
  go_wp2_with fail
  refine (HON.out _).mono ?_
  rintro r w2 ⟨rfl, b2⟩
  have HA12 := hiD (HA11.out.later b2)
  have HA22 := hiD (HA21.out.later b2)
  have HB2 := hiD (HB1.out.trans (b2.mono HB1.out.size))
  clear b2 a1 a2 e1 e2 HA11 HA21 HB1
  have a2 := HA12.out.cell 2
  have e2 := HA22.out.cell 2
  simp only [List.getElem?_cons_zero, List.getElem?_cons_succ] at a2 e2
  by_cases hz : B = 0
  case neg =>
   have bz2 : (B != 0) = true := by rw [bne_iff_ne]; exact hz
   have HE2 := hiD (HEN2.out hz)
   clear hz
   go_wp2_with fail
   refine (HON.out _).mono ?_
   rintro r w3 ⟨rfl, b3⟩
   have HB3 := hiD (HB2.out.trans (b3.mono HB2.out.size))
   clear b3
   go_wp2_with fail
   go_ret
   exact ⟨by rw [HE2.out]; rfl, HB3.out⟩
  have bz2 : (B != 0) = false := by rw [hz]; rfl
  have HE2 := hiD (HEK2.out hz)
  clear hz a2 e2 HEV HEN HEK HEN2 HEK2 HOV HON
  go_wp2_with fail
  go_loopw [5] (fun iv wr => ∃ i : Nat, i ≤ ks.length ∧ i ≤ ls.length ∧ iv = .int .i64 i ∧ Hid (cmpL ks ls = cmpL (ks.drop i) (ls.drop i)) ∧ Hid (Below w.heap.size w wr ∧ Arr wr 42 w.heap.size [.int .i64 k, .string (bstr xv), .string (bstr xn), .slice q ks.length c] ∧ Arr wr 42 (w.heap.size + 1) [.int .i64 k, .string (bstr yv), .string (bstr yn), .slice q2 ls.length c2])) (fun iv _ => ks.length - (intOf iv).toNat)
  case atStart => exact ⟨0, Nat.zero_le _, Nat.zero_le _, rfl, rfl, HB2.out, HA12.out, HA22.out⟩
  case round =>
   obtain ⟨i, hi, hi2, rfl, HD, HI2⟩ := hrel
   have HI := hiD HI2.out.1
   have HAI := hiD HI2.out.2.1
   have HAJ := hiD HI2.out.2.2
   clear HI2 HB2 HA12 HA22
   have hi0 : (0 : Int) ≤ i := by omega
   have a3 := HAI.out.cell 3
   have e3 := HAJ.out.cell 3
   simp only [List.getElem?_cons_zero, List.getElem?_cons_succ] at a3 e3
   by_cases hboth : i < ks.length ∧ i < ls.length
   ·obtain ⟨hlt, hlt2⟩ := hboth
    have hi1 : (i : Int) < ks.length := by omega
    have hi3 : (i : Int) < ls.length := by omega
    have HST := hiD (cmpL_step hlt hlt2)
    have hP := HP.out
    obtain ⟨ba, oa, rfl, hba, hl⟩ := HK.out (by omega)
    obtain ⟨x, hx⟩ : ∃ x, x = ks.getD i ex0 := ⟨_, rfl⟩
    obtain ⟨q2a, c2a, x0, x1, x2, x3, hr⟩ := hl.at hlt
    have hxs := sizeL_get ks i hlt
    have hxd := depthL_get ks i hlt
    rw [← hx] at x0 x1 x2 x3 hr hxs hxd
    have HX := hiD hx
    obtain ⟨xk, xv2, xn2, xs⟩ := x
    have cc : ∀ n, wr.cell? ⟨ba, n, none⟩ = w.cell? ⟨ba, n, none⟩ := fun n => (HI.out).cell (p := ⟨ba, n, none⟩) (hP _ hba)
    have X0 : wr.cell? ⟨ba, oa + i * 4, none⟩ = some (.int .i64 xk) := (cc _).trans x0
    have X1 : wr.cell? ⟨ba, oa + i * 4 + 1, none⟩ = some (.string (bstr xv2)) := (cc _).trans x1
    have X2 : wr.cell? ⟨ba, oa + i * 4 + 2, none⟩ = some (.string (bstr xn2)) := (cc _).trans x2
    have X3 : wr.cell? ⟨ba, oa + i * 4 + 3, none⟩ = some (.slice q2a xs.length c2a) := (cc _).trans x3
    clear x0 x1 x2 x3 cc hx
    have hQ := HQ.out
    obtain ⟨bab, oab, rfl, hbab, hlb⟩ := HL.out (by omega)
    obtain ⟨x, hx⟩ : ∃ x, x = ls.getD i ex0 := ⟨_, rfl⟩
    obtain ⟨q2b, c2b, x0, x1, x2, x3, hrb⟩ := hlb.at hlt2
    have hxsb := sizeL_get ls i hlt2
    have hxdb := depthL_get ls i hlt2
    rw [← hx] at x0 x1 x2 x3 hrb hxsb hxdb
    have HXb := hiD hx
    obtain ⟨xkb, xv2b, xn2b, xsb⟩ := x
    have cc : ∀ n, wr.cell? ⟨bab, n, none⟩ = w.cell? ⟨bab, n, none⟩ := fun n => (HI.out).cell (p := ⟨bab, n, none⟩) (hQ _ hbab)
    have X0b : wr.cell? ⟨bab, oab + i * 4, none⟩ = some (.int .i64 xkb) := (cc _).trans x0
    have X1b : wr.cell? ⟨bab, oab + i * 4 + 1, none⟩ = some (.string (bstr xv2b)) := (cc _).trans x1
    have X2b : wr.cell? ⟨bab, oab + i * 4 + 2, none⟩ = some (.string (bstr xn2b)) := (cc _).trans x2
    have X3b : wr.cell? ⟨bab, oab + i * 4 + 3, none⟩ = some (.slice q2b xsb.length c2b) := (cc _).trans x3
    clear x0 x1 x2 x3 cc hx
    have HR : Hid (RdE P wr (.mk xk xv2 xn2 xs) (.agg #[.int .i64 xk, .string (bstr xv2), .string (bstr xn2), .slice q2a xs.length c2a])) := hr.below HI.out hP
    have HR2 : Hid (RdE Q wr (.mk xkb xv2b xn2b xsb) (.agg #[.int .i64 xkb, .string (bstr xv2b), .string (bstr xn2b), .slice q2b xsb.length c2b])) := hrb.below HI.out hQ
    have HC : Hid (∀ W, Below wr.heap.size wr W → Calls Tryz.prog 20 #[.agg #[.int .i64 xk, .string (bstr xv2), .string (bstr xn2), .slice q2a xs.length c2a], .agg #[.int .i64 xkb, .string (bstr xv2b), .string (bstr xn2b), .slice q2b xsb.length c2b]] W fun r w' => r = .returned (.int .i64 (cmpE (.mk xk xv2 xn2 xs) (.mk xkb xv2b xn2b xsb))) ∧ Below W.heap.size W w') :=
     fun W hW => HIH.out (.mk xk xv2 xn2 xs) (.mk xkb xv2b xn2b xsb) _ _ P Q W (by omega) (by omega) (by omega) (HX.out ▸ okL_get HOK.out hlt) (HXb.out ▸ okL_get HOL.out hlt2) (HR.out.below hW (fun b hb => Nat.lt_of_lt_of_le (hP b hb) HI.out.size)) (HR2.out.below hW (fun b hb => Nat.lt_of_lt_of_le (hQ b hb) HI.out.size)) (fun b hb => Nat.lt_of_lt_of_le (hP b hb) (Nat.le_trans HI.out.size hW.size)) (fun b hb => Nat.lt_of_lt_of_le (hQ b hb) (Nat.le_trans HI.out.size hW.size))
    rw [← HX.out, ← HXb.out, orL2] at HST
    obtain ⟨E, hE⟩ : ∃ E, E = cmpE (.mk xk xv2 xn2 xs) (.mk xkb xv2b xn2b xsb) := ⟨_, rfl⟩
    rw [← hE] at HC HST
    clear hl hr hxs hxd hba hP hE hlb hrb hxsb hxdb hbab hQ
    go_upto_region 12 with (fail)
    refine wp_region_still_tail 10 (by kernel_rfl) (by kernel_rfl) ?_
    simp only [List.take_succ_cons, List.take_zero, List.drop_succ_cons, List.drop_zero]
    repeat still_step
    refine wpStill_nil ?_
    change wpList _ _ _ _ _ wr.drew
    have HBd : Hid (Below wr.heap.size wr wr.drew) := (Below.refl _ _).drew
    have HCd := hiD (HC.out _ HBd.out)
    have HId := hiD (HI.out.trans (HBd.out.mono HI.out.size))
    have HAd := hiD (HAI.out.later HBd.out)
    have HAe := hiD (HAJ.out.later HBd.out)
    clear a3 e3 X0 X1 X2 X3 X0b X1b X2b X3b HC HAI HAJ HR HR2 HI
    generalize wr.drew = wd at HBd HCd HId HAd HAe ⊢
    go_wp2_with fail
    refine HCd.out.mono ?_
    rintro r w5 ⟨rfl, b5⟩
    have HB5 := hiD (HId.out.trans (b5.mono HId.out.size))
    have HA5 := hiD (HAd.out.later b5)
    have HA6 := hiD (HAe.out.later b5)
    clear b5
    by_cases hz : E = 0
    ·have bz5 : (E != 0) = false := by rw [hz]; rfl
     have HST2 : Hid (cmpL ks ls = cmpL (ks.drop (i + 1)) (ls.drop (i + 1))) := by show _ = _; rw [HD.out, HST.out, if_pos hz]
     clear hz
     go_wp2_with fail
     go_roundw
     case rel => exact ⟨i + 1, by omega, by omega, by go_num, HST2.out, HB5.out, HA5.out, HA6.out⟩
     case measure => simp [intOf]; omega
    ·have bz5 : (E != 0) = true := by rw [bne_iff_ne]; exact hz
     have HST2 : Hid (cmpL ks ls = E) := by show _ = _; rw [HD.out, HST.out, if_neg hz]
     clear hz
     go_wp2_with fail
     go_ret
     exact ⟨by rw [HE2.out, HST2.out]; rfl, HB5.out⟩
   ·have HEN := hiD (cmpL_end hi hi2 hboth)
    by_cases hlt : i < ks.length
    ·have hi1 : (i : Int) < ks.length := by omega
     have hi3 : ¬ (i : Int) < ls.length := by omega
     have h4 : ¬ (ks.length : Int) < ls.length := by omega
     have h5 : (ls.length : Int) < ks.length := by omega
     have HRS : Hid (CE = 1) := by show _ = _; rw [HE2.out, HD.out, HEN.out, if_neg (by omega), if_pos (by omega)]
     clear hboth
     go_wp2_with fail
     go_ret
     exact ⟨by rw [HRS.out]; rfl, HI.out⟩
    ·have hi1 : ¬ (i : Int) < ks.length := by omega
     by_cases hl2 : ks.length < ls.length
     ·have h4 : (ks.length : Int) < ls.length := by omega
      have HRS : Hid (CE = -1) := by show _ = _; rw [HE2.out, HD.out, HEN.out, if_pos hl2]
      clear hboth
      go_wp2_with fail
      go_ret
      exact ⟨by rw [HRS.out]; rfl, HI.out⟩
     ·have h4 : ¬ (ks.length : Int) < ls.length := by omega
      have h5 : ¬ (ls.length : Int) < ks.length := by omega
      have HRS : Hid (CE = 0) := by show _ = _; rw [HE2.out, HD.out, HEN.out, if_neg hl2, if_neg (by omega)]
      clear hboth
      go_wp2_with fail
      go_ret
      exact ⟨by rw [HRS.out]; rfl, HI.out⟩
def T3 (x : Int) : Prop := x = -1 ∨ x = 0 ∨ x = 1
theorem ci_three (a b : Int) : T3 (Lib.compareInt a b) := by
 unfold T3 Lib.compareInt
 by_cases h : a < b
 ·simp [h]
 ·by_cases h2 : b < a
  ·simp [h, h2]
  ·have : a = b := by omega
   simp [this]
theorem ci_flip (a b : Int) : Lib.compareInt b a = - Lib.compareInt a b := by
 unfold Lib.compareInt
 by_cases h : a < b
 ·have h2 : ¬ b < a := by omega
  simp [h, h2]
 ·by_cases h2 : b < a
  ·simp [h, h2]
  ·have : a = b := by omega
   simp [this]
theorem orL_three : ∀ (l : List Int), (∀ x ∈ l, T3 x) → T3 (orL l)
 | [], _ => .inr (.inl rfl)
 | x :: r, h => by
  have hr := orL_three r fun y hy => h y (List.mem_cons_of_mem _ hy)
  have hx := h x (List.mem_cons_self)
  unfold orL
  split <;> assumption
theorem orL_flip : ∀ (l : List Int), orL (l.map fun x => -x) = - orL l
 | [] => rfl
 | x :: r => by
  have hr := orL_flip r
  simp only [List.map_cons]
  unfold orL
  by_cases h : x = 0
  ·simp [h, hr]
  ·have h2 : ¬ -x = 0 := by omega
   simp [h]
mutual
theorem cmpE_three : ∀ a b : Ex, T3 (cmpE a b)
 | .mk k v n ks, .mk k2 v2 n2 ls => by
  have := cmpL_three ks ls
  unfold cmpE
  refine orL_three _ fun x hx => ?_
  simp only [List.mem_cons, List.not_mem_nil, or_false] at hx
  rcases hx with rfl | rfl | rfl | rfl
  ·exact ci_three _ _
  ·exact cb_three _ _
  ·exact cb_three _ _
  ·exact this
theorem cmpL_three : ∀ a b : List Ex, T3 (cmpL a b)
 | [], [] => .inr (.inl (by unfold cmpL; rfl))
 | [], _ :: _ => .inl (by unfold cmpL; rfl)
 | _ :: _, [] => .inr (.inr (by unfold cmpL; rfl))
 | a :: r, b :: s => by
  have h1 := cmpE_three a b
  have h2 := cmpL_three r s
  unfold cmpL
  refine orL_three _ fun x hx => ?_
  simp only [List.mem_cons, List.not_mem_nil, or_false] at hx
  rcases hx with rfl | rfl
  ·exact h1
  ·exact h2
end
mutual
theorem cmpE_flip : ∀ a b : Ex, cmpE b a = - cmpE a b
 | .mk k v n ks, .mk k2 v2 n2 ls => by
  have h := cmpL_flip ks ls
  unfold cmpE
  simp only [Ex.kind, Ex.via, Ex.nm, Ex.kids]
  rw [ci_flip k k2, cb_flip v v2, cb_flip n n2, h, ← orL_flip]; rfl
theorem cmpL_flip : ∀ a b : List Ex, cmpL b a = - cmpL a b
 | [], [] => by unfold cmpL; rfl
 | [], _ :: _ => by unfold cmpL; rfl
 | _ :: _, [] => by unfold cmpL; rfl
 | a :: r, b :: s => by
  have h1 := cmpE_flip a b
  have h2 := cmpL_flip r s
  unfold cmpL
  rw [h1, h2, ← orL_flip]; rfl
end
mutual
theorem cmpE_self : ∀ a : Ex, cmpE a a = 0
 | .mk k v n ks => by
  rw [cmpE_kids (cb_self v) (cb_self n)]
  exact cmpL_self ks
theorem cmpL_self : ∀ a : List Ex, cmpL a a = 0
 | [] => by unfold cmpL; rfl
 | a :: r => by
  have h1 := cmpE_self a
  have h2 := cmpL_self r
  unfold cmpL
  rw [h1, h2]; rfl
end
theorem cmp_cases (k k2 : Int) (v n v2 n2 : List UInt8) (ks ls : List Ex) :
  (k < k2 ∧ cmpE (.mk k v n ks) (.mk k2 v2 n2 ls) = -1) ∨ (k2 < k ∧ cmpE (.mk k v n ks) (.mk k2 v2 n2 ls) = 1) ∨
  (k = k2 ∧ Lib.compareBytes v v2 ≠ 0 ∧ cmpE (.mk k v n ks) (.mk k2 v2 n2 ls) = Lib.compareBytes v v2) ∨
  (k = k2 ∧ v = v2 ∧ Lib.compareBytes n n2 ≠ 0 ∧ cmpE (.mk k v n ks) (.mk k2 v2 n2 ls) = Lib.compareBytes n n2) ∨
  (k = k2 ∧ v = v2 ∧ n = n2 ∧ cmpE (.mk k v n ks) (.mk k2 v2 n2 ls) = cmpL ks ls) := by
 by_cases h1 : k < k2
 ·exact .inl ⟨h1, cmpE_lt h1⟩
 by_cases h2 : k2 < k
 ·exact .inr (.inl ⟨h2, cmpE_gt h2⟩)
 obtain rfl : k = k2 := by omega
 by_cases h3 : Lib.compareBytes v v2 = 0
 ·by_cases h4 : Lib.compareBytes n n2 = 0
  ·exact .inr (.inr (.inr (.inr ⟨rfl, cb_eq _ _ h3, cb_eq _ _ h4, cmpE_kids h3 h4⟩)))
  ·exact .inr (.inr (.inr (.inl ⟨rfl, cb_eq _ _ h3, h4, cmpE_nm h3 h4⟩)))
 ·exact .inr (.inr (.inl ⟨rfl, h3, cmpE_via h3⟩))
mutual
theorem cmpE_eq : ∀ {a b : Ex}, cmpE a b = 0 → a = b
 | .mk k v n ks, .mk k2 v2 n2 ls, h => by
  have hl := @cmpL_eq ks ls
  rcases cmp_cases k k2 v n v2 n2 ks ls with ⟨_, e⟩ | ⟨_, e⟩ | ⟨_, g, e⟩ | ⟨_, _, g, e⟩ | ⟨rfl, rfl, rfl, e⟩
  ·rw [e] at h; cases h
  ·rw [e] at h; cases h
  ·rw [e] at h; exact absurd h g
  ·rw [e] at h; exact absurd h g
  ·rw [e] at h; rw [hl h]
theorem cmpL_eq : ∀ {a b : List Ex}, cmpL a b = 0 → a = b
 | [], [], _ => rfl
 | [], _ :: _, h => by unfold cmpL at h; cases h
 | _ :: _, [], h => by unfold cmpL at h; cases h
 | a :: r, b :: s, h => by
  have h1 := @cmpE_eq a b
  have h2 := @cmpL_eq r s
  unfold cmpL at h
  rw [orL2] at h
  by_cases hz : cmpE a b = 0
  ·rw [if_pos hz] at h; rw [h1 hz, h2 h]
  ·rw [if_neg hz] at h; exact absurd h hz
end
mutual
theorem cmpE_up : ∀ {a b c : Ex}, cmpE a b < 0 → cmpE b c < 0 → cmpE a c < 0
 | .mk k v n ks, .mk k2 v2 n2 ls, .mk k3 v3 n3 ms, h1, h2 => by
  have hl := @cmpL_up ks ls ms
  rcases cmp_cases k k2 v n v2 n2 ks ls with ⟨g, e⟩ | ⟨_, e⟩ | ⟨rfl, g, e⟩ | ⟨rfl, rfl, g, e⟩ | ⟨rfl, rfl, rfl, e⟩
  ·rcases cmp_cases k2 k3 v2 n2 v3 n3 ls ms with ⟨g2, e2⟩ | ⟨_, e2⟩ | ⟨rfl, g2, e2⟩ | ⟨rfl, rfl, g2, e2⟩ | ⟨rfl, rfl, rfl, e2⟩
   ·rw [cmpE_lt (by omega)]; omega
   ·rw [e2] at h2; omega
   ·rw [cmpE_lt g]; omega
   ·rw [cmpE_lt g]; omega
   ·rw [cmpE_lt g]; omega
  ·rw [e] at h1; omega
  ·rw [e] at h1
   rcases cmp_cases k k3 v2 n2 v3 n3 ls ms with ⟨g2, e2⟩ | ⟨_, e2⟩ | ⟨rfl, g2, e2⟩ | ⟨rfl, rfl, g2, e2⟩ | ⟨rfl, rfl, rfl, e2⟩
   ·rw [cmpE_lt g2]; omega
   ·rw [e2] at h2; omega
   ·rw [e2] at h2
    have h3 := cb_up _ _ _ h1 h2
    rw [cmpE_via (by omega)]; exact h3
   ·rw [cmpE_via g]; exact h1
   ·rw [cmpE_via g]; exact h1
  ·rw [e] at h1
   rcases cmp_cases k k3 v n2 v3 n3 ls ms with ⟨g2, e2⟩ | ⟨_, e2⟩ | ⟨rfl, g2, e2⟩ | ⟨rfl, rfl, g2, e2⟩ | ⟨rfl, rfl, rfl, e2⟩
   ·rw [cmpE_lt g2]; omega
   ·rw [e2] at h2; omega
   ·rw [e2] at h2
    rw [cmpE_via g2]; exact h2
   ·rw [e2] at h2
    have h3 := cb_up _ _ _ h1 h2
    rw [cmpE_nm (cb_self _) (by omega)]; exact h3
   ·rw [cmpE_nm (cb_self _) g]; exact h1
  ·rw [e] at h1
   rcases cmp_cases k k3 v n v3 n3 ls ms with ⟨g2, e2⟩ | ⟨_, e2⟩ | ⟨rfl, g2, e2⟩ | ⟨rfl, rfl, g2, e2⟩ | ⟨rfl, rfl, rfl, e2⟩
   ·rw [cmpE_lt g2]; omega
   ·rw [e2] at h2; omega
   ·rw [e2] at h2
    rw [cmpE_via g2]; exact h2
   ·rw [e2] at h2
    rw [cmpE_nm (cb_self _) g2]; exact h2
   ·rw [e2] at h2
    rw [cmpE_kids (cb_self _) (cb_self _)]; exact hl h1 h2
theorem cmpL_up : ∀ {a b c : List Ex}, cmpL a b < 0 → cmpL b c < 0 → cmpL a c < 0
 | [], [], _, h1, _ => by unfold cmpL at h1; omega
 | [], _ :: _, [], _, h2 => by unfold cmpL at h2; omega
 | [], _ :: _, _ :: _, _, _ => by unfold cmpL; omega
 | _ :: _, [], _, h1, _ => by unfold cmpL at h1; omega
 | _ :: _, _ :: _, [], _, h2 => by unfold cmpL at h2; omega
 | a :: r, b :: s, c :: u, h1, h2 => by
  have he := @cmpE_up a b c
  have hr := @cmpL_up r s u
  have q1 := @cmpE_eq a b
  have q2 := @cmpE_eq b c
  unfold cmpL at h1 h2 ⊢
  rw [orL2] at h1 h2 ⊢
  by_cases z1 : cmpE a b = 0
  ·obtain rfl := q1 z1
   rw [if_pos z1] at h1
   by_cases z2 : cmpE a c = 0
   ·rw [if_pos z2] at h2 ⊢; exact hr h1 h2
   ·rw [if_neg z2] at h2 ⊢; exact h2
  ·rw [if_neg z1] at h1
   by_cases z2 : cmpE b c = 0
   ·obtain rfl := q2 z2
    rw [if_neg z1]; exact h1
   ·rw [if_neg z2] at h2
    have := he h1 h2
    rw [if_neg (by omega)]; exact this
end
theorem cmpE_le {a b c : Ex} (h1 : ¬ 0 < cmpE a b) (h2 : ¬ 0 < cmpE b c) : cmpE a c ≤ 0 := by
 by_cases z1 : cmpE a b = 0
 ·rw [cmpE_eq z1]; omega
 ·by_cases z2 : cmpE b c = 0
  ·rw [← cmpE_eq z2]; omega
  ·have := cmpE_up (a := a) (b := b) (c := c) (by omega) (by omega); omega
def AtC (w : World) (b o : Nat) (cs : List Value) : Prop := b < w.heap.size ∧ ∀ j u, cs[j]? = some u → w.cell? ⟨b, o + j, none⟩ = some u
theorem AtC.later {w w' : World} {b o : Nat} {cs : List Value} (h : AtC w b o cs) (hb : Below w.heap.size w w') : AtC w' b o cs := ⟨Nat.lt_of_lt_of_le h.1 hb.size, fun j u hj => (hb.cell (p := ⟨b, o + j, none⟩) h.1).trans (h.2 j u hj)⟩
theorem rdMem_form {P : Nat → Prop} {w : World} {n : List UInt8} {k : Int} {ls : List AlB} {mk : Int} {mv mn : List UInt8} {ms : List Ex} {cs : List Value} (h : rdMem P w (n, k, ls, .mk mk mv mn ms) cs) :
  ∃ qa ca q4 c4, cs = [.string (bstr n), .int .i64 k, .slice qa ls.length ca, .int .i64 mk, .string (bstr mv), .string (bstr mn), .slice q4 ms.length c4] ∧ RdA P w ls (.slice qa ls.length ca) ∧ RdE P w (.mk mk mv mn ms) (.agg #[.int .i64 mk, .string (bstr mv), .string (bstr mn), .slice q4 ms.length c4]) := by
 obtain ⟨vt, v3, v4, v5, v6, e, h1, h2⟩ := h
 obtain ⟨qa, ca, e1, hz1⟩ := id h1
 obtain ⟨q4, c4, e2, _, _⟩ := RdE.form h2
 unfold exv at e2
 dsimp only [Ex.kind, Ex.via, Ex.nm, Ex.kids] at e2
 simp only [Value.agg.injEq, Array.mk.injEq, List.cons.injEq, and_true] at e2
 obtain ⟨rfl, rfl, rfl, rfl⟩ := e2
 subst e1
 exact ⟨qa, ca, q4, c4, e, h1, h2⟩
def OkM (m : MemB) : Prop := okE 100000 m.2.2.2 ∧ sizeE m.2.2.2 ≤ 900000 ∧ m.2.2.1.length ≤ 100000
def OkD (d : DefB) : Prop := d.2.length ≤ 100000 ∧ ∀ m ∈ d.2, OkM m
def OkS (l : List DefB) : Prop := l.length ≤ 100000 ∧ ∀ d ∈ l, OkD d
theorem GoodM.ok {m : MemB} (h : GoodM m) : OkM m := by
 rcases h.2 with ⟨_, _, h1, _, h2⟩ | ⟨_, h1, h2, h3, h4⟩
 ·exact ⟨by rw [h2]; simp [ex0, okE, okL], by rw [h2]; decide, by omega⟩
 ·exact ⟨okE_le (by decide) _ h3, by omega, by rw [h1]; decide⟩
theorem GoodD.ok {d : DefB} (h : GoodD d) : OkD d := ⟨by have := h.2.1; omega, fun m hm => (h.2.2 m hm).ok⟩
theorem GoodS.ok {l : List DefB} (h : GoodS l) : OkS l := ⟨by have := h.1; omega, fun m hm => (h.2 m hm).ok⟩
set_option maxRecDepth 100000 in
set_option maxHeartbeats 4000000 in
theorem sameM_any (x : MemB) (cs ds : List Value) (P Q : Nat → Prop) (w : World) (h1 : rdMem P w x cs) (h2 : rdMem Q w x ds) (hP : ∀ b, P b → b < w.heap.size) (hQ : ∀ b, Q b → b < w.heap.size) (hg : OkM x) :
  Calls Tryz.prog 57 #[.agg cs.toArray, .agg ds.toArray] w fun e w' => e = .returned (.bool true) ∧ Below w.heap.size w w' := by
 obtain ⟨n, k, ls, mk, mv, mn, ms⟩ := x
 obtain ⟨qa, ca, q4, c4, rfl, h3, h4⟩ := rdMem_form h1
 obtain ⟨qb, cb, q5, c5, rfl, h5, h6⟩ := rdMem_form h2
 obtain ⟨g1, g2, g3⟩ := hg
 have H1 := hiD h3
 have H2 := hiD h5
 have HP := hiD hP
 have HQ := hiD hQ
 have hz : (ls.length : Int) ≤ 100000 := by have : ls.length ≤ 100000 := g3; omega
 have hb0 : Below w.heap.size w ((w.alloc (.cells #[.string (bstr n), .int .i64 k, .slice qa ls.length ca, .int .i64 mk, .string (bstr mv), .string (bstr mn), .slice q4 ms.length c4] 66)).alloc (.cells #[.string (bstr n), .int .i64 k, .slice qb ls.length cb, .int .i64 mk, .string (bstr mv), .string (bstr mn), .slice q5 ms.length c5] 66)) := ((Below.refl _ _).alloc (Nat.le_refl _) _).alloc (by simp) _
 have HB := hiD hb0
 have HA : Hid (Arr ((w.alloc (.cells #[.string (bstr n), .int .i64 k, .slice qa ls.length ca, .int .i64 mk, .string (bstr mv), .string (bstr mn), .slice q4 ms.length c4] 66)).alloc (.cells #[.string (bstr n), .int .i64 k, .slice qb ls.length cb, .int .i64 mk, .string (bstr mv), .string (bstr mn), .slice q5 ms.length c5] 66)) 66 w.heap.size [.string (bstr n), .int .i64 k, .slice qa ls.length ca, .int .i64 mk, .string (bstr mv), .string (bstr mn), .slice q4 ms.length c4]) := (Arr.new' _ _ _ _ rfl).alloc _
 have HBb : Hid (Arr ((w.alloc (.cells #[.string (bstr n), .int .i64 k, .slice qa ls.length ca, .int .i64 mk, .string (bstr mv), .string (bstr mn), .slice q4 ms.length c4] 66)).alloc (.cells #[.string (bstr n), .int .i64 k, .slice qb ls.length cb, .int .i64 mk, .string (bstr mv), .string (bstr mn), .slice q5 ms.length c5] 66)) 66 (w.heap.size + 1) [.string (bstr n), .int .i64 k, .slice qb ls.length cb, .int .i64 mk, .string (bstr mv), .string (bstr mn), .slice q5 ms.length c5]) := Arr.new2 _ _ _ _ _ rfl
 have HCM := hiD (rcompare_any _ (.mk mk mv mn ms) (.mk mk mv mn ms) _ _ P Q ((w.alloc (.cells #[.string (bstr n), .int .i64 k, .slice qa ls.length ca, .int .i64 mk, .string (bstr mv), .string (bstr mn), .slice q4 ms.length c4] 66)).alloc (.cells #[.string (bstr n), .int .i64 k, .slice qb ls.length cb, .int .i64 mk, .string (bstr mv), .string (bstr mn), .slice q5 ms.length c5] 66)) (Nat.le_refl _) g2 g2 g1 g1 (h4.keep fun b hb n => hb0.cell (p := ⟨b, n, none⟩) (hP b hb)) (h6.keep fun b hb n => hb0.cell (p := ⟨b, n, none⟩) (hQ b hb)) (fun b hb => Nat.lt_of_lt_of_le (hP b hb) hb0.size) (fun b hb => Nat.lt_of_lt_of_le (hQ b hb) hb0.size))
 rw [cmpE_self] at HCM
 clear h1 h2 h3 h4 h5 h6 g1 g2 g3 hP hQ hb0
 go_enter Tryz.func57, Tryz.ntmps57
 go_upto_region 1 with (fail)
 generalize ((w.alloc (.cells #[.string (bstr n), .int .i64 k, .slice qa ls.length ca, .int .i64 mk, .string (bstr mv), .string (bstr mn), .slice q4 ms.length c4] 66)).alloc (.cells #[.string (bstr n), .int .i64 k, .slice qb ls.length cb, .int .i64 mk, .string (bstr mv), .string (bstr mn), .slice q5 ms.length c5] 66)) = w1 at HA HBb HB HCM ⊢
 obtain ⟨tn, htn⟩ : ∃ t, t = bstr n := ⟨_, rfl⟩
 rw [← htn] at HA HBb
 clear htn
 obtain ⟨ea0, eb0, ea1, eb1, ea2, eb2, ea3, eb3, ea4, eb4, ea5, eb5, ea6, eb6⟩ := HA.out.all7
 obtain ⟨na0, nz0, na1, nz1, na2, nz2, na3, nz3, na4, nz4, na5, nz5, na6, nz6⟩ := HBb.out.all7
 go_wp2_with fail
 refine HCM.out.mono ?_
 rintro r w2 ⟨rfl, b1⟩
 clear ea0 eb0 ea1 eb1 ea2 eb2 ea3 eb3 ea4 eb4 ea5 eb5 ea6 eb6
 clear na0 nz0 na1 nz1 na2 nz2 na3 nz3 na4 nz4 na5 nz5 na6 nz6
 have HA := hiD (HA.out.later b1)
 have HBb := hiD (HBb.out.later b1)
 have HB := hiD (HB.out.trans (b1.mono HB.out.size))
 clear b1 HCM
 go_wp2_with fail
 go_loopw [5] (fun iv wr => ∃ i : Nat, i ≤ ls.length ∧ iv = .int .i64 i ∧ Hid (Arr wr 66 w.heap.size [.string tn, .int .i64 k, .slice qa ls.length ca, .int .i64 mk, .string (bstr mv), .string (bstr mn), .slice q4 ms.length c4]) ∧ Hid (Arr wr 66 (w.heap.size + 1) [.string tn, .int .i64 k, .slice qb ls.length cb, .int .i64 mk, .string (bstr mv), .string (bstr mn), .slice q5 ms.length c5]) ∧ Hid (Below w.heap.size w wr)) (fun iv _ => ls.length - (intOf iv).toNat)
 case atStart => exact ⟨0, Nat.zero_le _, rfl, HA.out, HBb.out, HB.out⟩
 case round =>
  obtain ⟨i, hi, rfl, HA, HBb, HB⟩ := hrel
  have hi0 : (0 : Int) ≤ i := by omega
  by_cases hlt : i < ls.length
  ·have hi1 : (i : Int) < ls.length := by omega
   obtain ⟨b, o, rfl, hb, x0, x1⟩ := H1.out.at hlt
   obtain ⟨b2, o2, rfl, hb2, y0, y1⟩ := H2.out.at hlt
   obtain ⟨t0, ht0⟩ : ∃ t, t = bstr (ls.getD i ([], [])).1 := ⟨_, rfl⟩
   obtain ⟨t1, ht1⟩ : ∃ t, t = bstr (ls.getD i ([], [])).2 := ⟨_, rfl⟩
   rw [← ht0] at x0 y0
   rw [← ht1] at x1 y1
   have HCL : Hid (wr.drew.cell? ⟨b, o + i * 2, none⟩ = some (.string t0) ∧ wr.drew.cell? ⟨b, o + i * 2 + 1, none⟩ = some (.string t1) ∧ wr.drew.cell? ⟨b2, o2 + i * 2, none⟩ = some (.string t0) ∧ wr.drew.cell? ⟨b2, o2 + i * 2 + 1, none⟩ = some (.string t1)) :=
    ⟨(HB.out.cell (p := ⟨b, _, none⟩) (HP.out b hb)).trans x0, (HB.out.cell (p := ⟨b, _, none⟩) (HP.out b hb)).trans x1, (HB.out.cell (p := ⟨b2, _, none⟩) (HQ.out b2 hb2)).trans y0, (HB.out.cell (p := ⟨b2, _, none⟩) (HQ.out b2 hb2)).trans y1⟩
   clear x0 x1 y0 y1 hb hb2 ht0 ht1 hlt
   have ea2 := HA.out.cell 2
   have eb2 := HA.out.free 2
   simp only [List.getElem?_cons_zero, List.getElem?_cons_succ] at ea2
   go_upto_region 6 with (fail)
   clear ea2 eb2
   have HA := hiD (HA.out.later (Below.refl wr.heap.size wr).drew)
   have HBb := hiD (HBb.out.later (Below.refl wr.heap.size wr).drew)
   refine wp_region_held_drew (S := fun W' => Arr W' 66 w.heap.size [.string tn, .int .i64 k, .slice (some ⟨b, o, none⟩) ls.length ca, .int .i64 mk, .string (bstr mv), .string (bstr mn), .slice q4 ms.length c4] ∧ Arr W' 66 (w.heap.size + 1) [.string tn, .int .i64 k, .slice (some ⟨b2, o2, none⟩) ls.length cb, .int .i64 mk, .string (bstr mv), .string (bstr mn), .slice q5 ms.length c5] ∧ W'.cell? ⟨b, o + i * 2, none⟩ = some (.string t0) ∧ W'.cell? ⟨b, o + i * 2 + 1, none⟩ = some (.string t1) ∧ W'.cell? ⟨b2, o2 + i * 2, none⟩ = some (.string t0) ∧ W'.cell? ⟨b2, o2 + i * 2 + 1, none⟩ = some (.string t1)) (by kernel_rfl) ⟨HA.out, HBb.out, HCL.out⟩ (fun hHeld => ?_)
   try simp only [Act.put]
   have HB := hiD (HB.out.trans ((Below.refl wr.heap.size wr).drew.mono HB.out.size))
   generalize wr.drew = w3 at hHeld HA HBb HB ⊢
   refine wpAnyH_take (i := 0) (oi := ⟨some 42, _, _, _, _, _⟩) (v := .pointer (some ⟨w.heap.size, 2, none⟩)) rfl (by kernel_rfl) (by kernel_rfl) (by kernel_rfl) (fun _ _ _ h => h) (.inl ⟨by rfl, fun w' hSw => ?_⟩) hHeld ?_
   focus (skip; clear hHeld; go_simp)
   try simp only [Act.put, pz0, pz1, pz2]
   refine wpAnyH_take (i := 1) (oi := ⟨some 43, _, _, _, _, _⟩) (v := .slice (some ⟨b, o, none⟩) ls.length ca) rfl (by kernel_rfl) (by kernel_rfl) (by kernel_rfl) (fun _ _ _ h => h) (.inl ⟨by rfl, fun w' hSw => ?_⟩) hHeld ?_
   focus (obtain ⟨hA, hB, q0, q1, q2, q3⟩ := hSw; have z := hA.cell 2; have z2 := hB.cell 2; simp only [List.getElem?_cons_zero, List.getElem?_cons_succ] at z z2; clear hHeld; go_simp)
   try simp only [Act.put, pz0, pz1, pz2]
   refine wpAnyH_take (i := 2) (oi := ⟨some 44, _, _, _, _, _⟩) (v := .int .i64 (i : Nat)) rfl (by kernel_rfl) (by kernel_rfl) (by kernel_rfl) (fun _ _ _ h => h) (.inl ⟨by rfl, fun w' hSw => ?_⟩) hHeld ?_
   focus (skip; clear hHeld; go_simp)
   try simp only [Act.put, pz0, pz1, pz2]
   refine wpAnyH_take (i := 3) (oi := ⟨some 45, _, _, _, _, _⟩) (v := .pointer (some ⟨b, o + i * 2, none⟩)) rfl (by kernel_rfl) (by kernel_rfl) (by kernel_rfl) (fun _ _ _ h => h) (.inl ⟨by rfl, fun w' hSw => ?_⟩) hHeld ?_
   focus (skip; clear hHeld; go_simp)
   try simp only [Act.put, pz0, pz1, pz2]
   refine wpAnyH_take (i := 4) (oi := ⟨some 46, _, _, _, _, _⟩) (v := .agg #[.string t0, .string t1]) rfl (by kernel_rfl) (by kernel_rfl) (by kernel_rfl) (fun _ _ _ h => h) (.inl ⟨by rfl, fun w' hSw => ?_⟩) hHeld ?_
   focus (obtain ⟨hA, hB, q0, q1, q2, q3⟩ := hSw; have z := hA.cell 2; have z2 := hB.cell 2; simp only [List.getElem?_cons_zero, List.getElem?_cons_succ] at z z2; clear hHeld; go_simp)
   try simp only [Act.put, pz0, pz1, pz2]
   refine wpAnyH_take (i := 5) (oi := ⟨some 47, _, _, _, _, _⟩) (v := .pointer (some ⟨w.heap.size + 1, 2, none⟩)) rfl (by kernel_rfl) (by kernel_rfl) (by kernel_rfl) (fun _ _ _ h => h) (.inl ⟨by rfl, fun w' hSw => ?_⟩) hHeld ?_
   focus (skip; clear hHeld; go_simp)
   try simp only [Act.put, pz0, pz1, pz2]
   refine wpAnyH_take (i := 6) (oi := ⟨some 48, _, _, _, _, _⟩) (v := .slice (some ⟨b2, o2, none⟩) ls.length cb) rfl (by kernel_rfl) (by kernel_rfl) (by kernel_rfl) (fun _ _ _ h => h) (.inl ⟨by rfl, fun w' hSw => ?_⟩) hHeld ?_
   focus (obtain ⟨hA, hB, q0, q1, q2, q3⟩ := hSw; have z := hA.cell 2; have z2 := hB.cell 2; simp only [List.getElem?_cons_zero, List.getElem?_cons_succ] at z z2; clear hHeld; go_simp)
   try simp only [Act.put, pz0, pz1, pz2]
   refine wpAnyH_take (i := 7) (oi := ⟨some 49, _, _, _, _, _⟩) (v := .int .i64 (i : Nat)) rfl (by kernel_rfl) (by kernel_rfl) (by kernel_rfl) (fun _ _ _ h => h) (.inl ⟨by rfl, fun w' hSw => ?_⟩) hHeld ?_
   focus (skip; clear hHeld; go_simp)
   try simp only [Act.put, pz0, pz1, pz2]
   refine wpAnyH_take (i := 8) (oi := ⟨some 50, _, _, _, _, _⟩) (v := .pointer (some ⟨b2, o2 + i * 2, none⟩)) rfl (by kernel_rfl) (by kernel_rfl) (by kernel_rfl) (fun _ _ _ h => h) (.inl ⟨by rfl, fun w' hSw => ?_⟩) hHeld ?_
   focus (skip; clear hHeld; go_simp)
   try simp only [Act.put, pz0, pz1, pz2]
   refine wpAnyH_take (i := 9) (oi := ⟨some 51, _, _, _, _, _⟩) (v := .agg #[.string t0, .string t1]) rfl (by kernel_rfl) (by kernel_rfl) (by kernel_rfl) (fun _ _ _ h => h) (.inl ⟨by rfl, fun w' hSw => ?_⟩) hHeld ?_
   focus (obtain ⟨hA, hB, q0, q1, q2, q3⟩ := hSw; have z := hA.cell 2; have z2 := hB.cell 2; simp only [List.getElem?_cons_zero, List.getElem?_cons_succ] at z z2; clear hHeld; go_simp)
   try simp only [Act.put, pz0, pz1, pz2]
   refine wpAnyH_take (i := 10) (oi := ⟨some 52, _, _, _, _, _⟩) (v := .bool false) rfl (by kernel_rfl) (by kernel_rfl) (by kernel_rfl) (fun _ _ _ h => h) (.inl ⟨by rfl, fun w' hSw => ?_⟩) hHeld ?_
   focus (skip; clear hHeld; go_simp)
   try simp only [Act.put, pz0, pz1, pz2]
   refine wpAnyH_done (by kernel_rfl) ?_ _
   go_wp2_with fail
   go_roundw
   case rel => exact ⟨i + 1, by omega, by go_num, HA.out, HBb.out, HB.out⟩
   case measure => simp [intOf]; omega
  ·have hi1 : ¬ (i : Int) < ls.length := by omega
   have ea2 := HA.out.cell 2
   have eb2 := HA.out.free 2
   simp only [List.getElem?_cons_zero, List.getElem?_cons_succ] at ea2
   go_wp2_with fail
   go_ret
   exact ⟨rfl, HB.out⟩
set_option maxRecDepth 100000 in
set_option maxHeartbeats 4000000 in
theorem sameD_any (n : List UInt8) (l : List MemB) (qa qb : Option Addr) (ca cb : Nat) (P Q : Nat → Prop) (w : World) (h1 : RdK kdMem P w l (.slice qa l.length ca)) (h2 : RdK kdMem Q w l (.slice qb l.length cb)) (hP : ∀ b, P b → b < w.heap.size) (hQ : ∀ b, Q b → b < w.heap.size) (hl : l.length ≤ 100000) (hg : ∀ m ∈ l, OkM m) :
  Calls Tryz.prog 31 #[.agg #[.string (bstr n), .slice qa l.length ca], .agg #[.string (bstr n), .slice qb l.length cb]] w fun e w' => e = .returned (.bool true) ∧ Below w.heap.size w w' := by
 have H1 := hiD h1
 have H2 := hiD h2
 have HP := hiD hP
 have HQ := hiD hQ
 have HG := hiD hg
 have hz : (l.length : Int) ≤ 100000 := by omega
 have hb0 : Below w.heap.size w ((w.alloc (.cells #[.string (bstr n), .slice qa l.length ca] 53)).alloc (.cells #[.string (bstr n), .slice qb l.length cb] 53)) := ((Below.refl _ _).alloc (Nat.le_refl _) _).alloc (by simp) _
 have HB := hiD hb0
 have HA : Hid (Arr ((w.alloc (.cells #[.string (bstr n), .slice qa l.length ca] 53)).alloc (.cells #[.string (bstr n), .slice qb l.length cb] 53)) 53 w.heap.size [.string (bstr n), .slice qa l.length ca]) := (Arr.new' _ _ _ _ rfl).alloc _
 have HBb : Hid (Arr ((w.alloc (.cells #[.string (bstr n), .slice qa l.length ca] 53)).alloc (.cells #[.string (bstr n), .slice qb l.length cb] 53)) 53 (w.heap.size + 1) [.string (bstr n), .slice qb l.length cb]) := Arr.new2 _ _ _ _ _ rfl
 clear h1 h2 hP hQ hb0 hg hl
 go_enter Tryz.func31, Tryz.ntmps31
 go_upto_region 1 with (fail)
 generalize ((w.alloc (.cells #[.string (bstr n), .slice qa l.length ca] 53)).alloc (.cells #[.string (bstr n), .slice qb l.length cb] 53)) = w1 at HA HBb HB ⊢
 obtain ⟨tn, htn⟩ : ∃ t, t = bstr n := ⟨_, rfl⟩
 rw [← htn] at HA HBb
 clear htn
 obtain ⟨ea0, eb0, ea1, eb1⟩ := HA.out.all2
 obtain ⟨na0, nz0, na1, nz1⟩ := HBb.out.all2
 go_wp2_with fail
 clear ea0 eb0 ea1 eb1
 clear na0 nz0 na1 nz1
 go_loopw [5] (fun iv wr => ∃ i : Nat, i ≤ l.length ∧ iv = .int .i64 i ∧ Hid (Arr wr 53 w.heap.size [.string tn, .slice qa l.length ca]) ∧ Hid (Arr wr 53 (w.heap.size + 1) [.string tn, .slice qb l.length cb]) ∧ Hid (Below w.heap.size w wr)) (fun iv _ => l.length - (intOf iv).toNat)
 case atStart => exact ⟨0, Nat.zero_le _, rfl, HA.out, HBb.out, HB.out⟩
 case round =>
  obtain ⟨i, hi, rfl, HA, HBb, HB⟩ := hrel
  have hi0 : (0 : Int) ≤ i := by omega
  by_cases hlt : i < l.length
  ·have hi1 : (i : Int) < l.length := by omega
   obtain ⟨x, hx⟩ : ∃ x, l[i]? = some x := ⟨_, List.getElem?_eq_getElem hlt⟩
   have hxg := HG.out x (List.mem_of_getElem? hx)
   obtain ⟨b, o, a1, rfl, hb, r1, x1⟩ := H1.out.at hx
   obtain ⟨b2, o2, a2, rfl, hb2, r2, y1⟩ := H2.out.at hx
   rw [show kdMem.size = 7 from rfl] at x1 y1
   obtain ⟨xn, xk, xl, mk, mv, mn, ms⟩ := x
   have HM1 := hiD r1
   have HM2 := hiD r2
   obtain ⟨xa, xc, q4, c4, rfl, _, _⟩ := rdMem_form r1
   obtain ⟨ya, yc, q5, c5, rfl, _, _⟩ := rdMem_form r2
   have HC1 : Hid (AtC wr b (o + i * 7) [.string (bstr xn), .int .i64 xk, .slice xa xl.length xc, .int .i64 mk, .string (bstr mv), .string (bstr mn), .slice q4 ms.length c4]) := ⟨Nat.lt_of_lt_of_le (HP.out b hb) HB.out.size, fun j u hj => (HB.out.cell (p := ⟨b, _, none⟩) (HP.out b hb)).trans (x1 j u hj)⟩
   have HC2 : Hid (AtC wr b2 (o2 + i * 7) [.string (bstr xn), .int .i64 xk, .slice ya xl.length yc, .int .i64 mk, .string (bstr mv), .string (bstr mn), .slice q5 ms.length c5]) := ⟨Nat.lt_of_lt_of_le (HQ.out b2 hb2) HB.out.size, fun j u hj => (HB.out.cell (p := ⟨b2, _, none⟩) (HQ.out b2 hb2)).trans (y1 j u hj)⟩
   have HX1 := hiD hxg
   clear x1 y1 hb hb2 hlt hx hxg r1 r2
   have ea1 := HA.out.cell 1
   have eb1 := HA.out.free 1
   simp only [List.getElem?_cons_zero, List.getElem?_cons_succ] at ea1
   go_upto_region 6 with (fail)
   clear ea1 eb1
   have HA := hiD (HA.out.later (Below.refl wr.heap.size wr).drew)
   have HBb := hiD (HBb.out.later (Below.refl wr.heap.size wr).drew)
   refine wp_region_held_drew (S := fun W' => Arr W' 53 w.heap.size [.string tn, .slice (some ⟨b, o, none⟩) l.length ca] ∧ Arr W' 53 (w.heap.size + 1) [.string tn, .slice (some ⟨b2, o2, none⟩) l.length cb] ∧ AtC W' b (o + i * 7) [.string (bstr xn), .int .i64 xk, .slice xa xl.length xc, .int .i64 mk, .string (bstr mv), .string (bstr mn), .slice q4 ms.length c4] ∧ AtC W' b2 (o2 + i * 7) [.string (bstr xn), .int .i64 xk, .slice ya xl.length yc, .int .i64 mk, .string (bstr mv), .string (bstr mn), .slice q5 ms.length c5]) (by kernel_rfl) ⟨HA.out, HBb.out, HC1.out.later (Below.refl wr.heap.size wr).drew, HC2.out.later (Below.refl wr.heap.size wr).drew⟩ (fun hHeld => ?_)
   try simp only [Act.put]
   have HB := hiD (HB.out.trans ((Below.refl wr.heap.size wr).drew.mono HB.out.size))
   generalize wr.drew = w3 at hHeld HA HBb HB ⊢
   refine wpAnyH_take (i := 0) (oi := ⟨some 27, _, _, _, _, _⟩) (v := .pointer (some ⟨w.heap.size, 1, none⟩)) rfl (by kernel_rfl) (by kernel_rfl) (by kernel_rfl) (fun _ _ _ h => h) (.inl ⟨by rfl, fun w' hSw => ?_⟩) hHeld ?_
   focus (skip; clear hHeld; go_simp)
   try simp only [Act.put, pz0, pz1, pz2]
   refine wpAnyH_take (i := 1) (oi := ⟨some 28, _, _, _, _, _⟩) (v := .slice (some ⟨b, o, none⟩) l.length ca) rfl (by kernel_rfl) (by kernel_rfl) (by kernel_rfl) (fun _ _ _ h => h) (.inl ⟨by rfl, fun w' hSw => ?_⟩) hHeld ?_
   focus (obtain ⟨hA, hB, hC, hD⟩ := hSw; have z := hA.cell 1; have z2 := hB.cell 1; simp only [List.getElem?_cons_zero, List.getElem?_cons_succ] at z z2; have q0 := hC.2 0 _ rfl; have q1 := hC.2 1 _ rfl; have q2 := hC.2 2 _ rfl; have q3 := hC.2 3 _ rfl; have q4 := hC.2 4 _ rfl; have q5 := hC.2 5 _ rfl; have q6 := hC.2 6 _ rfl; have p0 := hD.2 0 _ rfl; have p1 := hD.2 1 _ rfl; have p2 := hD.2 2 _ rfl; have p3 := hD.2 3 _ rfl; have p4 := hD.2 4 _ rfl; have p5 := hD.2 5 _ rfl; have p6 := hD.2 6 _ rfl; simp only [Nat.add_zero] at q0 p0; clear hHeld; go_simp)
   try simp only [Act.put, pz0, pz1, pz2]
   refine wpAnyH_take (i := 2) (oi := ⟨some 29, _, _, _, _, _⟩) (v := .int .i64 (i : Nat)) rfl (by kernel_rfl) (by kernel_rfl) (by kernel_rfl) (fun _ _ _ h => h) (.inl ⟨by rfl, fun w' hSw => ?_⟩) hHeld ?_
   focus (skip; clear hHeld; go_simp)
   try simp only [Act.put, pz0, pz1, pz2]
   refine wpAnyH_take (i := 3) (oi := ⟨some 30, _, _, _, _, _⟩) (v := .pointer (some ⟨b, o + i * 7, none⟩)) rfl (by kernel_rfl) (by kernel_rfl) (by kernel_rfl) (fun _ _ _ h => h) (.inl ⟨by rfl, fun w' hSw => ?_⟩) hHeld ?_
   focus (skip; clear hHeld; go_simp)
   try simp only [Act.put, pz0, pz1, pz2]
   refine wpAnyH_take (i := 4) (oi := ⟨some 31, _, _, _, _, _⟩) (v := .agg #[.string (bstr xn), .int .i64 xk, .slice xa xl.length xc, .int .i64 mk, .string (bstr mv), .string (bstr mn), .slice q4 ms.length c4]) rfl (by kernel_rfl) (by kernel_rfl) (by kernel_rfl) (fun _ _ _ h => h) (.inl ⟨by rfl, fun w' hSw => ?_⟩) hHeld ?_
   focus (obtain ⟨hA, hB, hC, hD⟩ := hSw; have z := hA.cell 1; have z2 := hB.cell 1; simp only [List.getElem?_cons_zero, List.getElem?_cons_succ] at z z2; have q0 := hC.2 0 _ rfl; have q1 := hC.2 1 _ rfl; have q2 := hC.2 2 _ rfl; have q3 := hC.2 3 _ rfl; have q4 := hC.2 4 _ rfl; have q5 := hC.2 5 _ rfl; have q6 := hC.2 6 _ rfl; have p0 := hD.2 0 _ rfl; have p1 := hD.2 1 _ rfl; have p2 := hD.2 2 _ rfl; have p3 := hD.2 3 _ rfl; have p4 := hD.2 4 _ rfl; have p5 := hD.2 5 _ rfl; have p6 := hD.2 6 _ rfl; simp only [Nat.add_zero] at q0 p0; clear hHeld; go_simp)
   try simp only [Act.put, pz0, pz1, pz2]
   refine wpAnyH_take (i := 5) (oi := ⟨some 32, _, _, _, _, _⟩) (v := .pointer (some ⟨w.heap.size + 1, 1, none⟩)) rfl (by kernel_rfl) (by kernel_rfl) (by kernel_rfl) (fun _ _ _ h => h) (.inl ⟨by rfl, fun w' hSw => ?_⟩) hHeld ?_
   focus (skip; clear hHeld; go_simp)
   try simp only [Act.put, pz0, pz1, pz2]
   refine wpAnyH_take (i := 6) (oi := ⟨some 33, _, _, _, _, _⟩) (v := .slice (some ⟨b2, o2, none⟩) l.length cb) rfl (by kernel_rfl) (by kernel_rfl) (by kernel_rfl) (fun _ _ _ h => h) (.inl ⟨by rfl, fun w' hSw => ?_⟩) hHeld ?_
   focus (obtain ⟨hA, hB, hC, hD⟩ := hSw; have z := hA.cell 1; have z2 := hB.cell 1; simp only [List.getElem?_cons_zero, List.getElem?_cons_succ] at z z2; have q0 := hC.2 0 _ rfl; have q1 := hC.2 1 _ rfl; have q2 := hC.2 2 _ rfl; have q3 := hC.2 3 _ rfl; have q4 := hC.2 4 _ rfl; have q5 := hC.2 5 _ rfl; have q6 := hC.2 6 _ rfl; have p0 := hD.2 0 _ rfl; have p1 := hD.2 1 _ rfl; have p2 := hD.2 2 _ rfl; have p3 := hD.2 3 _ rfl; have p4 := hD.2 4 _ rfl; have p5 := hD.2 5 _ rfl; have p6 := hD.2 6 _ rfl; simp only [Nat.add_zero] at q0 p0; clear hHeld; go_simp)
   try simp only [Act.put, pz0, pz1, pz2]
   refine wpAnyH_take (i := 7) (oi := ⟨some 34, _, _, _, _, _⟩) (v := .int .i64 (i : Nat)) rfl (by kernel_rfl) (by kernel_rfl) (by kernel_rfl) (fun _ _ _ h => h) (.inl ⟨by rfl, fun w' hSw => ?_⟩) hHeld ?_
   focus (skip; clear hHeld; go_simp)
   try simp only [Act.put, pz0, pz1, pz2]
   refine wpAnyH_take (i := 8) (oi := ⟨some 35, _, _, _, _, _⟩) (v := .pointer (some ⟨b2, o2 + i * 7, none⟩)) rfl (by kernel_rfl) (by kernel_rfl) (by kernel_rfl) (fun _ _ _ h => h) (.inl ⟨by rfl, fun w' hSw => ?_⟩) hHeld ?_
   focus (skip; clear hHeld; go_simp)
   try simp only [Act.put, pz0, pz1, pz2]
   refine wpAnyH_take (i := 9) (oi := ⟨some 36, _, _, _, _, _⟩) (v := .agg #[.string (bstr xn), .int .i64 xk, .slice ya xl.length yc, .int .i64 mk, .string (bstr mv), .string (bstr mn), .slice q5 ms.length c5]) rfl (by kernel_rfl) (by kernel_rfl) (by kernel_rfl) (fun _ _ _ h => h) (.inl ⟨by rfl, fun w' hSw => ?_⟩) hHeld ?_
   focus (obtain ⟨hA, hB, hC, hD⟩ := hSw; have z := hA.cell 1; have z2 := hB.cell 1; simp only [List.getElem?_cons_zero, List.getElem?_cons_succ] at z z2; have q0 := hC.2 0 _ rfl; have q1 := hC.2 1 _ rfl; have q2 := hC.2 2 _ rfl; have q3 := hC.2 3 _ rfl; have q4 := hC.2 4 _ rfl; have q5 := hC.2 5 _ rfl; have q6 := hC.2 6 _ rfl; have p0 := hD.2 0 _ rfl; have p1 := hD.2 1 _ rfl; have p2 := hD.2 2 _ rfl; have p3 := hD.2 3 _ rfl; have p4 := hD.2 4 _ rfl; have p5 := hD.2 5 _ rfl; have p6 := hD.2 6 _ rfl; simp only [Nat.add_zero] at q0 p0; clear hHeld; go_simp)
   try simp only [Act.put, pz0, pz1, pz2]
   refine wpAnyH_ready (rs := [10]) (by kernel_rfl) (by simp) ?_
   refine AllReadyH.cons (o := ⟨some 37, _, _, _, _, _⟩) rfl (fun K' hK' => ?_) AllReadyH.nil
   refine stepw_call (R := fun v w' => v = .bool true ∧ Below w3.heap.size w3 w') (by rfl) ?_ ((sameM_any (xn, xk, xl, .mk mk mv mn ms) _ _ P Q w3 (HM1.out.keep fun b hb n => HB.out.cell (p := ⟨b, n, none⟩) (HP.out b hb)) (HM2.out.keep fun b hb n => HB.out.cell (p := ⟨b, n, none⟩) (HQ.out b hb)) (fun b hb => Nat.lt_of_lt_of_le (HP.out b hb) HB.out.size) (fun b hb => Nat.lt_of_lt_of_le (HQ.out b hb) HB.out.size) HX1.out).mono fun r w' ⟨h1, h2⟩ => ⟨_, h1, rfl, h2⟩) ?_
   focus go_simp
   rintro v wn ⟨rfl, bn⟩
   have hkn := And.intro (hHeld.1.later bn) (And.intro (hHeld.2.1.later bn) (And.intro (hHeld.2.2.1.later bn) (hHeld.2.2.2.later bn)))
   clear hHeld
   have HA := hiD (HA.out.later bn)
   have HBb := hiD (HBb.out.later bn)
   have HB := hiD (HB.out.trans (bn.mono HB.out.size))
   clear bn
   refine hK'.out _ _ hkn (fun hHeld => ?_)
   clear hK' K' hkn
   try simp only [Act.put, pz0, pz1, pz2]
   refine wpAnyH_take (i := 11) (oi := ⟨some 38, _, _, _, _, _⟩) (v := .bool false) rfl (by kernel_rfl) (by kernel_rfl) (by kernel_rfl) (fun _ _ _ h => h) (.inl ⟨by rfl, fun w' hSw => ?_⟩) hHeld ?_
   focus (skip; clear hHeld; go_simp)
   try simp only [Act.put, pz0, pz1, pz2]
   refine wpAnyH_done (by kernel_rfl) ?_ _
   clear hHeld
   go_wp2_with fail
   go_roundw
   case rel => exact ⟨i + 1, by omega, by go_num, HA.out, HBb.out, HB.out⟩
   case measure => simp [intOf]; omega
  ·have hi1 : ¬ (i : Int) < l.length := by omega
   have ea1 := HA.out.cell 1
   have eb1 := HA.out.free 1
   simp only [List.getElem?_cons_zero, List.getElem?_cons_succ] at ea1
   go_wp2_with fail
   go_ret
   exact ⟨rfl, HB.out⟩
set_option maxRecDepth 100000 in
set_option maxHeartbeats 4000000 in
theorem sameS_any (l : List DefB) (qa qb : Option Addr) (ca cb : Nat) (P Q : Nat → Prop) (w : World) (h1 : RdK kdDef P w l (.slice qa l.length ca)) (h2 : RdK kdDef Q w l (.slice qb l.length cb)) (hP : ∀ b, P b → b < w.heap.size) (hQ : ∀ b, Q b → b < w.heap.size) (hl : l.length ≤ 100000) (hg : ∀ d ∈ l, OkD d) :
  Calls Tryz.prog 11 #[.agg #[.slice qa l.length ca], .agg #[.slice qb l.length cb]] w fun e w' => e = .returned (.bool true) ∧ Below w.heap.size w w' := by
 have H1 := hiD h1
 have H2 := hiD h2
 have HP := hiD hP
 have HQ := hiD hQ
 have HG := hiD hg
 have hz : (l.length : Int) ≤ 100000 := by omega
 have hb0 : Below w.heap.size w ((w.alloc (.cells #[.slice qa l.length ca] 26)).alloc (.cells #[.slice qb l.length cb] 26)) := ((Below.refl _ _).alloc (Nat.le_refl _) _).alloc (by simp) _
 have HB := hiD hb0
 have HA : Hid (Arr ((w.alloc (.cells #[.slice qa l.length ca] 26)).alloc (.cells #[.slice qb l.length cb] 26)) 26 w.heap.size [.slice qa l.length ca]) := (Arr.new' _ _ _ _ rfl).alloc _
 have HBb : Hid (Arr ((w.alloc (.cells #[.slice qa l.length ca] 26)).alloc (.cells #[.slice qb l.length cb] 26)) 26 (w.heap.size + 1) [.slice qb l.length cb]) := Arr.new2 _ _ _ _ _ rfl
 clear h1 h2 hP hQ hb0 hg hl
 go_enter Tryz.func11, Tryz.ntmps11
 go_upto_region 1 with (fail)
 generalize ((w.alloc (.cells #[.slice qa l.length ca] 26)).alloc (.cells #[.slice qb l.length cb] 26)) = w1 at HA HBb HB ⊢
 obtain ⟨ea0, eb0⟩ := HA.out.all1
 obtain ⟨na0, nz0⟩ := HBb.out.all1
 go_wp2_with fail
 clear ea0 eb0
 clear na0 nz0
 go_loopw [5] (fun iv wr => ∃ i : Nat, i ≤ l.length ∧ iv = .int .i64 i ∧ Hid (Arr wr 26 w.heap.size [.slice qa l.length ca]) ∧ Hid (Arr wr 26 (w.heap.size + 1) [.slice qb l.length cb]) ∧ Hid (Below w.heap.size w wr)) (fun iv _ => l.length - (intOf iv).toNat)
 case atStart => exact ⟨0, Nat.zero_le _, rfl, HA.out, HBb.out, HB.out⟩
 case round =>
  obtain ⟨i, hi, rfl, HA, HBb, HB⟩ := hrel
  have hi0 : (0 : Int) ≤ i := by omega
  by_cases hlt : i < l.length
  ·have hi1 : (i : Int) < l.length := by omega
   obtain ⟨x, hx⟩ : ∃ x, l[i]? = some x := ⟨_, List.getElem?_eq_getElem hlt⟩
   have hxg := HG.out x (List.mem_of_getElem? hx)
   obtain ⟨b, o, a1, rfl, hb, r1, x1⟩ := H1.out.at hx
   obtain ⟨b2, o2, a2, rfl, hb2, r2, y1⟩ := H2.out.at hx
   rw [show kdDef.size = 2 from rfl] at x1 y1
   obtain ⟨xn, xl⟩ := x
   obtain ⟨u1, rfl, r3⟩ := r1
   obtain ⟨u2, rfl, r4⟩ := r2
   have HM1 := hiD r3
   have HM2 := hiD r4
   obtain ⟨xa, xc, rfl, _⟩ := r3
   obtain ⟨ya, yc, rfl, _⟩ := r4
   have HC1 : Hid (AtC wr b (o + i * 2) [.string (bstr xn), .slice xa xl.length xc]) := ⟨Nat.lt_of_lt_of_le (HP.out b hb) HB.out.size, fun j u hj => (HB.out.cell (p := ⟨b, _, none⟩) (HP.out b hb)).trans (x1 j u hj)⟩
   have HC2 : Hid (AtC wr b2 (o2 + i * 2) [.string (bstr xn), .slice ya xl.length yc]) := ⟨Nat.lt_of_lt_of_le (HQ.out b2 hb2) HB.out.size, fun j u hj => (HB.out.cell (p := ⟨b2, _, none⟩) (HQ.out b2 hb2)).trans (y1 j u hj)⟩
   have HX1 := hiD hxg
   clear x1 y1 hb hb2 hlt hx hxg
   obtain ⟨ea0, eb0⟩ := HA.out.all1
   go_upto_region 6 with (fail)
   clear ea0 eb0
   have HA := hiD (HA.out.later (Below.refl wr.heap.size wr).drew)
   have HBb := hiD (HBb.out.later (Below.refl wr.heap.size wr).drew)
   refine wp_region_held_drew (S := fun W' => Arr W' 26 w.heap.size [.slice (some ⟨b, o, none⟩) l.length ca] ∧ Arr W' 26 (w.heap.size + 1) [.slice (some ⟨b2, o2, none⟩) l.length cb] ∧ AtC W' b (o + i * 2) [.string (bstr xn), .slice xa xl.length xc] ∧ AtC W' b2 (o2 + i * 2) [.string (bstr xn), .slice ya xl.length yc]) (by kernel_rfl) ⟨HA.out, HBb.out, HC1.out.later (Below.refl wr.heap.size wr).drew, HC2.out.later (Below.refl wr.heap.size wr).drew⟩ (fun hHeld => ?_)
   try simp only [Act.put]
   have HB := hiD (HB.out.trans ((Below.refl wr.heap.size wr).drew.mono HB.out.size))
   generalize wr.drew = w3 at hHeld HA HBb HB ⊢
   refine wpAnyH_take (i := 0) (oi := ⟨some 20, _, _, _, _, _⟩) (v := .pointer (some ⟨w.heap.size, 0, none⟩)) rfl (by kernel_rfl) (by kernel_rfl) (by kernel_rfl) (fun _ _ _ h => h) (.inl ⟨by rfl, fun w' hSw => ?_⟩) hHeld ?_
   focus (skip; clear hHeld; go_simp)
   try simp only [Act.put, pz0, pz1, pz2]
   refine wpAnyH_take (i := 1) (oi := ⟨some 21, _, _, _, _, _⟩) (v := .slice (some ⟨b, o, none⟩) l.length ca) rfl (by kernel_rfl) (by kernel_rfl) (by kernel_rfl) (fun _ _ _ h => h) (.inl ⟨by rfl, fun w' hSw => ?_⟩) hHeld ?_
   focus (obtain ⟨hA, hB, hC, hD⟩ := hSw; have z := hA.cell 0; have z2 := hB.cell 0; simp only [List.getElem?_cons_zero] at z z2; have q0 := hC.2 0 _ rfl; have q1 := hC.2 1 _ rfl; have p0 := hD.2 0 _ rfl; have p1 := hD.2 1 _ rfl; simp only [Nat.add_zero] at q0 p0; clear hHeld; go_simp)
   try simp only [Act.put, pz0, pz1, pz2]
   refine wpAnyH_take (i := 2) (oi := ⟨some 22, _, _, _, _, _⟩) (v := .int .i64 (i : Nat)) rfl (by kernel_rfl) (by kernel_rfl) (by kernel_rfl) (fun _ _ _ h => h) (.inl ⟨by rfl, fun w' hSw => ?_⟩) hHeld ?_
   focus (skip; clear hHeld; go_simp)
   try simp only [Act.put, pz0, pz1, pz2]
   refine wpAnyH_take (i := 3) (oi := ⟨some 23, _, _, _, _, _⟩) (v := .pointer (some ⟨b, o + i * 2, none⟩)) rfl (by kernel_rfl) (by kernel_rfl) (by kernel_rfl) (fun _ _ _ h => h) (.inl ⟨by rfl, fun w' hSw => ?_⟩) hHeld ?_
   focus (skip; clear hHeld; go_simp)
   try simp only [Act.put, pz0, pz1, pz2]
   refine wpAnyH_take (i := 4) (oi := ⟨some 24, _, _, _, _, _⟩) (v := .agg #[.string (bstr xn), .slice xa xl.length xc]) rfl (by kernel_rfl) (by kernel_rfl) (by kernel_rfl) (fun _ _ _ h => h) (.inl ⟨by rfl, fun w' hSw => ?_⟩) hHeld ?_
   focus (obtain ⟨hA, hB, hC, hD⟩ := hSw; have z := hA.cell 0; have z2 := hB.cell 0; simp only [List.getElem?_cons_zero] at z z2; have q0 := hC.2 0 _ rfl; have q1 := hC.2 1 _ rfl; have p0 := hD.2 0 _ rfl; have p1 := hD.2 1 _ rfl; simp only [Nat.add_zero] at q0 p0; clear hHeld; go_simp)
   try simp only [Act.put, pz0, pz1, pz2]
   refine wpAnyH_take (i := 5) (oi := ⟨some 25, _, _, _, _, _⟩) (v := .pointer (some ⟨w.heap.size + 1, 0, none⟩)) rfl (by kernel_rfl) (by kernel_rfl) (by kernel_rfl) (fun _ _ _ h => h) (.inl ⟨by rfl, fun w' hSw => ?_⟩) hHeld ?_
   focus (skip; clear hHeld; go_simp)
   try simp only [Act.put, pz0, pz1, pz2]
   refine wpAnyH_take (i := 6) (oi := ⟨some 26, _, _, _, _, _⟩) (v := .slice (some ⟨b2, o2, none⟩) l.length cb) rfl (by kernel_rfl) (by kernel_rfl) (by kernel_rfl) (fun _ _ _ h => h) (.inl ⟨by rfl, fun w' hSw => ?_⟩) hHeld ?_
   focus (obtain ⟨hA, hB, hC, hD⟩ := hSw; have z := hA.cell 0; have z2 := hB.cell 0; simp only [List.getElem?_cons_zero] at z z2; have q0 := hC.2 0 _ rfl; have q1 := hC.2 1 _ rfl; have p0 := hD.2 0 _ rfl; have p1 := hD.2 1 _ rfl; simp only [Nat.add_zero] at q0 p0; clear hHeld; go_simp)
   try simp only [Act.put, pz0, pz1, pz2]
   refine wpAnyH_take (i := 7) (oi := ⟨some 27, _, _, _, _, _⟩) (v := .int .i64 (i : Nat)) rfl (by kernel_rfl) (by kernel_rfl) (by kernel_rfl) (fun _ _ _ h => h) (.inl ⟨by rfl, fun w' hSw => ?_⟩) hHeld ?_
   focus (skip; clear hHeld; go_simp)
   try simp only [Act.put, pz0, pz1, pz2]
   refine wpAnyH_take (i := 8) (oi := ⟨some 28, _, _, _, _, _⟩) (v := .pointer (some ⟨b2, o2 + i * 2, none⟩)) rfl (by kernel_rfl) (by kernel_rfl) (by kernel_rfl) (fun _ _ _ h => h) (.inl ⟨by rfl, fun w' hSw => ?_⟩) hHeld ?_
   focus (skip; clear hHeld; go_simp)
   try simp only [Act.put, pz0, pz1, pz2]
   refine wpAnyH_take (i := 9) (oi := ⟨some 29, _, _, _, _, _⟩) (v := .agg #[.string (bstr xn), .slice ya xl.length yc]) rfl (by kernel_rfl) (by kernel_rfl) (by kernel_rfl) (fun _ _ _ h => h) (.inl ⟨by rfl, fun w' hSw => ?_⟩) hHeld ?_
   focus (obtain ⟨hA, hB, hC, hD⟩ := hSw; have z := hA.cell 0; have z2 := hB.cell 0; simp only [List.getElem?_cons_zero] at z z2; have q0 := hC.2 0 _ rfl; have q1 := hC.2 1 _ rfl; have p0 := hD.2 0 _ rfl; have p1 := hD.2 1 _ rfl; simp only [Nat.add_zero] at q0 p0; clear hHeld; go_simp)
   try simp only [Act.put, pz0, pz1, pz2]
   refine wpAnyH_ready (rs := [10]) (by kernel_rfl) (by simp) ?_
   refine AllReadyH.cons (o := ⟨some 30, _, _, _, _, _⟩) rfl (fun K' hK' => ?_) AllReadyH.nil
   refine stepw_call (R := fun v w' => v = .bool true ∧ Below w3.heap.size w3 w') (by rfl) ?_ ((sameD_any xn xl _ _ _ _ P Q w3 (HM1.out.keep fun b hb n => HB.out.cell (p := ⟨b, n, none⟩) (HP.out b hb)) (HM2.out.keep fun b hb n => HB.out.cell (p := ⟨b, n, none⟩) (HQ.out b hb)) (fun b hb => Nat.lt_of_lt_of_le (HP.out b hb) HB.out.size) (fun b hb => Nat.lt_of_lt_of_le (HQ.out b hb) HB.out.size) HX1.out.1 HX1.out.2).mono fun r w' ⟨h1, h2⟩ => ⟨_, h1, rfl, h2⟩) ?_
   focus go_simp
   rintro v wn ⟨rfl, bn⟩
   have hkn := And.intro (hHeld.1.later bn) (And.intro (hHeld.2.1.later bn) (And.intro (hHeld.2.2.1.later bn) (hHeld.2.2.2.later bn)))
   clear hHeld
   have HA := hiD (HA.out.later bn)
   have HBb := hiD (HBb.out.later bn)
   have HB := hiD (HB.out.trans (bn.mono HB.out.size))
   clear bn
   refine hK'.out _ _ hkn (fun hHeld => ?_)
   clear hK' K' hkn
   try simp only [Act.put, pz0, pz1, pz2]
   refine wpAnyH_take (i := 11) (oi := ⟨some 31, _, _, _, _, _⟩) (v := .bool false) rfl (by kernel_rfl) (by kernel_rfl) (by kernel_rfl) (fun _ _ _ h => h) (.inl ⟨by rfl, fun w' hSw => ?_⟩) hHeld ?_
   focus (skip; clear hHeld; go_simp)
   try simp only [Act.put, pz0, pz1, pz2]
   refine wpAnyH_done (by kernel_rfl) ?_ _
   clear hHeld
   go_wp2_with fail
   go_roundw
   case rel => exact ⟨i + 1, by omega, by go_num, HA.out, HBb.out, HB.out⟩
   case measure => simp [intOf]; omega
  ·have hi1 : ¬ (i : Int) < l.length := by omega
   obtain ⟨ea0, eb0⟩ := HA.out.all1
   go_wp2_with fail
   go_ret
   exact ⟨rfl, HB.out⟩
theorem isName_at (s : ByteArray) {b : Bool} (hb : isName s = b) (w : World) (hr : ResT w) : Calls Tryz.prog 73 #[.string s] w fun e w' => e = .returned (.bool b) ∧ Below w.heap.size w w' := by subst hb; exact isName_any s w hr
theorem isName_small {s : ByteArray} (h : isName s = true) : s.size ≤ 64 := by
  unfold isName consB at h
  simp only [Bool.and_eq_true, decide_eq_true_eq] at h
  have := h.1.1.2.1
  rw [Array.length_toList] at this
  exact this
theorem isName_ne {s : ByteArray} (h : isName s = true) : ¬ s.toList = [] ∧ s.toList.isEmpty = false := by
  unfold isName consB at h
  simp only [Bool.and_eq_true, decide_eq_true_eq] at h
  have h1 := h.1.1.1
  rw [toList_data]
  constructor
  · intro e
    rw [e] at h1
    simp at h1
  · cases e : s.data.toList with
    | nil => rw [e] at h1; simp at h1
    | cons a b => rfl
set_option maxRecDepth 100000 in
set_option maxHeartbeats 2000000 in
theorem allowedG_any (t r : ByteArray) (w : World) (h : ResT w) (ht : isName t = true) (hr : r = ⟨#[]⟩ ∨ isName r = true) : Calls Tryz.prog 112 #[.agg #[.string t, .string r]] w fun e w' => ∃ x, e = .returned (.tuple #[.string x, .bool true]) ∧ Below w.heap.size w w' := by
  have hb0 : Below w.heap.size w (w.alloc (.cells #[.string t, .string r] 70)) := (Below.refl w.heap.size w).alloc (Nat.le_refl _) _
  have HE : Hid (ResT (w.alloc (.cells #[.string t, .string r] 70))) := h.below hb0 h.lt
  have HB0 := hiD hb0
  have HX0 : Hid (Arr (w.alloc (.cells #[.string t, .string r] 70)) 70 w.heap.size [.string t, .string r]) := Arr.new' _ _ _ _ rfl
  have HN := hiD (isName_at t ht _ HE.out)
  have g1 : (t.size : Int) ≤ 1000000 := by have := isName_small ht; omega
  clear h hb0 ht
  go_enter Tryz.func112, Tryz.ntmps112
  go_wp2_with fail
  refine HN.out.mono ?_
  rintro e w1 ⟨rfl, b1⟩
  have HB := hiD (HB0.out.trans (b1.mono HB0.out.size))
  have HX := hiD (HX0.out.later b1)
  have HE : Hid (ResT w1) := HE.out.below b1 HE.out.lt
  clear b1 HB0 HX0
  obtain ⟨x0, y0, x1, y1⟩ := HX.out.all2
  by_cases hz : r = ⟨#[]⟩
  · subst hz
    clear hr
    go_wp2_with fail
    refine bodyPost_ret (v := .tuple #[.string t, .bool true]) ?_ rfl ⟨_, rfl, HB.out⟩
    simp [results, Tryz.results112, go_sem]
  · have hn := hr.resolve_left hz
    have g2 : (r.size : Int) ≤ 1000000 := by have := isName_small hn; omega
    obtain ⟨hne, hne2⟩ := isName_ne hn
    have HN := hiD (isName_at r hn _ HE.out)
    clear hz hr hn
    go_wp2_with fail
    refine HN.out.mono ?_
    rintro e w2 ⟨rfl, b2⟩
    clear x0 y0 x1 y1
    have HX := hiD (HX.out.later b2)
    have HB := hiD (HB.out.trans (b2.mono HB.out.size))
    clear b2
    obtain ⟨x0, y0, x1, y1⟩ := HX.out.all2
    go_wp2_with fail
    refine bodyPost_ret (v := .tuple #[.string (t ++ ⟨#[35]⟩ ++ r), .bool true]) ?_ rfl ⟨_, rfl, HB.out⟩
    simp [results, Tryz.results112, go_sem]
set_option maxRecDepth 100000 in
set_option maxHeartbeats 2000000 in
theorem isRight_any (t r : ByteArray) (w : World) (h : ResT w) (ht : isName t = true) (hr : r = ⟨#[]⟩ ∨ isName r = true) : Calls Tryz.prog 102 #[.agg #[.string t, .string r]] w fun e w' => e = .returned (.bool true) ∧ Below w.heap.size w w' := by
  have HB0 : Hid (Below w.heap.size w (w.alloc (.cells #[.string t, .string r] 70))) := (Below.refl _ _).alloc (Nat.le_refl _) _
  have HN := hiD (allowedG_any t r _ (h.below HB0.out h.lt) ht hr)
  clear h ht hr
  go_enter Tryz.func102, Tryz.ntmps102
  go_wp2_with fail
  refine HN.out.mono ?_
  rintro e w1 ⟨x, rfl, b1⟩
  have HB := hiD (HB0.out.trans (b1.mono HB0.out.size))
  clear b1
  go_wp2_with fail
  go_ret
  exact ⟨rfl, HB.out⟩
set_option maxRecDepth 100000 in
set_option maxHeartbeats 2000000 in
theorem idxD {W : World} {p l c : Nat} {q : Option Addr} (hl : l ≤ 100000) (hE : ∀ i, i < l → ∃ (b o : Nat) (u0 u1 : Value), q = some ⟨b, o, none⟩ ∧ AtC W b (o + i * 2) [u0, u1] ∧ ∀ W', Below W.heap.size W W' → Calls Tryz.prog 82 #[.agg #[u0, u1], .pointer (some ⟨p, 0, none⟩)] W' fun r w' => r = .returned (.bool false) ∧ Below W'.heap.size W' w') :
    Calls Tryz.prog 98 #[.slice q l c, .func (.func 82) #[] #[.pointer (some ⟨p, 0, none⟩)]] W fun r w' => r = .returned (.int .i64 (-1)) ∧ Below W.heap.size W w' := by
  have HE := hiD hE
  have hz : (l : Int) ≤ 100000 := by omega
  clear hE hl
  go_enter Tryz.func98, Tryz.ntmps98
  go_wp2_with fail
  go_loopw [8] (fun iv wr => ∃ i : Nat, i ≤ l ∧ iv = .int .i64 i ∧ Hid (Below W.heap.size W wr)) (fun iv _ => l - (intOf iv).toNat)
  case atStart => exact ⟨0, Nat.zero_le _, rfl, Below.refl _ _⟩
  case round =>
    obtain ⟨i, hi, rfl, HB⟩ := hrel
    have hi0 : (0 : Int) ≤ i := by omega
    by_cases hlt : i < l
    · have hi1 : (i : Int) < l := by omega
      obtain ⟨b, o, u0, u1, rfl, hc, HC⟩ := HE.out i hlt
      have HCL := hiD (HC wr HB.out)
      have a0 := (hc.later HB.out).2 0 _ rfl
      have a1 := (hc.later HB.out).2 1 _ rfl
      simp only [Nat.add_zero] at a0
      clear HC hc hlt
      go_wp2_with fail
      refine HCL.out.mono ?_
      rintro r w1 ⟨rfl, b1⟩
      have HB := hiD (HB.out.trans (b1.mono HB.out.size))
      clear b1 a0 a1
      go_wp2_with fail
      go_roundw
      case rel => exact ⟨i + 1, by omega, by go_num, HB.out⟩
      case measure => simp [intOf]; omega
    · have hi1 : ¬ (i : Int) < l := by omega
      go_wp2_with fail
      go_ret
      exact ⟨rfl, HB.out⟩
set_option maxRecDepth 100000 in
set_option maxHeartbeats 2000000 in
theorem conD {W : World} {p l c : Nat} {q : Option Addr} (hl : l ≤ 100000) (hE : ∀ i, i < l → ∃ (b o : Nat) (u0 u1 : Value), q = some ⟨b, o, none⟩ ∧ AtC W b (o + i * 2) [u0, u1] ∧ ∀ W', Below W.heap.size W W' → Calls Tryz.prog 82 #[.agg #[u0, u1], .pointer (some ⟨p, 0, none⟩)] W' fun r w' => r = .returned (.bool false) ∧ Below W'.heap.size W' w') :
    Calls Tryz.prog 81 #[.slice q l c, .func (.func 82) #[] #[.pointer (some ⟨p, 0, none⟩)]] W fun r w' => r = .returned (.bool false) ∧ Below W.heap.size W w' := by
  have HI := hiD (idxD (c := c) hl hE)
  clear hE hl
  go_enter Tryz.func81, Tryz.ntmps81
  go_wp2_with fail
  refine HI.out.mono ?_
  rintro r w1 ⟨rfl, b1⟩
  have HB := hiD b1
  clear b1
  go_wp2_with fail
  go_ret
  exact ⟨rfl, HB.out⟩
set_option maxRecDepth 100000 in
set_option maxHeartbeats 2000000 in
theorem cloD {W : World} {p : Nat} {u0 u1 : Value} (hp : W.cell? ⟨p, 0, none⟩ = some (.func (.func 59) #[] #[])) (HS : ∀ W', Below W.heap.size W W' → Calls Tryz.prog 59 #[.agg #[u0, u1]] W' fun r w' => r = .returned (.bool true) ∧ Below W'.heap.size W' w') :
    Calls Tryz.prog 82 #[.agg #[u0, u1], .pointer (some ⟨p, 0, none⟩)] W fun r w' => r = .returned (.bool false) ∧ Below W.heap.size W w' := by
  have HB0 : Hid (Below W.heap.size W (W.alloc (.cells #[u0, u1] 53))) := (Below.refl _ _).alloc (Nat.le_refl _) _
  have HH := hiD (HS _ HB0.out)
  have hp1 := (HB0.out.cell (p := ⟨p, 0, none⟩) (World.block_lt_of_cell? W _ hp)).trans hp
  clear HS hp
  go_enter Tryz.func82, Tryz.ntmps82
  go_wp2_with fail
  refine HH.out.mono ?_
  rintro r w1 ⟨rfl, b1⟩
  have HB := hiD (HB0.out.trans (b1.mono HB0.out.size))
  clear b1
  go_wp2_with fail
  go_ret
  exact ⟨rfl, HB.out⟩
set_option maxRecDepth 100000 in
set_option maxHeartbeats 2000000 in
theorem allD {W : World} {l c : Nat} {q : Option Addr} (hl : l ≤ 100000) (hE : ∀ i, i < l → ∃ (b o : Nat) (u0 u1 : Value), q = some ⟨b, o, none⟩ ∧ AtC W b (o + i * 2) [u0, u1] ∧ ∀ W', Below W.heap.size W W' → Calls Tryz.prog 59 #[.agg #[u0, u1]] W' fun r w' => r = .returned (.bool true) ∧ Below W'.heap.size W' w') :
    Calls Tryz.prog 58 #[.slice q l c, .func (.func 59) #[] #[]] W fun r w' => r = .returned (.bool true) ∧ Below W.heap.size W w' := by
  have HB0 : Hid (Below W.heap.size W (W.alloc (.cells #[.func (.func 59) #[] #[]] 110))) := (Below.refl _ _).alloc (Nat.le_refl _) _
  have hbox : Arr (W.alloc (.cells #[.func (.func 59) #[] #[]] 110)) 110 W.heap.size [.func (.func 59) #[] #[]] := Arr.new' _ _ _ _ rfl
  have HI := hiD (conD (W := W.alloc (.cells #[.func (.func 59) #[] #[]] 110)) (p := W.heap.size) (q := q) (c := c) hl fun i hi => by
    obtain ⟨b, o, u0, u1, e, hc, HS⟩ := hE i hi
    exact ⟨b, o, u0, u1, e, hc.later HB0.out, fun W' hW => cloD ((hW.cell (p := ⟨W.heap.size, 0, none⟩) hbox.lt).trans (hbox.cell 0)) fun W2 h2 => HS W2 (HB0.out.trans ((hW.trans (h2.mono hW.size)).mono HB0.out.size))⟩)
  clear hE hbox hl
  go_enter Tryz.func58, Tryz.ntmps58
  go_wp2_with fail
  refine HI.out.mono ?_
  rintro r w1 ⟨rfl, b1⟩
  have HB := hiD (HB0.out.trans (b1.mono HB0.out.size))
  clear b1
  go_wp2_with fail
  go_ret
  exact ⟨rfl, HB.out⟩
set_option maxRecDepth 100000 in
set_option maxHeartbeats 2000000 in
theorem idxM {W : World} {p l c : Nat} {q : Option Addr} (hl : l ≤ 100000) (hE : ∀ i, i < l → ∃ (b o : Nat) (u0 u1 u2 u3 u4 u5 u6 : Value), q = some ⟨b, o, none⟩ ∧ AtC W b (o + i * 7) [u0, u1, u2, u3, u4, u5, u6] ∧ ∀ W', Below W.heap.size W W' → Calls Tryz.prog 100 #[.agg #[u0, u1, u2, u3, u4, u5, u6], .pointer (some ⟨p, 0, none⟩)] W' fun r w' => r = .returned (.bool false) ∧ Below W'.heap.size W' w') :
    Calls Tryz.prog 109 #[.slice q l c, .func (.func 100) #[] #[.pointer (some ⟨p, 0, none⟩)]] W fun r w' => r = .returned (.int .i64 (-1)) ∧ Below W.heap.size W w' := by
  have HE := hiD hE
  have hz : (l : Int) ≤ 100000 := by omega
  clear hE hl
  go_enter Tryz.func109, Tryz.ntmps109
  go_wp2_with fail
  go_loopw [8] (fun iv wr => ∃ i : Nat, i ≤ l ∧ iv = .int .i64 i ∧ Hid (Below W.heap.size W wr)) (fun iv _ => l - (intOf iv).toNat)
  case atStart => exact ⟨0, Nat.zero_le _, rfl, Below.refl _ _⟩
  case round =>
    obtain ⟨i, hi, rfl, HB⟩ := hrel
    have hi0 : (0 : Int) ≤ i := by omega
    by_cases hlt : i < l
    · have hi1 : (i : Int) < l := by omega
      obtain ⟨b, o, u0, u1, u2, u3, u4, u5, u6, rfl, hc, HC⟩ := HE.out i hlt
      have HCL := hiD (HC wr HB.out)
      have a0 := (hc.later HB.out).2 0 _ rfl
      have a1 := (hc.later HB.out).2 1 _ rfl
      have a2 := (hc.later HB.out).2 2 _ rfl
      have a3 := (hc.later HB.out).2 3 _ rfl
      have a4 := (hc.later HB.out).2 4 _ rfl
      have a5 := (hc.later HB.out).2 5 _ rfl
      have a6 := (hc.later HB.out).2 6 _ rfl
      simp only [Nat.add_zero] at a0
      clear HC hc hlt
      go_wp2_with fail
      refine HCL.out.mono ?_
      rintro r w1 ⟨rfl, b1⟩
      have HB := hiD (HB.out.trans (b1.mono HB.out.size))
      clear b1 a0 a1 a2 a3 a4 a5 a6
      go_wp2_with fail
      go_roundw
      case rel => exact ⟨i + 1, by omega, by go_num, HB.out⟩
      case measure => simp [intOf]; omega
    · have hi1 : ¬ (i : Int) < l := by omega
      go_wp2_with fail
      go_ret
      exact ⟨rfl, HB.out⟩
set_option maxRecDepth 100000 in
set_option maxHeartbeats 2000000 in
theorem conM {W : World} {p l c : Nat} {q : Option Addr} (hl : l ≤ 100000) (hE : ∀ i, i < l → ∃ (b o : Nat) (u0 u1 u2 u3 u4 u5 u6 : Value), q = some ⟨b, o, none⟩ ∧ AtC W b (o + i * 7) [u0, u1, u2, u3, u4, u5, u6] ∧ ∀ W', Below W.heap.size W W' → Calls Tryz.prog 100 #[.agg #[u0, u1, u2, u3, u4, u5, u6], .pointer (some ⟨p, 0, none⟩)] W' fun r w' => r = .returned (.bool false) ∧ Below W'.heap.size W' w') :
    Calls Tryz.prog 99 #[.slice q l c, .func (.func 100) #[] #[.pointer (some ⟨p, 0, none⟩)]] W fun r w' => r = .returned (.bool false) ∧ Below W.heap.size W w' := by
  have HI := hiD (idxM (c := c) hl hE)
  clear hE hl
  go_enter Tryz.func99, Tryz.ntmps99
  go_wp2_with fail
  refine HI.out.mono ?_
  rintro r w1 ⟨rfl, b1⟩
  have HB := hiD b1
  clear b1
  go_wp2_with fail
  go_ret
  exact ⟨rfl, HB.out⟩
set_option maxRecDepth 100000 in
set_option maxHeartbeats 2000000 in
theorem cloM {W : World} {p : Nat} {u0 u1 u2 u3 u4 u5 u6 : Value} (hp : W.cell? ⟨p, 0, none⟩ = some (.func (.func 84) #[] #[])) (HS : ∀ W', Below W.heap.size W W' → Calls Tryz.prog 84 #[.agg #[u0, u1, u2, u3, u4, u5, u6]] W' fun r w' => r = .returned (.bool true) ∧ Below W'.heap.size W' w') :
    Calls Tryz.prog 100 #[.agg #[u0, u1, u2, u3, u4, u5, u6], .pointer (some ⟨p, 0, none⟩)] W fun r w' => r = .returned (.bool false) ∧ Below W.heap.size W w' := by
  have HB0 : Hid (Below W.heap.size W (W.alloc (.cells #[u0, u1, u2, u3, u4, u5, u6] 66))) := (Below.refl _ _).alloc (Nat.le_refl _) _
  have HH := hiD (HS _ HB0.out)
  have hp1 := (HB0.out.cell (p := ⟨p, 0, none⟩) (World.block_lt_of_cell? W _ hp)).trans hp
  clear HS hp
  go_enter Tryz.func100, Tryz.ntmps100
  go_wp2_with fail
  refine HH.out.mono ?_
  rintro r w1 ⟨rfl, b1⟩
  have HB := hiD (HB0.out.trans (b1.mono HB0.out.size))
  clear b1
  go_wp2_with fail
  go_ret
  exact ⟨rfl, HB.out⟩
set_option maxRecDepth 100000 in
set_option maxHeartbeats 2000000 in
theorem allM {W : World} {l c : Nat} {q : Option Addr} (hl : l ≤ 100000) (hE : ∀ i, i < l → ∃ (b o : Nat) (u0 u1 u2 u3 u4 u5 u6 : Value), q = some ⟨b, o, none⟩ ∧ AtC W b (o + i * 7) [u0, u1, u2, u3, u4, u5, u6] ∧ ∀ W', Below W.heap.size W W' → Calls Tryz.prog 84 #[.agg #[u0, u1, u2, u3, u4, u5, u6]] W' fun r w' => r = .returned (.bool true) ∧ Below W'.heap.size W' w') :
    Calls Tryz.prog 83 #[.slice q l c, .func (.func 84) #[] #[]] W fun r w' => r = .returned (.bool true) ∧ Below W.heap.size W w' := by
  have HB0 : Hid (Below W.heap.size W (W.alloc (.cells #[.func (.func 84) #[] #[]] 82))) := (Below.refl _ _).alloc (Nat.le_refl _) _
  have hbox : Arr (W.alloc (.cells #[.func (.func 84) #[] #[]] 82)) 82 W.heap.size [.func (.func 84) #[] #[]] := Arr.new' _ _ _ _ rfl
  have HI := hiD (conM (W := W.alloc (.cells #[.func (.func 84) #[] #[]] 82)) (p := W.heap.size) (q := q) (c := c) hl fun i hi => by
    obtain ⟨b, o, u0, u1, u2, u3, u4, u5, u6, e, hc, HS⟩ := hE i hi
    exact ⟨b, o, u0, u1, u2, u3, u4, u5, u6, e, hc.later HB0.out, fun W' hW => cloM ((hW.cell (p := ⟨W.heap.size, 0, none⟩) hbox.lt).trans (hbox.cell 0)) fun W2 h2 => HS W2 (HB0.out.trans ((hW.trans (h2.mono hW.size)).mono HB0.out.size))⟩)
  clear hE hbox hl
  go_enter Tryz.func83, Tryz.ntmps83
  go_wp2_with fail
  refine HI.out.mono ?_
  rintro r w1 ⟨rfl, b1⟩
  have HB := hiD (HB0.out.trans (b1.mono HB0.out.size))
  clear b1
  go_wp2_with fail
  go_ret
  exact ⟨rfl, HB.out⟩
set_option maxRecDepth 100000 in
set_option maxHeartbeats 2000000 in
theorem idxA {W : World} {p l c : Nat} {q : Option Addr} (hl : l ≤ 100000) (hE : ∀ i, i < l → ∃ (b o : Nat) (u0 u1 : Value), q = some ⟨b, o, none⟩ ∧ AtC W b (o + i * 2) [u0, u1] ∧ ∀ W', Below W.heap.size W W' → Calls Tryz.prog 111 #[.agg #[u0, u1], .pointer (some ⟨p, 0, none⟩)] W' fun r w' => r = .returned (.bool false) ∧ Below W'.heap.size W' w') :
    Calls Tryz.prog 118 #[.slice q l c, .func (.func 111) #[] #[.pointer (some ⟨p, 0, none⟩)]] W fun r w' => r = .returned (.int .i64 (-1)) ∧ Below W.heap.size W w' := by
  have HE := hiD hE
  have hz : (l : Int) ≤ 100000 := by omega
  clear hE hl
  go_enter Tryz.func118, Tryz.ntmps118
  go_wp2_with fail
  go_loopw [8] (fun iv wr => ∃ i : Nat, i ≤ l ∧ iv = .int .i64 i ∧ Hid (Below W.heap.size W wr)) (fun iv _ => l - (intOf iv).toNat)
  case atStart => exact ⟨0, Nat.zero_le _, rfl, Below.refl _ _⟩
  case round =>
    obtain ⟨i, hi, rfl, HB⟩ := hrel
    have hi0 : (0 : Int) ≤ i := by omega
    by_cases hlt : i < l
    · have hi1 : (i : Int) < l := by omega
      obtain ⟨b, o, u0, u1, rfl, hc, HC⟩ := HE.out i hlt
      have HCL := hiD (HC wr HB.out)
      have a0 := (hc.later HB.out).2 0 _ rfl
      have a1 := (hc.later HB.out).2 1 _ rfl
      simp only [Nat.add_zero] at a0
      clear HC hc hlt
      go_wp2_with fail
      refine HCL.out.mono ?_
      rintro r w1 ⟨rfl, b1⟩
      have HB := hiD (HB.out.trans (b1.mono HB.out.size))
      clear b1 a0 a1
      go_wp2_with fail
      go_roundw
      case rel => exact ⟨i + 1, by omega, by go_num, HB.out⟩
      case measure => simp [intOf]; omega
    · have hi1 : ¬ (i : Int) < l := by omega
      go_wp2_with fail
      go_ret
      exact ⟨rfl, HB.out⟩
set_option maxRecDepth 100000 in
set_option maxHeartbeats 2000000 in
theorem conA {W : World} {p l c : Nat} {q : Option Addr} (hl : l ≤ 100000) (hE : ∀ i, i < l → ∃ (b o : Nat) (u0 u1 : Value), q = some ⟨b, o, none⟩ ∧ AtC W b (o + i * 2) [u0, u1] ∧ ∀ W', Below W.heap.size W W' → Calls Tryz.prog 111 #[.agg #[u0, u1], .pointer (some ⟨p, 0, none⟩)] W' fun r w' => r = .returned (.bool false) ∧ Below W'.heap.size W' w') :
    Calls Tryz.prog 110 #[.slice q l c, .func (.func 111) #[] #[.pointer (some ⟨p, 0, none⟩)]] W fun r w' => r = .returned (.bool false) ∧ Below W.heap.size W w' := by
  have HI := hiD (idxA (c := c) hl hE)
  clear hE hl
  go_enter Tryz.func110, Tryz.ntmps110
  go_wp2_with fail
  refine HI.out.mono ?_
  rintro r w1 ⟨rfl, b1⟩
  have HB := hiD b1
  clear b1
  go_wp2_with fail
  go_ret
  exact ⟨rfl, HB.out⟩
set_option maxRecDepth 100000 in
set_option maxHeartbeats 2000000 in
theorem cloA {W : World} {p : Nat} {u0 u1 : Value} (hp : W.cell? ⟨p, 0, none⟩ = some (.func (.func 102) #[] #[])) (HS : ∀ W', Below W.heap.size W W' → Calls Tryz.prog 102 #[.agg #[u0, u1]] W' fun r w' => r = .returned (.bool true) ∧ Below W'.heap.size W' w') :
    Calls Tryz.prog 111 #[.agg #[u0, u1], .pointer (some ⟨p, 0, none⟩)] W fun r w' => r = .returned (.bool false) ∧ Below W.heap.size W w' := by
  have HB0 : Hid (Below W.heap.size W (W.alloc (.cells #[u0, u1] 70))) := (Below.refl _ _).alloc (Nat.le_refl _) _
  have HH := hiD (HS _ HB0.out)
  have hp1 := (HB0.out.cell (p := ⟨p, 0, none⟩) (World.block_lt_of_cell? W _ hp)).trans hp
  clear HS hp
  go_enter Tryz.func111, Tryz.ntmps111
  go_wp2_with fail
  refine HH.out.mono ?_
  rintro r w1 ⟨rfl, b1⟩
  have HB := hiD (HB0.out.trans (b1.mono HB0.out.size))
  clear b1
  go_wp2_with fail
  go_ret
  exact ⟨rfl, HB.out⟩
set_option maxRecDepth 100000 in
set_option maxHeartbeats 2000000 in
theorem allA {W : World} {l c : Nat} {q : Option Addr} (hl : l ≤ 100000) (hE : ∀ i, i < l → ∃ (b o : Nat) (u0 u1 : Value), q = some ⟨b, o, none⟩ ∧ AtC W b (o + i * 2) [u0, u1] ∧ ∀ W', Below W.heap.size W W' → Calls Tryz.prog 102 #[.agg #[u0, u1]] W' fun r w' => r = .returned (.bool true) ∧ Below W'.heap.size W' w') :
    Calls Tryz.prog 101 #[.slice q l c, .func (.func 102) #[] #[]] W fun r w' => r = .returned (.bool true) ∧ Below W.heap.size W w' := by
  have HB0 : Hid (Below W.heap.size W (W.alloc (.cells #[.func (.func 102) #[] #[]] 113))) := (Below.refl _ _).alloc (Nat.le_refl _) _
  have hbox : Arr (W.alloc (.cells #[.func (.func 102) #[] #[]] 113)) 113 W.heap.size [.func (.func 102) #[] #[]] := Arr.new' _ _ _ _ rfl
  have HI := hiD (conA (W := W.alloc (.cells #[.func (.func 102) #[] #[]] 113)) (p := W.heap.size) (q := q) (c := c) hl fun i hi => by
    obtain ⟨b, o, u0, u1, e, hc, HS⟩ := hE i hi
    exact ⟨b, o, u0, u1, e, hc.later HB0.out, fun W' hW => cloA ((hW.cell (p := ⟨W.heap.size, 0, none⟩) hbox.lt).trans (hbox.cell 0)) fun W2 h2 => HS W2 (HB0.out.trans ((hW.trans (h2.mono hW.size)).mono HB0.out.size))⟩)
  clear hE hbox hl
  go_enter Tryz.func101, Tryz.ntmps101
  go_wp2_with fail
  refine HI.out.mono ?_
  rintro r w1 ⟨rfl, b1⟩
  have HB := hiD (HB0.out.trans (b1.mono HB0.out.size))
  clear b1
  go_wp2_with fail
  go_ret
  exact ⟨rfl, HB.out⟩
def stV : St → Value
 | .go _ => .nilIface
 | .er c a => faultN c a
def K2 (cb rb : Nat) (W W' : World) : Prop := W'.os = W.os ∧ W'.tape = W.tape ∧ W'.output = W.output ∧ W.heap.size ≤ W'.heap.size ∧ ∀ k, k < W.heap.size → k ≠ cb → k ≠ rb → W'.heap[k]? = W.heap[k]?
theorem K2.of {cb rb : Nat} {W W' : World} (h : Below W.heap.size W W') : K2 cb rb W W' := ⟨h.os, h.tape, h.output, h.size, fun k hk _ _ => h.block k hk⟩
theorem K2.refl (cb rb : Nat) (W : World) : K2 cb rb W W := K2.of (Below.refl _ _)
theorem K2.trans {cb rb : Nat} {W W' W2 : World} (h : K2 cb rb W W') (g : K2 cb rb W' W2) : K2 cb rb W W2 :=
 ⟨g.1.trans h.1, g.2.1.trans h.2.1, g.2.2.1.trans h.2.2.1, Nat.le_trans h.2.2.2.1 g.2.2.2.1, fun k hk h1 h2 => (g.2.2.2.2 k (Nat.lt_of_lt_of_le hk h.2.2.2.1) h1 h2).trans (h.2.2.2.2 k hk h1 h2)⟩
theorem K2.grown {cb rb : Nat} {W W' : World} (h : W.grownBy W' (some cb)) : K2 cb rb W W' := ⟨h.os, h.tape, h.output, h.size, fun k hk h1 _ => h.block k hk (fun e => h1 (Option.some.inj e))⟩
theorem K2.set {cb rb : Nat} {W W' : World} (h : K2 cb rb W W') (i : Nat) (v : Value) : K2 cb rb W (W'.setCell ⟨rb, i, none⟩ v) := h.trans ⟨rfl, rfl, rfl, by simp [World.setCell], fun k hk _ hn => Below.heap_setCell W' ⟨rb, i, none⟩ v k hn⟩
theorem K2.box {cb rb : Nat} {W W' : World} (h : K2 cb rb W W') {g : Nat} (hg : W.heap.size ≤ g) (i : Nat) (v : Value) : K2 cb rb W (W'.setCell ⟨g, i, none⟩ v) :=
 ⟨h.1, h.2.1, h.2.2.1, by simpa [World.setCell] using h.2.2.2.1, fun k hk h1 h2 => (Below.heap_setCell W' ⟨g, i, none⟩ v k (by show k ≠ g; omega)).trans (h.2.2.2.2 k hk h1 h2)⟩
theorem K2.arr {cb rb : Nat} {W W' : World} (h : K2 cb rb W W') {t : TypeId} {g : Nat} {cs : List Value} (hA : Arr W t g cs) (h1 : g ≠ cb) (h2 : g ≠ rb) : Arr W' t g cs := (h.2.2.2.2 g hA.lt h1 h2).trans hA
theorem K2.below {cb rb B : Nat} {W W' : World} (h : K2 cb rb W W') (h1 : B ≤ cb) (h2 : B ≤ rb) (h3 : B ≤ W.heap.size) : Below B W W' := ⟨h.1, h.2.1, h.2.2.1, h.2.2.2.1, fun k hk => h.2.2.2.2 k (by omega) (by omega) (by omega)⟩
def RS (cb rb : Nat) (b : List UInt8) (lv : Nat) (s : St) (w : World) : Prop :=
 ∃ o, Cur w cb b o ∧ Arr w 92 rb [.pointer (some ⟨cb, 0, none⟩), stV s, .int .i64 (lv : Nat)] ∧ EnvC cb w ∧ cb < rb ∧ lv ≤ 32 ∧ b.length ≤ 1000000 ∧ ∀ o', s = .go o' → o' = o
theorem RS.lt {cb rb : Nat} {b : List UInt8} {lv : Nat} {s : St} {w : World} (h : RS cb rb b lv s w) : cb < rb ∧ rb < w.heap.size := by obtain ⟨o, _, h, _, h2, _⟩ := h; exact ⟨h2, h.lt⟩
theorem EnvC.below' {c C : Nat} {w w' : World} (h : EnvC c w) (hb : Below C w w') (hC : c ≤ C) : EnvC c w' := by
 obtain ⟨wE, h1, h2, h3⟩ := h
 exact ⟨wE, h1, h2, h3.trans (hb.mono (Nat.le_trans h2 hC))⟩
theorem RS.below {cb rb C : Nat} {b : List UInt8} {lv : Nat} {s : St} {w w' : World} (h : RS cb rb b lv s w) (hb : Below C w w') (hC : rb < C) : RS cb rb b lv s w' := by
 obtain ⟨o, h1, h2, h3, h4, h5⟩ := h
 exact ⟨o, h1.below hb (by omega), h2.below hb hC, h3.below' hb (by omega), h4, h5⟩
theorem RS.later {cb rb : Nat} {b : List UInt8} {lv : Nat} {s : St} {w w' : World} (h : RS cb rb b lv s w) (hb : Below w.heap.size w w') : RS cb rb b lv s w' := h.below hb h.lt.2
theorem RS.box {cb rb : Nat} {b : List UInt8} {lv : Nat} {s : St} {w : World} (h : RS cb rb b lv s w) {g : Nat} (hg : rb < g) (i : Nat) (v : Value) : RS cb rb b lv s (w.setCell ⟨g, i, none⟩ v) :=
 h.below (C := rb + 1) ((Below.refl _ _).setCell (by show rb + 1 ≤ g; omega) v) (Nat.lt_succ_self _)
theorem RS.moved {cb rb o o' : Nat} {b : List UInt8} {lv : Nat} {w w' : World} (h : RS cb rb b lv (.go o) w) (hg : w.grownBy w' (some cb)) (hc : Cur w' cb b o') : RS cb rb b lv (.go o') w' := by
 obtain ⟨x, h1, h2, h3, h4, h5, h6, h7⟩ := h
 exact ⟨o', hc, h2.grown hg (by omega), h3.grown hg, h4, h5, h6, fun _ e => by cases e; rfl⟩
theorem RS.fails {cb rb : Nat} {b : List UInt8} {lv : Nat} {s : St} {w : World} (h : RS cb rb b lv s w) (c a : Nat) : RS cb rb b lv (.er c a) (w.setCell ⟨rb, 1, none⟩ (faultN c a)) := by
 obtain ⟨o, h1, h2, h3, h4, h5, h6, _⟩ := h
 exact ⟨o, h1.below (C := rb) ((Below.refl rb w).setCell (p := ⟨rb, 1, none⟩) (Nat.le_refl _) _) h4, h2.set 1 _, h3.cell (Nat.le_of_lt h4) _, h4, h5, h6, fun _ e => by cases e⟩
theorem RS.leaves {cb rb : Nat} {b : List UInt8} {lv n : Nat} {s : St} {w : World} (h : RS cb rb b lv s w) (hn : n ≤ 32) : RS cb rb b n s (w.setCell ⟨rb, 2, none⟩ (.int .i64 (n : Nat))) := by
 obtain ⟨o, h1, h2, h3, h4, _, h6, h7⟩ := h
 exact ⟨o, h1.below (C := rb) ((Below.refl rb w).setCell (p := ⟨rb, 2, none⟩) (Nat.le_refl _) _) h4, h2.set 2 _, h3.cell (Nat.le_of_lt h4) _, h4, hn, h6, h7⟩
theorem RS.at {cb rb o : Nat} {b : List UInt8} {lv : Nat} {w : World} (h : RS cb rb b lv (.go o) w) : Cur w cb b o := by
 obtain ⟨x, h1, _, _, _, _, _, h7⟩ := h
 rw [h7 o rfl]; exact h1
theorem RS.arr {cb rb : Nat} {b : List UInt8} {lv : Nat} {s : St} {w : World} (h : RS cb rb b lv s w) : Arr w 92 rb [.pointer (some ⟨cb, 0, none⟩), stV s, .int .i64 (lv : Nat)] := by obtain ⟨o, _, h, _⟩ := h; exact h
theorem RS.env {cb rb : Nat} {b : List UInt8} {lv : Nat} {s : St} {w : World} (h : RS cb rb b lv s w) : Env w := by obtain ⟨o, _, _, h, _⟩ := h; exact h.env
theorem RS.len {cb rb : Nat} {b : List UInt8} {lv : Nat} {s : St} {w : World} (h : RS cb rb b lv s w) : b.length ≤ 1000000 ∧ lv ≤ 32 := by obtain ⟨o, _, _, _, _, h1, h2, _⟩ := h; exact ⟨h2, h1⟩
theorem RS.off {cb rb o : Nat} {b : List UInt8} {lv : Nat} {w : World} (h : RS cb rb b lv (.go o) w) : o ≤ b.length := by obtain ⟨_, _, _, h, _⟩ := h.at; exact h
theorem errV_ne {c : Nat} (h : c ≠ 0) : errV c = .iface 73 (.int .i64 c) := if_neg h
theorem errV_0 : errV 0 = .nilIface := rfl
section
variable {cb rb lv : Nat} {b : List UInt8} {s : St} {W : World}
set_option maxRecDepth 100000 in
set_option maxHeartbeats 2000000 in
theorem fail_any {o : Nat} (c a : Nat) (h : RS cb rb b lv (.go o) W) : Calls Tryz.prog 50 #[.pointer (some ⟨rb, 0, none⟩), .int .i64 (c : Nat), .int .i64 (a : Nat)] W fun e w' => e = .returned (.tuple #[]) ∧ RS cb rb b lv (.er c a) w' ∧ K2 cb rb W w' := by
 have HS := hiD h
 have HA : Hid (Arr W 92 rb [.pointer (some ⟨cb, 0, none⟩), .nilIface, .int .i64 (lv : Nat)]) := h.arr
 obtain ⟨x0, y0, x1, y1, x2, y2⟩ := HA.out.all3
 clear h
 go_enter Tryz.func50, Tryz.ntmps50
 go_wp2_with fail
 refine (fnew_any _ _ _).mono ?_
 rintro e w1 ⟨rfl, rfl⟩
 go_wp2_with fail
 go_end0
 exact ⟨rfl, HS.out.fails c a, (K2.refl _ _ _).set 1 _⟩
set_option maxRecDepth 100000 in
set_option maxHeartbeats 2000000 in
theorem numberK {p1 p2 : Value} {chk : Nat → Nat} (h : RS cb rb b lv s W) (hs : ∀ x, chk x = 0 → x ≤ 1000)
  (HC : ∀ (x : Nat) W' s', K2 cb rb W W' → RS cb rb b lv s' W' → Calls Tryz.prog 70 #[.int .u64 (x : Nat), p1, p2] W' fun e w' => e = .returned (.int .i64 (chk x : Nat)) ∧ Below W'.heap.size W' w') :
  Calls Tryz.prog 69 #[.pointer (some ⟨rb, 0, none⟩), (.func (.func 70) #[] #[p1, p2])] W fun e w' => e = .returned (.int .i64 ((numC b chk s).1 : Nat)) ∧ RS cb rb b lv (numC b chk s).2 w' ∧ K2 cb rb W w' := by
 have HS := hiD h
 have HA := hiD h.arr
 have HC := hiD HC
 have HH := hiD hs
 clear h hs
 cases s with
 | er c a =>
  have HA : Hid (Arr W 92 rb [.pointer (some ⟨cb, 0, none⟩), .iface 105 (.agg #[.int .i64 (c : Nat), .int .i64 (a : Nat)]), .int .i64 (lv : Nat)]) := HA.out
  have hq := eqNF (c : Nat) (a : Nat)
  obtain ⟨x0, y0, x1, y1, x2, y2⟩ := HA.out.all3
  go_enter Tryz.func69, Tryz.ntmps69
  go_wp2_with fail
  go_ret
  exact ⟨rfl, HS.out, K2.refl _ _ _⟩
 | go o =>
  have HA : Hid (Arr W 92 rb [.pointer (some ⟨cb, 0, none⟩), .nilIface, .int .i64 (lv : Nat)]) := HA.out
  have HN := hiD (Number_any HS.out.at)
  have HOF := hiD HS.out.off
  have HBL := hiD HS.out.len.1
  obtain ⟨x0, y0, x1, y1, x2, y2⟩ := HA.out.all3
  go_enter Tryz.func69, Tryz.ntmps69
  go_wp2_with fail
  refine (at_any HS.out.at).mono ?_
  rintro e w1 ⟨rfl, rfl⟩
  go_wp2_with fail
  refine HN.out.mono ?_
  rintro e w2 ⟨rfl, hc2, hg2⟩
  have HS2 := hiD (HS.out.moved hg2 hc2)
  have HK2 : Hid (K2 cb rb W w2) := K2.grown hg2
  have HA2 : Hid (Arr w2 92 rb [.pointer (some ⟨cb, 0, none⟩), .nilIface, .int .i64 (lv : Nat)]) := HS2.out.arr
  clear hc2 hg2 HN HS HA x0 x1 x2 y0 y1 y2
  obtain ⟨x0, y0, x1, y1, x2, y2⟩ := HA2.out.all3
  by_cases h1 : (num (b.drop o)).2.2 ≠ 0
  ·have HE : Hid (numC b chk (.go o) = (0, .er (num (b.drop o)).2.2 o)) := numC_1 h1
   have HSH := hiD (shift_Cn (num (b.drop o)).2.2 o w2 HS2.out.env.2 (by have := HOF.out; have := HBL.out; omega))
   rw [errV_ne h1]
   obtain ⟨cc, hcc⟩ : ∃ x, x = (num (b.drop o)).2.2 := ⟨_, rfl⟩
   rw [← hcc] at HE HSH ⊢
   have hq := eqNC (cc : Nat)
   clear h1 hcc HA2
   go_wp2_with fail
   refine HSH.out.mono ?_
   rintro e w3 ⟨rfl, b3⟩
   have HS3 := hiD (HS2.out.later b3)
   have HK3 := hiD (HK2.out.trans (K2.of b3))
   have HA3 : Hid (Arr w3 92 rb [.pointer (some ⟨cb, 0, none⟩), .nilIface, .int .i64 (lv : Nat)]) := HS3.out.arr
   clear b3 HS2 HK2 HSH x0 x1 x2 y0 y1 y2
   obtain ⟨x0, y0, x1, y1, x2, y2⟩ := HA3.out.all3
   unfold faultN
   go_wp2_with fail
   go_ret
   rw [HE.out]
   exact ⟨rfl, HS3.out.fails cc o, HK3.out.set 1 _⟩
  ·have e0 : errV (num (b.drop o)).2.2 = .nilIface := by rw [Classical.not_not.1 h1]; rfl
   rw [e0]
   have HCX := hiD (HC.out (num (b.drop o)).1 w2 _ HK2.out HS2.out)
   have HE2 : Hid (∀ k, chk (num (b.drop o)).1 = k → k ≠ 0 → numC b chk (.go o) = (0, .er k o)) := fun k hk h2 => by rw [numC_2 h1 (by rw [hk]; exact h2), hk]
   have HE3 : Hid (chk (num (b.drop o)).1 = 0 → numC b chk (.go o) = ((num (b.drop o)).1, .go (o + (num (b.drop o)).2.1))) := fun h => numC_3 h1 (by rw [h]; decide)
   have HX : Hid (chk (num (b.drop o)).1 = 0 → (num (b.drop o)).1 ≤ 1000) := HH.out _
   obtain ⟨x, hx⟩ : ∃ x, x = (num (b.drop o)).1 := ⟨_, rfl⟩
   obtain ⟨n, hn⟩ : ∃ x, x = (num (b.drop o)).2.1 := ⟨_, rfl⟩
   rw [← hx] at HCX HE2 HE3 HX ⊢
   rw [← hn] at HS2 HE3
   obtain ⟨k, hk⟩ : ∃ k, k = chk x := ⟨_, rfl⟩
   rw [← hk] at HCX HE2 HE3 HX
   clear h1 e0 hx hn HC HH
   go_wp2_with fail
   refine HCX.out.mono ?_
   rintro e w3 ⟨rfl, b3⟩
   have HS3 := hiD (HS2.out.later b3)
   have HK3 := hiD (HK2.out.trans (K2.of b3))
   clear b3 HS2 HK2 HCX HA2 x0 x1 x2 y0 y1 y2
   by_cases h2 : k = 0
   ·subst h2
    have HE := hiD (HE3.out rfl)
    have HX := hiD (HX.out rfl)
    have hw : IntKind.i64.wrap (x : Int) = (x : Int) := by rw [IntKind.wrap_i64]; have := HX.out; omega
    have hw2 : wrap64 (x : Int) = (x : Int) := by unfold wrap64; have := HX.out; omega
    clear HE2 HE3 hk
    go_wp2_with fail
    go_ret
    rw [HE.out]
    exact ⟨rfl, HS3.out, HK3.out⟩
   ·have HE := hiD (HE2.out k rfl h2)
    have h2' : ((k : Int) != 0) = true := by rw [bne_iff_ne]; omega
    have h2'' : ¬ (k : Int) = 0 := by omega
    clear HE2 HE3 hk h2 HX
    go_wp2_with fail
    refine (fail_any k o HS3.out).mono ?_
    rintro e w4 ⟨rfl, h4, k4⟩
    have HS4 := hiD h4
    have HK4 := hiD (HK3.out.trans k4)
    clear h4 k4
    go_wp2_with fail
    go_ret
    rw [HE.out]
    exact ⟨rfl, HS4.out, HK4.out⟩
set_option maxRecDepth 100000 in
set_option maxHeartbeats 2000000 in
theorem numberM {chk : Nat → Nat} (h : RS cb rb b lv s W) (hs : ∀ x, chk x = 0 → x ≤ 1000)
  (HC : ∀ (x : Nat) W' s', K2 cb rb W W' → RS cb rb b lv s' W' → Calls Tryz.prog 74 #[.int .u64 (x : Nat)] W' fun e w' => e = .returned (.int .i64 (chk x : Nat)) ∧ Below W'.heap.size W' w') :
  Calls Tryz.prog 69 #[.pointer (some ⟨rb, 0, none⟩), (.func (.func 74) #[] #[])] W fun e w' => e = .returned (.int .i64 ((numC b chk s).1 : Nat)) ∧ RS cb rb b lv (numC b chk s).2 w' ∧ K2 cb rb W w' := by
 have HS := hiD h
 have HA := hiD h.arr
 have HC := hiD HC
 have HH := hiD hs
 clear h hs
 cases s with
 | er c a =>
  have HA : Hid (Arr W 92 rb [.pointer (some ⟨cb, 0, none⟩), .iface 105 (.agg #[.int .i64 (c : Nat), .int .i64 (a : Nat)]), .int .i64 (lv : Nat)]) := HA.out
  have hq := eqNF (c : Nat) (a : Nat)
  obtain ⟨x0, y0, x1, y1, x2, y2⟩ := HA.out.all3
  go_enter Tryz.func69, Tryz.ntmps69
  go_wp2_with fail
  go_ret
  exact ⟨rfl, HS.out, K2.refl _ _ _⟩
 | go o =>
  have HA : Hid (Arr W 92 rb [.pointer (some ⟨cb, 0, none⟩), .nilIface, .int .i64 (lv : Nat)]) := HA.out
  have HN := hiD (Number_any HS.out.at)
  have HOF := hiD HS.out.off
  have HBL := hiD HS.out.len.1
  obtain ⟨x0, y0, x1, y1, x2, y2⟩ := HA.out.all3
  go_enter Tryz.func69, Tryz.ntmps69
  go_wp2_with fail
  refine (at_any HS.out.at).mono ?_
  rintro e w1 ⟨rfl, rfl⟩
  go_wp2_with fail
  refine HN.out.mono ?_
  rintro e w2 ⟨rfl, hc2, hg2⟩
  have HS2 := hiD (HS.out.moved hg2 hc2)
  have HK2 : Hid (K2 cb rb W w2) := K2.grown hg2
  have HA2 : Hid (Arr w2 92 rb [.pointer (some ⟨cb, 0, none⟩), .nilIface, .int .i64 (lv : Nat)]) := HS2.out.arr
  clear hc2 hg2 HN HS HA x0 x1 x2 y0 y1 y2
  obtain ⟨x0, y0, x1, y1, x2, y2⟩ := HA2.out.all3
  by_cases h1 : (num (b.drop o)).2.2 ≠ 0
  ·have HE : Hid (numC b chk (.go o) = (0, .er (num (b.drop o)).2.2 o)) := numC_1 h1
   have HSH := hiD (shift_Cn (num (b.drop o)).2.2 o w2 HS2.out.env.2 (by have := HOF.out; have := HBL.out; omega))
   rw [errV_ne h1]
   obtain ⟨cc, hcc⟩ : ∃ x, x = (num (b.drop o)).2.2 := ⟨_, rfl⟩
   rw [← hcc] at HE HSH ⊢
   have hq := eqNC (cc : Nat)
   clear h1 hcc HA2
   go_wp2_with fail
   refine HSH.out.mono ?_
   rintro e w3 ⟨rfl, b3⟩
   have HS3 := hiD (HS2.out.later b3)
   have HK3 := hiD (HK2.out.trans (K2.of b3))
   have HA3 : Hid (Arr w3 92 rb [.pointer (some ⟨cb, 0, none⟩), .nilIface, .int .i64 (lv : Nat)]) := HS3.out.arr
   clear b3 HS2 HK2 HSH x0 x1 x2 y0 y1 y2
   obtain ⟨x0, y0, x1, y1, x2, y2⟩ := HA3.out.all3
   unfold faultN
   go_wp2_with fail
   go_ret
   rw [HE.out]
   exact ⟨rfl, HS3.out.fails cc o, HK3.out.set 1 _⟩
  ·have e0 : errV (num (b.drop o)).2.2 = .nilIface := by rw [Classical.not_not.1 h1]; rfl
   rw [e0]
   have HCX := hiD (HC.out (num (b.drop o)).1 w2 _ HK2.out HS2.out)
   have HE2 : Hid (∀ k, chk (num (b.drop o)).1 = k → k ≠ 0 → numC b chk (.go o) = (0, .er k o)) := fun k hk h2 => by rw [numC_2 h1 (by rw [hk]; exact h2), hk]
   have HE3 : Hid (chk (num (b.drop o)).1 = 0 → numC b chk (.go o) = ((num (b.drop o)).1, .go (o + (num (b.drop o)).2.1))) := fun h => numC_3 h1 (by rw [h]; decide)
   have HX : Hid (chk (num (b.drop o)).1 = 0 → (num (b.drop o)).1 ≤ 1000) := HH.out _
   obtain ⟨x, hx⟩ : ∃ x, x = (num (b.drop o)).1 := ⟨_, rfl⟩
   obtain ⟨n, hn⟩ : ∃ x, x = (num (b.drop o)).2.1 := ⟨_, rfl⟩
   rw [← hx] at HCX HE2 HE3 HX ⊢
   rw [← hn] at HS2 HE3
   obtain ⟨k, hk⟩ : ∃ k, k = chk x := ⟨_, rfl⟩
   rw [← hk] at HCX HE2 HE3 HX
   clear h1 e0 hx hn HC HH
   go_wp2_with fail
   refine HCX.out.mono ?_
   rintro e w3 ⟨rfl, b3⟩
   have HS3 := hiD (HS2.out.later b3)
   have HK3 := hiD (HK2.out.trans (K2.of b3))
   clear b3 HS2 HK2 HCX HA2 x0 x1 x2 y0 y1 y2
   by_cases h2 : k = 0
   ·subst h2
    have HE := hiD (HE3.out rfl)
    have HX := hiD (HX.out rfl)
    have hw : IntKind.i64.wrap (x : Int) = (x : Int) := by rw [IntKind.wrap_i64]; have := HX.out; omega
    have hw2 : wrap64 (x : Int) = (x : Int) := by unfold wrap64; have := HX.out; omega
    clear HE2 HE3 hk
    go_wp2_with fail
    go_ret
    rw [HE.out]
    exact ⟨rfl, HS3.out, HK3.out⟩
   ·have HE := hiD (HE2.out k rfl h2)
    have h2' : ((k : Int) != 0) = true := by rw [bne_iff_ne]; omega
    have h2'' : ¬ (k : Int) = 0 := by omega
    clear HE2 HE3 hk h2 HX
    go_wp2_with fail
    refine (fail_any k o HS3.out).mono ?_
    rintro e w4 ⟨rfl, h4, k4⟩
    have HS4 := hiD h4
    have HK4 := hiD (HK3.out.trans k4)
    clear h4 k4
    go_wp2_with fail
    go_ret
    rw [HE.out]
    exact ⟨rfl, HS4.out, HK4.out⟩
set_option maxRecDepth 100000 in
set_option maxHeartbeats 2000000 in
theorem numberP {p1 p2 : Value} {chk : Nat → Nat} (h : RS cb rb b lv s W) (hs : ∀ x, chk x = 0 → x ≤ 1000)
  (HC : ∀ (x : Nat) W' s', K2 cb rb W W' → RS cb rb b lv s' W' → Calls Tryz.prog 85 #[.int .u64 (x : Nat), p1, p2] W' fun e w' => e = .returned (.int .i64 (chk x : Nat)) ∧ Below W'.heap.size W' w') :
  Calls Tryz.prog 69 #[.pointer (some ⟨rb, 0, none⟩), (.func (.func 85) #[] #[p1, p2])] W fun e w' => e = .returned (.int .i64 ((numC b chk s).1 : Nat)) ∧ RS cb rb b lv (numC b chk s).2 w' ∧ K2 cb rb W w' := by
 have HS := hiD h
 have HA := hiD h.arr
 have HC := hiD HC
 have HH := hiD hs
 clear h hs
 cases s with
 | er c a =>
  have HA : Hid (Arr W 92 rb [.pointer (some ⟨cb, 0, none⟩), .iface 105 (.agg #[.int .i64 (c : Nat), .int .i64 (a : Nat)]), .int .i64 (lv : Nat)]) := HA.out
  have hq := eqNF (c : Nat) (a : Nat)
  obtain ⟨x0, y0, x1, y1, x2, y2⟩ := HA.out.all3
  go_enter Tryz.func69, Tryz.ntmps69
  go_wp2_with fail
  go_ret
  exact ⟨rfl, HS.out, K2.refl _ _ _⟩
 | go o =>
  have HA : Hid (Arr W 92 rb [.pointer (some ⟨cb, 0, none⟩), .nilIface, .int .i64 (lv : Nat)]) := HA.out
  have HN := hiD (Number_any HS.out.at)
  have HOF := hiD HS.out.off
  have HBL := hiD HS.out.len.1
  obtain ⟨x0, y0, x1, y1, x2, y2⟩ := HA.out.all3
  go_enter Tryz.func69, Tryz.ntmps69
  go_wp2_with fail
  refine (at_any HS.out.at).mono ?_
  rintro e w1 ⟨rfl, rfl⟩
  go_wp2_with fail
  refine HN.out.mono ?_
  rintro e w2 ⟨rfl, hc2, hg2⟩
  have HS2 := hiD (HS.out.moved hg2 hc2)
  have HK2 : Hid (K2 cb rb W w2) := K2.grown hg2
  have HA2 : Hid (Arr w2 92 rb [.pointer (some ⟨cb, 0, none⟩), .nilIface, .int .i64 (lv : Nat)]) := HS2.out.arr
  clear hc2 hg2 HN HS HA x0 x1 x2 y0 y1 y2
  obtain ⟨x0, y0, x1, y1, x2, y2⟩ := HA2.out.all3
  by_cases h1 : (num (b.drop o)).2.2 ≠ 0
  ·have HE : Hid (numC b chk (.go o) = (0, .er (num (b.drop o)).2.2 o)) := numC_1 h1
   have HSH := hiD (shift_Cn (num (b.drop o)).2.2 o w2 HS2.out.env.2 (by have := HOF.out; have := HBL.out; omega))
   rw [errV_ne h1]
   obtain ⟨cc, hcc⟩ : ∃ x, x = (num (b.drop o)).2.2 := ⟨_, rfl⟩
   rw [← hcc] at HE HSH ⊢
   have hq := eqNC (cc : Nat)
   clear h1 hcc HA2
   go_wp2_with fail
   refine HSH.out.mono ?_
   rintro e w3 ⟨rfl, b3⟩
   have HS3 := hiD (HS2.out.later b3)
   have HK3 := hiD (HK2.out.trans (K2.of b3))
   have HA3 : Hid (Arr w3 92 rb [.pointer (some ⟨cb, 0, none⟩), .nilIface, .int .i64 (lv : Nat)]) := HS3.out.arr
   clear b3 HS2 HK2 HSH x0 x1 x2 y0 y1 y2
   obtain ⟨x0, y0, x1, y1, x2, y2⟩ := HA3.out.all3
   unfold faultN
   go_wp2_with fail
   go_ret
   rw [HE.out]
   exact ⟨rfl, HS3.out.fails cc o, HK3.out.set 1 _⟩
  ·have e0 : errV (num (b.drop o)).2.2 = .nilIface := by rw [Classical.not_not.1 h1]; rfl
   rw [e0]
   have HCX := hiD (HC.out (num (b.drop o)).1 w2 _ HK2.out HS2.out)
   have HE2 : Hid (∀ k, chk (num (b.drop o)).1 = k → k ≠ 0 → numC b chk (.go o) = (0, .er k o)) := fun k hk h2 => by rw [numC_2 h1 (by rw [hk]; exact h2), hk]
   have HE3 : Hid (chk (num (b.drop o)).1 = 0 → numC b chk (.go o) = ((num (b.drop o)).1, .go (o + (num (b.drop o)).2.1))) := fun h => numC_3 h1 (by rw [h]; decide)
   have HX : Hid (chk (num (b.drop o)).1 = 0 → (num (b.drop o)).1 ≤ 1000) := HH.out _
   obtain ⟨x, hx⟩ : ∃ x, x = (num (b.drop o)).1 := ⟨_, rfl⟩
   obtain ⟨n, hn⟩ : ∃ x, x = (num (b.drop o)).2.1 := ⟨_, rfl⟩
   rw [← hx] at HCX HE2 HE3 HX ⊢
   rw [← hn] at HS2 HE3
   obtain ⟨k, hk⟩ : ∃ k, k = chk x := ⟨_, rfl⟩
   rw [← hk] at HCX HE2 HE3 HX
   clear h1 e0 hx hn HC HH
   go_wp2_with fail
   refine HCX.out.mono ?_
   rintro e w3 ⟨rfl, b3⟩
   have HS3 := hiD (HS2.out.later b3)
   have HK3 := hiD (HK2.out.trans (K2.of b3))
   clear b3 HS2 HK2 HCX HA2 x0 x1 x2 y0 y1 y2
   by_cases h2 : k = 0
   ·subst h2
    have HE := hiD (HE3.out rfl)
    have HX := hiD (HX.out rfl)
    have hw : IntKind.i64.wrap (x : Int) = (x : Int) := by rw [IntKind.wrap_i64]; have := HX.out; omega
    have hw2 : wrap64 (x : Int) = (x : Int) := by unfold wrap64; have := HX.out; omega
    clear HE2 HE3 hk
    go_wp2_with fail
    go_ret
    rw [HE.out]
    exact ⟨rfl, HS3.out, HK3.out⟩
   ·have HE := hiD (HE2.out k rfl h2)
    have h2' : ((k : Int) != 0) = true := by rw [bne_iff_ne]; omega
    have h2'' : ¬ (k : Int) = 0 := by omega
    clear HE2 HE3 hk h2 HX
    go_wp2_with fail
    refine (fail_any k o HS3.out).mono ?_
    rintro e w4 ⟨rfl, h4, k4⟩
    have HS4 := hiD h4
    have HK4 := hiD (HK3.out.trans k4)
    clear h4 k4
    go_wp2_with fail
    go_ret
    rw [HE.out]
    exact ⟨rfl, HS4.out, HK4.out⟩
end
section
variable {cb rb lv : Nat} {b : List UInt8} {s : St} {W : World}
set_option maxRecDepth 100000 in
set_option maxHeartbeats 2000000 in
theorem countC {t1 t2 : TypeId} {g1 g2 : Nat} (x lo hi : Nat) (h1 : Arr W t1 g1 [.int .u64 (hi : Nat)]) (h2 : Arr W t2 g2 [.int .u64 (lo : Nat)]) : Calls Tryz.prog 70 #[.int .u64 (x : Nat), .pointer (some ⟨g1, 0, none⟩), .pointer (some ⟨g2, 0, none⟩)] W fun e w' => e = .returned (.int .i64 (chkC lo hi x : Nat)) ∧ Below W.heap.size W w' := by
  have x0 := h1.cell 0
  have y0 := h1.free 0
  simp only [List.getElem?_cons_zero] at x0
  have z0 := h2.cell 0
  have u0 := h2.free 0
  simp only [List.getElem?_cons_zero] at z0
  clear h1 h2
  by_cases a1 : hi < x
  · have HE : Hid (chkC lo hi x = 15) := if_pos a1
    have a1' : (hi : Int) < x := by omega
    clear a1
    go_enter Tryz.func70, Tryz.ntmps70
    go_wp2_with fail
    go_ret
    rw [HE.out]
    exact ⟨rfl, Below.refl _ _⟩
  · have a1' : ¬ (hi : Int) < x := by omega
    by_cases a2 : x < lo
    · have HE : Hid (chkC lo hi x = 6) := (if_neg a1).trans (if_pos a2)
      have a2' : (x : Int) < lo := by omega
      clear a1 a2
      go_enter Tryz.func70, Tryz.ntmps70
      go_wp2_with fail
      go_ret
      rw [HE.out]
      exact ⟨rfl, Below.refl _ _⟩
    · have HE : Hid (chkC lo hi x = 0) := (if_neg a1).trans (if_neg a2)
      have a2' : ¬ (x : Int) < lo := by omega
      clear a1 a2
      go_enter Tryz.func70, Tryz.ntmps70
      go_wp2_with fail
      go_ret
      rw [HE.out]
      exact ⟨rfl, Below.refl _ _⟩
set_option maxRecDepth 100000 in
set_option maxHeartbeats 2000000 in
theorem cCount_any (lo hi : Nat) (h : RS cb rb b lv s W) (hh : hi ≤ 1000) : Calls Tryz.prog 46 #[.pointer (some ⟨rb, 0, none⟩), .int .u64 (lo : Nat), .int .u64 (hi : Nat)] W fun e w' => e = .returned (.int .i64 ((numC b (chkC lo hi) s).1 : Nat)) ∧ RS cb rb b lv (numC b (chkC lo hi) s).2 w' ∧ K2 cb rb W w' := by
  have hB : Below W.heap.size W ((W.alloc (.cells #[.int .u64 (lo : Nat)] 94)).alloc (.cells #[.int .u64 (hi : Nat)] 94)) := ((Below.refl _ _).alloc (Nat.le_refl _) _).alloc (by simp) _
  have HS := hiD (h.later hB)
  have HK : Hid (K2 cb rb W ((W.alloc (.cells #[.int .u64 (lo : Nat)] 94)).alloc (.cells #[.int .u64 (hi : Nat)] 94))) := K2.of hB
  have HL := hiD h.lt
  have HA1 : Hid (Arr ((W.alloc (.cells #[.int .u64 (lo : Nat)] 94)).alloc (.cells #[.int .u64 (hi : Nat)] 94)) 94 W.heap.size [.int .u64 (lo : Nat)]) := (Arr.new' _ _ _ _ rfl).alloc _
  have HA2 : Hid (Arr ((W.alloc (.cells #[.int .u64 (lo : Nat)] 94)).alloc (.cells #[.int .u64 (hi : Nat)] 94)) 94 (W.heap.size + 1) [.int .u64 (hi : Nat)]) := Arr.new2 _ _ _ _ _ rfl
  have HN := hiD (numberK (p1 := .pointer (some ⟨W.heap.size + 1, 0, none⟩)) (p2 := .pointer (some ⟨W.heap.size, 0, none⟩)) (chk := chkC lo hi) HS.out (fun x hx => by
    unfold chkC at hx
    split at hx
    · cases hx
    split at hx
    · cases hx
    omega) (fun x W' s' hk _ => countC x lo hi (hk.arr HA2.out (by have := HL.out; omega) (by have := HL.out; omega)) (hk.arr HA1.out (by have := HL.out; omega) (by have := HL.out; omega))))
  clear h hh hB HA1 HA2
  go_enter Tryz.func46, Tryz.ntmps46
  go_wp2_with fail
  refine HN.out.mono ?_
  rintro e w1 ⟨rfl, h1, k1⟩
  have HS1 := hiD h1
  have HK1 := hiD (HK.out.trans k1)
  clear h1 k1 HN HS HK
  go_wp2_with fail
  go_ret
  exact ⟨rfl, HS1.out, HK1.out⟩
set_option maxRecDepth 100000 in
set_option maxHeartbeats 2000000 in
theorem memberC (x : Nat) : Calls Tryz.prog 74 #[.int .u64 (x : Nat)] W fun e w' => e = .returned (.int .i64 (chkM x : Nat)) ∧ Below W.heap.size W w' := by
  by_cases a1 : x = 1
  · subst a1
    have HE : Hid (chkM 1 = 0) := rfl
    go_enter Tryz.func74, Tryz.ntmps74
    go_wp2_with fail
    go_ret
    rw [HE.out]
    exact ⟨rfl, Below.refl _ _⟩
  · have b1 : ¬ (x : Int) = 1 := by omega
    have c1 : ((x : Int) != 1) = true := by rw [bne_iff_ne]; exact b1
    by_cases a2 : x = 2
    · subst a2
      have HE : Hid (chkM 2 = 0) := rfl
      clear a1 b1 c1
      go_enter Tryz.func74, Tryz.ntmps74
      go_wp2_with fail
      go_ret
      rw [HE.out]
      exact ⟨rfl, Below.refl _ _⟩
    · have b2 : ¬ (x : Int) = 2 := by omega
      have c2 : ((x : Int) != 2) = true := by rw [bne_iff_ne]; exact b2
      have HE : Hid (chkM x = 6) := if_pos ⟨a1, a2⟩
      clear a1 a2
      go_enter Tryz.func74, Tryz.ntmps74
      go_wp2_with fail
      go_ret
      rw [HE.out]
      exact ⟨rfl, Below.refl _ _⟩
set_option maxRecDepth 100000 in
set_option maxHeartbeats 2000000 in
theorem checkKind_any (x d : Nat) (hd : d ≤ 16) (h : RS cb rb b lv s W) : Calls Tryz.prog 86 #[.pointer (some ⟨rb, 0, none⟩), .int .u64 (x : Nat), .int .i64 ((17 - d : Nat) : Int)] W fun e w' => e = .returned (.int .i64 (kindC d lv x : Nat)) ∧ Below W.heap.size W w' := by
  have HA := hiD h.arr
  have HLV := hiD h.len.2
  obtain ⟨x0, y0, x1, y1, x2, y2⟩ := HA.out.all3
  clear h
  obtain ⟨e, he⟩ : ∃ e, e = 17 - d := ⟨_, rfl⟩
  rw [← he]
  by_cases a1 : x < 1
  · have HE : Hid (kindC d lv x = 6) := if_pos (.inl a1)
    have a1' : (x : Int) < 1 := by omega
    clear a1 hd he
    go_enter Tryz.func86, Tryz.ntmps86
    go_wp2_with fail
    go_ret
    rw [HE.out]
    exact ⟨rfl, Below.refl _ _⟩
  have a1' : ¬ (x : Int) < 1 := by omega
  by_cases a2 : 5 < x
  · have HE : Hid (kindC d lv x = 6) := if_pos (.inr a2)
    have a2' : (5 : Int) < x := by omega
    clear a1 a2 hd he
    go_enter Tryz.func86, Tryz.ntmps86
    go_wp2_with fail
    go_ret
    rw [HE.out]
    exact ⟨rfl, Below.refl _ _⟩
  have a2' : ¬ (5 : Int) < x := by omega
  have e1 : ¬ (x < 1 ∨ 5 < x) := by omega
  by_cases a3 : d = 0
  · have HE : Hid (kindC d lv x = 7) := (if_neg e1).trans (if_pos a3)
    have a3' : (16 : Int) < e := by omega
    clear a1 a2 a3 hd he e1
    go_enter Tryz.func86, Tryz.ntmps86
    go_wp2_with fail
    go_ret
    rw [HE.out]
    exact ⟨rfl, Below.refl _ _⟩
  have a3' : ¬ (16 : Int) < e := by omega
  have HL : Hid (¬ 32 ≤ lv → kindC d lv x = 0) := fun h => (if_neg e1).trans ((if_neg a3).trans (if_neg (by omega)))
  have HL2 : Hid (32 ≤ lv → x = 1 ∨ x = 2 → kindC d lv x = 15) := fun h h2 => (if_neg e1).trans ((if_neg a3).trans (if_pos ⟨h2, h⟩))
  have HL3 : Hid (¬ (x = 1 ∨ x = 2) → kindC d lv x = 0) := fun h => (if_neg e1).trans ((if_neg a3).trans (if_neg (by omega)))
  clear e1 a3 hd he
  by_cases a4 : x = 1
  · subst a4
    clear a1 a2 a1' a2'
    by_cases a5 : 32 ≤ lv
    · have HE := hiD (HL2.out a5 (.inl rfl))
      have a5' : (32 : Int) ≤ lv := by omega
      clear a5
      go_enter Tryz.func86, Tryz.ntmps86
      go_wp2_with fail
      go_ret
      rw [HE.out]
      exact ⟨rfl, Below.refl _ _⟩
    · have HE := hiD (HL.out a5)
      have a5' : ¬ (32 : Int) ≤ lv := by omega
      clear a5
      go_enter Tryz.func86, Tryz.ntmps86
      go_wp2_with fail
      go_ret
      rw [HE.out]
      exact ⟨rfl, Below.refl _ _⟩
  have b4 : ¬ (x : Int) = 1 := by omega
  have c4 : ((x : Int) == 1) = false := by rw [beq_eq_false_iff_ne]; exact b4
  by_cases a6 : x = 2
  · subst a6
    clear a1 a2 a1' a2' a4 b4 c4
    by_cases a5 : 32 ≤ lv
    · have HE := hiD (HL2.out a5 (.inr rfl))
      have a5' : (32 : Int) ≤ lv := by omega
      clear a5
      go_enter Tryz.func86, Tryz.ntmps86
      go_wp2_with fail
      go_ret
      rw [HE.out]
      exact ⟨rfl, Below.refl _ _⟩
    · have HE := hiD (HL.out a5)
      have a5' : ¬ (32 : Int) ≤ lv := by omega
      clear a5
      go_enter Tryz.func86, Tryz.ntmps86
      go_wp2_with fail
      go_ret
      rw [HE.out]
      exact ⟨rfl, Below.refl _ _⟩
  have HE := hiD (HL3.out (by omega))
  have b6 : ¬ (x : Int) = 2 := by omega
  have c6 : ((x : Int) == 2) = false := by rw [beq_eq_false_iff_ne]; exact b6
  clear a1 a2 a4 a6
  go_enter Tryz.func86, Tryz.ntmps86
  go_wp2_with fail
  go_ret
  rw [HE.out]
  exact ⟨rfl, Below.refl _ _⟩
set_option maxRecDepth 100000 in
set_option maxHeartbeats 2000000 in
theorem partK {t1 t2 : TypeId} {g1 g2 : Nat} (x d : Nat) (hd : d ≤ 16) (h : RS cb rb b lv s W) (h1 : Arr W t1 g1 [.pointer (some ⟨rb, 0, none⟩)]) (h2 : Arr W t2 g2 [.int .i64 ((17 - d : Nat) : Int)]) : Calls Tryz.prog 85 #[.int .u64 (x : Nat), .pointer (some ⟨g1, 0, none⟩), .pointer (some ⟨g2, 0, none⟩)] W fun e w' => e = .returned (.int .i64 (kindC d lv x : Nat)) ∧ Below W.heap.size W w' := by
  have x0 := h1.cell 0
  have y0 := h1.free 0
  simp only [List.getElem?_cons_zero] at x0
  have z0 := h2.cell 0
  have u0 := h2.free 0
  simp only [List.getElem?_cons_zero] at z0
  have HC := hiD (checkKind_any x d hd h)
  obtain ⟨e, he⟩ : ∃ e, e = 17 - d := ⟨_, rfl⟩
  rw [← he] at HC z0
  clear h1 h2 h hd he
  go_enter Tryz.func85, Tryz.ntmps85
  go_wp2_with fail
  refine HC.out.mono ?_
  rintro e w1 ⟨rfl, b1⟩
  go_wp2_with fail
  go_ret
  exact ⟨rfl, b1⟩
set_option maxRecDepth 100000 in
set_option maxHeartbeats 2000000 in
theorem cName_any (emp : Bool) (h : RS cb rb b lv s W) : Calls Tryz.prog 47 #[.pointer (some ⟨rb, 0, none⟩), .bool emp] W fun e w' => e = .returned (.string (bstr (nameC b emp s).1)) ∧ RS cb rb b lv (nameC b emp s).2 w' ∧ K2 cb rb W w' := by
  have HS := hiD h
  have HA := hiD h.arr
  clear h
  cases s with
  | er c a =>
    have HA : Hid (Arr W 92 rb [.pointer (some ⟨cb, 0, none⟩), .iface 105 (.agg #[.int .i64 (c : Nat), .int .i64 (a : Nat)]), .int .i64 (lv : Nat)]) := HA.out
    have hq := eqNF (c : Nat) (a : Nat)
    obtain ⟨x0, y0, x1, y1, x2, y2⟩ := HA.out.all3
    go_enter Tryz.func47, Tryz.ntmps47
    go_wp2_with fail
    go_ret
    exact ⟨rfl, HS.out, K2.refl _ _ _⟩
  | go o =>
    have HA : Hid (Arr W 92 rb [.pointer (some ⟨cb, 0, none⟩), .nilIface, .int .i64 (lv : Nat)]) := HA.out
    have HOF := hiD HS.out.off
    have HBL := hiD HS.out.len.1
    obtain ⟨HTB, HTG⟩ := ctext_all HS.out.at 64 (by decide)
    have HTB := hiD HTB
    have HTG := hiD HTG
    obtain ⟨x0, y0, x1, y1, x2, y2⟩ := HA.out.all3
    by_cases h1 : (partP 64 (b.drop o)).2.2 ≠ 0
    · have HE : Hid (nameC b emp (.go o) = ([], .er (partP 64 (b.drop o)).2.2 o)) := if_pos h1
      have HT := hiD (HTB.out h1)
      obtain ⟨cc, hcc⟩ : ∃ x, x = (partP 64 (b.drop o)).2.2 := ⟨_, rfl⟩
      rw [← hcc] at HE HT
      have hq := eqNC (cc : Nat)
      clear h1 hcc HTB HTG
      go_enter Tryz.func47, Tryz.ntmps47
      go_wp2_with fail
      refine (at_any HS.out.at).mono ?_
      rintro e w1 ⟨rfl, rfl⟩
      go_wp2_with fail
      refine HT.out.mono ?_
      rintro e w2 ⟨rfl, n2, rfl⟩
      have hb2 : Below W.heap.size W (W.drewN n2) := Joins.below_draws _ _ _
      have HS2 := hiD (HS.out.later hb2)
      have HK2 : Hid (K2 cb rb W (W.drewN n2)) := K2.of hb2
      generalize W.drewN n2 = w2 at HS2 HK2 ⊢
      have HSH := hiD (shift_Cn cc o w2 HS2.out.env.2 (by have := HOF.out; have := HBL.out; omega))
      clear hb2 HT HS HA x0 x1 x2 y0 y1 y2
      go_wp2_with fail
      refine HSH.out.mono ?_
      rintro e w3 ⟨rfl, b3⟩
      have HS3 := hiD (HS2.out.later b3)
      have HK3 := hiD (HK2.out.trans (K2.of b3))
      have HA3 : Hid (Arr w3 92 rb [.pointer (some ⟨cb, 0, none⟩), .nilIface, .int .i64 (lv : Nat)]) := HS3.out.arr
      clear b3 HS2 HK2 HSH
      obtain ⟨x0, y0, x1, y1, x2, y2⟩ := HA3.out.all3
      unfold faultN
      go_wp2_with fail
      go_ret
      rw [HE.out]
      exact ⟨rfl, HS3.out.fails cc o, HK3.out.set 1 _⟩
    · have HT := hiD (HTG.out (Classical.not_not.1 h1))
      have HE2 : Hid (∀ t, (partP 64 (b.drop o)).1 = t → emp = true ∧ t = [] → nameC b emp (.go o) = ([], .go (o + (partP 64 (b.drop o)).2.1))) := fun t ht h2 => (if_neg h1).trans (if_pos (by rw [ht]; exact h2))
      have HE3 : Hid (∀ t, (partP 64 (b.drop o)).1 = t → ¬ (emp = true ∧ t = []) → isName (bstr t) = false → nameC b emp (.go o) = ([], .er 5 o)) := fun t ht h2 h3 => (if_neg h1).trans ((if_neg (by rw [ht]; exact h2)).trans (if_pos (by rw [ht]; exact h3)))
      have HE4 : Hid (∀ t, (partP 64 (b.drop o)).1 = t → ¬ (emp = true ∧ t = []) → ¬ isName (bstr t) = false → nameC b emp (.go o) = (t, .go (o + (partP 64 (b.drop o)).2.1))) := fun t ht h2 h3 => by
        subst ht
        exact (if_neg h1).trans ((if_neg h2).trans (if_neg h3))
      obtain ⟨t, ht⟩ : ∃ t, t = (partP 64 (b.drop o)).1 := ⟨_, rfl⟩
      obtain ⟨n, hn⟩ : ∃ n, n = (partP 64 (b.drop o)).2.1 := ⟨_, rfl⟩
      have HE2 := hiD (HE2.out t ht.symm)
      have HE3 := hiD (HE3.out t ht.symm)
      have HE4 := hiD (HE4.out t ht.symm)
      rw [← ht, ← hn] at HT
      rw [← hn] at HE2 HE4
      have HT : Hid (Calls Tryz.prog 71 #[.pointer (some ⟨cb, 0, none⟩), .int .i64 64] W fun e w' => e = .returned (.tuple #[.string (bstr t), .nilIface]) ∧ Cur w' cb b (o + n) ∧ W.grownBy w' (some cb)) := HT.out
      clear h1 ht hn HTB HTG
      by_cases h2 : t = []
      · subst h2
        cases emp with
        | true =>
          have HE := hiD (HE2.out ⟨rfl, rfl⟩)
          have HT : Hid (Calls Tryz.prog 71 #[.pointer (some ⟨cb, 0, none⟩), .int .i64 64] W fun e w' => e = .returned (.tuple #[.string ⟨#[]⟩, .nilIface]) ∧ Cur w' cb b (o + n) ∧ W.grownBy w' (some cb)) := HT.out
          clear HE2 HE3 HE4
          go_enter Tryz.func47, Tryz.ntmps47
          go_wp2_with fail
          refine (at_any HS.out.at).mono ?_
          rintro e w1 ⟨rfl, rfl⟩
          go_wp2_with fail
          refine HT.out.mono ?_
          rintro e w2 ⟨rfl, hc2, hg2⟩
          have HS2 := hiD (HS.out.moved hg2 hc2)
          have HK2 : Hid (K2 cb rb W w2) := K2.grown hg2
          clear hc2 hg2 HT HS HA x0 x1 x2 y0 y1 y2
          go_wp2_with fail
          go_ret
          rw [HE.out]
          exact ⟨rfl, HS2.out, HK2.out⟩
        | false =>
          have HN : Hid (isName (bstr []) = false) := by show _ = _; decide
          have HE := hiD (HE3.out (by simp) HN.out)
          have HT : Hid (Calls Tryz.prog 71 #[.pointer (some ⟨cb, 0, none⟩), .int .i64 64] W fun e w' => e = .returned (.tuple #[.string ⟨#[]⟩, .nilIface]) ∧ Cur w' cb b (o + n) ∧ W.grownBy w' (some cb)) := HT.out
          have HI : Hid (∀ w, ResT w → Calls Tryz.prog 73 #[.string ⟨#[]⟩] w fun e w' => e = .returned (.bool false) ∧ Below w.heap.size w w') := fun w hw => isName_at (bstr []) HN.out w hw
          clear HE2 HE3 HE4
          go_enter Tryz.func47, Tryz.ntmps47
          go_wp2_with fail
          refine (at_any HS.out.at).mono ?_
          rintro e w1 ⟨rfl, rfl⟩
          go_wp2_with fail
          refine HT.out.mono ?_
          rintro e w2 ⟨rfl, hc2, hg2⟩
          have HS2 := hiD (HS.out.moved hg2 hc2)
          have HK2 : Hid (K2 cb rb W w2) := K2.grown hg2
          clear hc2 hg2 HT HS HA x0 x1 x2 y0 y1 y2
          go_wp2_with fail
          refine (HI.out _ HS2.out.env.1).mono ?_
          rintro e w3 ⟨rfl, b3⟩
          have HS3 := hiD (HS2.out.later b3)
          have HK3 := hiD (HK2.out.trans (K2.of b3))
          clear b3 HS2 HK2 HI
          go_wp2_with fail
          refine (fail_any 5 o HS3.out).mono ?_
          rintro e w4 ⟨rfl, h4, k4⟩
          have HS4 := hiD h4
          have HK4 := hiD (HK3.out.trans k4)
          clear h4 k4
          go_wp2_with fail
          go_ret
          rw [HE.out]
          exact ⟨rfl, HS4.out, HK4.out⟩
      · have hne : ((bstr t).toList == (ByteArray.mk #[]).toList) = false := bstr_ne h2
        have hne2 : ¬ (bstr t).toList = [] := by rw [toList_data, bstr_data]; exact h2
        have hne3 : (bstr t).toList.isEmpty = false := by rw [toList_data, bstr_data]; simpa using h2
        have HE3 := hiD (HE3.out (fun h => h2 h.2))
        have HE4 := hiD (HE4.out (fun h => h2 h.2))
        obtain ⟨nb, hnb⟩ : ∃ nb, nb = isName (bstr t) := ⟨_, rfl⟩
        have HI : Hid (∀ w, ResT w → Calls Tryz.prog 73 #[.string (bstr t)] w fun e w' => e = .returned (.bool nb) ∧ Below w.heap.size w w') := fun w hw => isName_at (bstr t) hnb.symm w hw
        rw [← hnb] at HE3 HE4
        clear h2 hnb HE2
        go_enter Tryz.func47, Tryz.ntmps47
        go_wp2_with fail
        refine (at_any HS.out.at).mono ?_
        rintro e w1 ⟨rfl, rfl⟩
        go_wp2_with fail
        refine HT.out.mono ?_
        rintro e w2 ⟨rfl, hc2, hg2⟩
        have HS2 := hiD (HS.out.moved hg2 hc2)
        have HK2 : Hid (K2 cb rb W w2) := K2.grown hg2
        clear hc2 hg2 HT HS HA x0 x1 x2 y0 y1 y2
        go_wp2_with fail
        refine (HI.out _ HS2.out.env.1).mono ?_
        rintro e w3 ⟨rfl, b3⟩
        have HS3 := hiD (HS2.out.later b3)
        have HK3 := hiD (HK2.out.trans (K2.of b3))
        clear b3 HS2 HK2 HI
        cases nb with
        | false =>
          have HE := hiD (HE3.out rfl)
          clear HE3 HE4
          go_wp2_with fail
          refine (fail_any 5 o HS3.out).mono ?_
          rintro e w4 ⟨rfl, h4, k4⟩
          have HS4 := hiD h4
          have HK4 := hiD (HK3.out.trans k4)
          clear h4 k4
          go_wp2_with fail
          go_ret
          rw [HE.out]
          exact ⟨rfl, HS4.out, HK4.out⟩
        | true =>
          have HE := hiD (HE4.out (by simp))
          clear HE3 HE4
          go_wp2_with fail
          go_ret
          rw [HE.out]
          exact ⟨rfl, HS3.out, HK3.out⟩
end
theorem AlRow.k2 {base cb rb : Nat} {w w' : World} {v : Value} {l : List AlB} (h : AlRow base w v l) (hk : K2 cb rb w w') (h1 : cb < base) (h2 : rb < base) : AlRow base w' v l := by
 refine ⟨h.1, ?_⟩
 rcases h.2 with h | ⟨g, cap, cur, rfl, h0, hg, r⟩
 ·exact .inl h
 ·exact .inr ⟨g, cap, cur, rfl, h0, (hk.2.2.2.2 g (Array.getElem?_eq_some_iff.1 hg).1 (by omega) (by omega)).trans hg, r⟩
theorem K2.grownR {cb rb : Nat} {W w w' : World} {row : Option Nat} (h : K2 cb rb W w) (hg : w.grownBy w' row) (hr : ∀ k, row = some k → W.heap.size ≤ k) : K2 cb rb W w' :=
 ⟨hg.os.trans h.1, hg.tape.trans h.2.1, hg.output.trans h.2.2.1, Nat.le_trans h.2.2.2.1 hg.size, fun k hk h1 h2 => (hg.block k (Nat.lt_of_lt_of_le hk h.2.2.2.1) (fun e => by have := hr k e.symm; omega)).trans (h.2.2.2.2 k hk h1 h2)⟩
theorem RS.grown {cb rb lv B : Nat} {b : List UInt8} {s : St} {w w' : World} {row : Option Nat} (h : RS cb rb b lv s w) (hg : w.grownBy w' row) (hB : rb < B) (hBw : B ≤ w.heap.size) (hr : ∀ k, row = some k → B ≤ k) : RS cb rb b lv s w' :=
 h.below (C := B) ((Below.refl _ _).grown hg hBw hr) hB
theorem numC_le {b : List UInt8} {chk : Nat → Nat} {M : Nat} (h : ∀ x, chk x = 0 → x ≤ M) (s : St) : (numC b chk s).1 ≤ M := by
 cases s with
 | er c a => exact Nat.zero_le _
 | go o =>
  by_cases h1 : (num (b.drop o)).2.2 ≠ 0
  ·rw [numC_1 h1]; exact Nat.zero_le _
  ·by_cases h2 : chk (num (b.drop o)).1 ≠ 0
   ·rw [numC_2 h1 h2]; exact Nat.zero_le _
   ·rw [numC_3 h1 h2]; exact h _ (Classical.not_not.1 h2)
theorem chkC_0 {lo hi x : Nat} (h : chkC lo hi x = 0) : lo ≤ x ∧ x ≤ hi := by
 unfold chkC at h
 split at h
 ·cases h
 split at h
 ·cases h
 omega
theorem loopC_lv {α : Type} {f : St → Nat → α × St × Nat} (hf : ∀ s lv, (f s lv).2.2 = lv) : ∀ (n : Nat) (acc : List α) (s : St) (lv : Nat), (loopC f n acc s lv).2.2 = lv
 | 0, _, _, _ => rfl
 | n + 1, acc, s, lv => by rw [loopC, loopC_lv hf, hf]
theorem types_lv (b : List UInt8) (s : St) (lv : Nat) : (typesC b s lv).2.2 = lv := loopC_lv (fun _ _ => rfl) _ _ _ _
theorem meas {n i : Nat} (h : i < n) (hn : n ≤ 1000) : n - (intOf (.int .i64 (wrap64 ((i : Int) + 1)))).toNat < n - (intOf (.int .i64 (i : Int))).toNat := by
 have hw : wrap64 ((i : Int) + 1) = (i : Int) + 1 := by unfold wrap64; omega
 rw [hw]
 have e1 : (intOf (.int .i64 (i : Int))).toNat = i := by show (i : Int).toNat = i; omega
 have e2 : (intOf (.int .i64 ((i : Int) + 1))).toNat = i + 1 := by show ((i : Int) + 1).toNat = i + 1; omega
 rw [e1, e2]; clear hw e1 e2; omega
theorem meas' {n i : Nat} (h : i < n) : n - (intOf (.int .i64 ((i : Int) + 1))).toNat < n - (intOf (.int .i64 (i : Int))).toNat := by
 have e1 : (intOf (.int .i64 (i : Int))).toNat = i := by show (i : Int).toNat = i; omega
 have e2 : (intOf (.int .i64 ((i : Int) + 1))).toNat = i + 1 := by show ((i : Int) + 1).toNat = i + 1; omega
 rw [e1, e2]; omega
section
variable {cb rb lv : Nat} {b : List UInt8} {s : St} {W : World}
set_option maxRecDepth 100000 in
set_option maxHeartbeats 2000000 in
theorem types_any (h : RS cb rb b lv s W) : Calls Tryz.prog 75 #[.pointer (some ⟨rb, 0, none⟩)] W fun e w' => ∃ v, e = .returned v ∧ AlRow W.heap.size w' v (typesC b s lv).1 ∧ RS cb rb b lv (typesC b s lv).2.1 w' ∧ K2 cb rb W w' := by
 have HS := hiD h
 have HL := hiD h.lt
 have HE0 : Hid (typesC b s lv = loopC (allC b) ((numC b (chkC 1 32) s).1 - 0) [] (numC b (chkC 1 32) s).2 lv) := rfl
 have HN : Hid ((numC b (chkC 1 32) s).1 ≤ 32) := numC_le (fun x hx => (chkC_0 hx).2) s
 have HCN := hiD (cCount_any 1 32 h (by decide))
 obtain ⟨n, hn⟩ : ∃ n, n = (numC b (chkC 1 32) s).1 := ⟨_, rfl⟩
 obtain ⟨s1, hs1⟩ : ∃ x, x = (numC b (chkC 1 32) s).2 := ⟨_, rfl⟩
 rw [← hn, ← hs1] at HCN HE0
 rw [← hn] at HN
 clear h hn hs1
 go_enter Tryz.func75, Tryz.ntmps75
 go_wp2_with fail
 refine HCN.out.mono ?_
 rintro e w1 ⟨rfl, h1, k1⟩
 have HS1 := hiD h1
 have HK1 := hiD k1
 clear h1 k1 HCN HS
 go_wp2_with fail
 go_loopw [2, 5] (fun sv iv wr => ∃ (i : Nat) (acc : List AlB) (s2 : St), i ≤ n ∧ acc.length = i ∧ iv = .int .i64 (i : Nat) ∧ Hid (AlRow W.heap.size wr sv acc) ∧ Hid (RS cb rb b lv s2 wr) ∧ Hid (K2 cb rb W wr) ∧ Hid (typesC b s lv = loopC (allC b) (n - i) acc s2 lv)) (fun _ iv _ => n - (intOf iv).toNat)
 case atStart => exact ⟨0, [], s1, Nat.zero_le _, rfl, rfl, World.ownsRow_nil _ _ _ _, HS1.out, HK1.out, HE0.out⟩
 case round =>
  obtain ⟨i, acc, s2, hi, hl, rfl, HR, HS, HK, HE⟩ := hrel
  obtain ⟨q, cc, rfl⟩ := HR.out.form
  have HLEN : Hid (acc.length = i) := hl
  clear hl
  by_cases hlt : i < n
  ·have hlt' : (i : Int) < n := by omega
   have hw : wrap64 ((i : Int) + 1) = (i : Int) + 1 := by unfold wrap64; have := HN.out; omega
   obtain ⟨y1, hy1⟩ : ∃ x, x = (nameC b false s2).1 := ⟨_, rfl⟩
   obtain ⟨s3, hs3⟩ : ∃ x, x = (nameC b false s2).2 := ⟨_, rfl⟩
   obtain ⟨y2, hy2⟩ : ∃ x, x = (nameC b true s3).1 := ⟨_, rfl⟩
   obtain ⟨s4, hs4⟩ : ∃ x, x = (nameC b true s3).2 := ⟨_, rfl⟩
   have HE2 : Hid (typesC b s lv = loopC (allC b) (n - (i + 1)) (acc ++ [(y1, y2)]) s4 lv) := by
    show _ = _
    rw [HE.out, show n - i = (n - (i + 1)) + 1 by omega, loopC]
    show loopC _ _ (acc ++ [((nameC b false s2).1, (nameC b true (nameC b false s2).2).1)]) (nameC b true (nameC b false s2).2).2 lv = _
    rw [← hy1, ← hs3, ← hy2, ← hs4]
   have HN1 := hiD (cName_any false HS.out)
   rw [← hy1, ← hs3] at HN1
   clear hy1 hs3 HE
   go_wp2_with fail
   refine HN1.out.mono ?_
   rintro e w3 ⟨rfl, h3, k3⟩
   have HS3 := hiD h3
   have HK3 := hiD (HK.out.trans k3)
   have HR3 := hiD (HR.out.k2 k3 (by have := HL.out; omega) HL.out.2)
   have HN2 := hiD (cName_any true h3)
   rw [← hy2, ← hs4] at HN2
   clear h3 k3 HR HS HK HN1 hy2 hs4
   go_wp2_with fail
   refine HN2.out.mono ?_
   rintro e w4 ⟨rfl, h4, k4⟩
   have hb6 : Below w4.heap.size w4 (w4.alloc (.cells #[.string (bstr y1), .string (bstr y2)] 70)) := (Below.refl _ _).alloc (Nat.le_refl _) _
   have HS6 := hiD (h4.later hb6)
   have HK6 := hiD ((HK3.out.trans k4).trans (K2.of hb6))
   have HR6 := hiD ((HR3.out.k2 k4 (by have := HL.out; omega) HL.out.2).k2 (K2.of (cb := cb) (rb := rb) hb6) (by have := HL.out; omega) HL.out.2)
   have HA6 : Hid (Arr (w4.alloc (.cells #[.string (bstr y1), .string (bstr y2)] 70)) 70 w4.heap.size [.string (bstr (y1, y2).1), .string (bstr (y1, y2).2)]) := Arr.new' _ _ _ _ rfl
   have HL6 : Hid (acc.length + 1 ≤ 1000000) := by show _ ≤ _; have := HN.out; have := HLEN.out; omega
   clear h4 k4 hb6 HN2 HS3 HK3 HR3
   go_wp2_with (at_builtin; refine app_al (e := (y1, y2)) rfl _ _ rfl rfl HR6.out rfl HA6.out HL6.out HK6.out.2.2.2.1 ?_)
   intro v7 w7 r7 g7 o7
   have HK7 := hiD (HK6.out.grownR g7 o7)
   have HS7 := hiD (HS6.out.grown g7 HL.out.2 HK6.out.2.2.2.1 o7)
   have HR7 := hiD r7
   obtain ⟨q7, c7, rfl⟩ := r7.form
   clear r7 g7 o7
   go_wp2_with fail
   go_roundw
   case rel => exact ⟨i + 1, acc ++ [(y1, y2)], s4, by omega, by rw [List.length_append]; simp; exact HLEN.out, by go_num, HR7.out, HS7.out, HK7.out, HE2.out⟩
   case measure => first | exact meas hlt (Nat.le_trans HN.out (by decide)) | exact meas' hlt
  ·have hlt' : ¬ (i : Int) < n := by omega
   have HE2 : Hid (typesC b s lv = (acc, s2, lv)) := by
    show _ = _
    rw [HE.out, show n - i = 0 by omega]; rfl
   go_wp2_with fail
   go_ret
   rw [HE2.out]
   exact ⟨_, rfl, HR.out, HS.out, HK.out⟩
end
end Go.Proofs.YtdnmgemjhpkekaaGreatDoor
