/-
  expr.hasRightParts.
-/
import Derived.Test.YtigphejoekfclaaDoorExH
namespace Go.Proofs.YtigphejoekfclaaDoor
open Go.ChangeShapes Go.WideShapes Go.ChangeAt Go.RowKit
set_option linter.unusedVariables false

theorem formL_all : ∀ {ks : List Ex}, (∀ j, j < ks.length → formE (ks.getD j ex0) = true) → formL ks = true
  | [], _ => rfl
  | e :: r, h => by
    have h0 := h 0 (by simp)
    simp only [List.getD_cons_zero] at h0
    unfold formL
    rw [h0, formL_all (ks := r) (fun j hj => by have := h (j + 1) (by simpa using hj); simpa using this)]; rfl
theorem formE_bad {k : Int} {v n : List UInt8} {ks : List Ex} {j : Nat} (hj : j < ks.length) (h : formE (ks.getD j ex0) = false) : formE (.mk k v n ks) = false := by
  rw [Bool.eq_false_iff]
  intro e
  unfold formE at e
  simp only [Bool.and_eq_true] at e
  rw [formL_get hj e.2] at h
  cases h
theorem chk_cases (k : Int) : chk k = 52 ∨ chk k = 53 ∨ chk k = 54 ∨ chk k = 55 ∨ chk k = 56 := by
  unfold chk
  split
  · exact .inl rfl
  split
  · exact .inr (.inl rfl)
  split
  · exact .inr (.inr (.inl rfl))
  split
  · exact .inr (.inr (.inr (.inl rfl)))
  · exact .inr (.inr (.inr (.inr rfl)))
set_option maxRecDepth 100000 in
set_option maxHeartbeats 16000000 in
theorem parts_any : ∀ (n : Nat) (e : Ex) (v : Value) (P : Nat → Prop) (w : World), sizeE e ≤ n → sizeE e ≤ 900000 → RdE P w e v → (∀ b, P b → b < w.heap.size) → ResT w → Calls Tryd.prog 31 #[v] w fun r w' => r = .returned (.bool (formE e)) ∧ Below w.heap.size w w' := by
  intro n
  induction n with
  | zero => intro e v P w h; have := sizeE_pos e; omega
  | succ n ih =>
    intro e v P w hn hm h hP hr
    obtain ⟨q, c, rfl, hc, hk⟩ := h.form
    obtain ⟨k, xv, xn, ks⟩ := e
    unfold exv
    show Calls _ _ #[.agg #[.int .i64 k, .string (bstr xv), .string (bstr xn), .slice q ks.length c]] _ _
    have HK : Hid (0 < ks.length → ∃ b o, q = some ⟨b, o, none⟩ ∧ P b ∧ RdL P w ks b o) := hk
    have hks : sizeL ks ≤ n := by unfold sizeE at hn; omega
    have hkm : sizeL ks ≤ 900000 := by unfold sizeE at hm; omega
    have hlen := sizeL_len ks
    have HIH := Lib.hid ih
    have HRS := Lib.hid hr
    have HB0 : Hid (Below w.heap.size w (w.alloc (.cells #[.int .i64 k, .string (bstr xv), .string (bstr xn), .slice q ks.length c] 24))) := (Below.refl _ _).alloc (Nat.le_refl _) _
    have HA0 : Hid (Arr (w.alloc (.cells #[.int .i64 k, .string (bstr xv), .string (bstr xn), .slice q ks.length c] 24)) 24 w.heap.size [.int .i64 k, .string (bstr xv), .string (bstr xn), .slice q ks.length c]) := Arr.new' _ _ _ _ rfl
    have HCK := Lib.hid (fun W => checkOf_any k W)
    have HPT := Lib.hid (fun W h => part_any k xv xn q ks.length c W h)
    have HR0 : Hid (ResT (w.alloc (.cells #[.int .i64 k, .string (bstr xv), .string (bstr xn), .slice q ks.length c] 24))) := hr.below HB0.out hr.lt
    obtain ⟨fid, hfid⟩ : ∃ f, f = chk k := ⟨_, rfl⟩
    obtain ⟨E, hE⟩ : ∃ E, E = partB k xv xn ks.length := ⟨_, rfl⟩
    rw [← hfid] at HCK HPT
    rw [← hE] at HPT
    have HE := Lib.hid hE
    have HFX : Hid (partB k xv xn ks.length = E) := hE.symm
    have hcs := chk_cases k
    rw [← hfid] at hcs
    clear h ih hc hk hn hm hr hfid hE
    rcases hcs with hf | hf | hf | hf | hf
    all_goals
      rw [hf] at HCK HPT
      clear hf
      go_enter Tryd.func31, Tryd.ntmps31
      go_wp2_with fail
      refine (HCK.out _).mono ?_
      rintro r w1 ⟨rfl, hw⟩
      subst hw
      go_wp2_with fail
      refine (HPT.out _ HR0.out).mono ?_
      rintro r w2 ⟨rfl, b2⟩
      have HB2 := Lib.hid (HB0.out.trans (b2.mono HB0.out.size))
      have hq3 := (HA0.out.later b2).cell 3
      simp only [List.getElem?_cons_zero, List.getElem?_cons_succ] at hq3
      clear b2
      cases hEb : E with
      | false =>
        have HBD : Hid (formE (.mk k xv xn ks) = false) := by show _ = _; unfold formE; rw [HFX.out, hEb]; rfl
        clear hEb
        go_wp2_with fail
        go_ret
        exact ⟨by rw [HBD.out]; rfl, HB2.out⟩
      | true =>
        have HEB : Hid (partB k xv xn ks.length = true) := by show _ = _; rw [HFX.out, hEb]
        clear hEb
        go_wp2_with fail
        go_loopw [16] (fun iv wr => ∃ i : Nat, i ≤ ks.length ∧ iv = .int .i64 i ∧ Hid (∀ j, j < i → formE (ks.getD j ex0) = true) ∧ Hid (Below w.heap.size w wr)) (fun iv _ => ks.length - (intOf iv).toNat)
        case atStart => exact ⟨0, Nat.zero_le _, rfl, fun j hj => absurd hj (Nat.not_lt_zero _), HB2.out⟩
        case round =>
          obtain ⟨i, hi, rfl, HG, HI⟩ := hrel
          have hi0 : (0 : Int) ≤ i := by omega
          by_cases hlt : i < ks.length
          · have hi1 : (i : Int) < ks.length := by omega
            obtain ⟨ba, oa, rfl, hba, hl⟩ := HK.out (by omega)
            obtain ⟨x, hx⟩ : ∃ x, x = ks.getD i ex0 := ⟨_, rfl⟩
            obtain ⟨q2, c2, x0, x1, x2, x3, hr⟩ := hl.at hlt
            have hxs := sizeL_get ks i hlt
            have hxd := depthL_get ks i hlt
            rw [← hx] at x0 x1 x2 x3 hr hxs hxd
            have HX := Lib.hid hx
            obtain ⟨xk, xv2, xn2, xs⟩ := x
            have cc : ∀ n, wr.cell? ⟨ba, n, none⟩ = w.cell? ⟨ba, n, none⟩ := fun n => (HI.out).cell (p := ⟨ba, n, none⟩) (hP _ hba)
            have X0 : wr.cell? ⟨ba, oa + i * 4, none⟩ = some (.int .i64 xk) := (cc _).trans x0
            have X1 : wr.cell? ⟨ba, oa + i * 4 + 1, none⟩ = some (.string (bstr xv2)) := (cc _).trans x1
            have X2 : wr.cell? ⟨ba, oa + i * 4 + 2, none⟩ = some (.string (bstr xn2)) := (cc _).trans x2
            have X3 : wr.cell? ⟨ba, oa + i * 4 + 3, none⟩ = some (.slice q2 xs.length c2) := (cc _).trans x3
            clear x0 x1 x2 x3 cc hx
            have HBA : Hid (Below wr.heap.size wr (wr.alloc (.cells #[.int .i64 xk, .string (bstr xv2), .string (bstr xn2), .slice q2 xs.length c2] 24))) := (Below.refl _ _).alloc (Nat.le_refl _) _
            have HR : Hid (RdE P (wr.alloc (.cells #[.int .i64 xk, .string (bstr xv2), .string (bstr xn2), .slice q2 xs.length c2] 24)) (.mk xk xv2 xn2 xs) (.agg #[.int .i64 xk, .string (bstr xv2), .string (bstr xn2), .slice q2 xs.length c2])) := (hr.below (HI.out) hP).below HBA.out (fun b hb => Nat.lt_of_lt_of_le (hP b hb) (HI.out).size)
            have HRW : Hid (ResT (wr.alloc (.cells #[.int .i64 xk, .string (bstr xv2), .string (bstr xn2), .slice q2 xs.length c2] 24))) := (HRS.out.below (HI.out.trans (HBA.out.mono HI.out.size)) HRS.out.lt)
            have HC := Lib.hid (HIH.out (.mk xk xv2 xn2 xs) _ P _ (by omega) (by omega) HR.out (fun b hb => Nat.lt_of_lt_of_le (hP b hb) (Nat.le_trans HI.out.size HBA.out.size)) HRW.out)
            obtain ⟨G, hG⟩ : ∃ G, G = formE (.mk xk xv2 xn2 xs) := ⟨_, rfl⟩
            rw [← hG] at HC
            have HGD := Lib.hid hG
            have HLT : Hid (i < ks.length) := hlt
            clear hl hr hxs hxd hG
            go_wp2_with fail
            refine HC.out.mono ?_
            rintro r w5 ⟨rfl, b5⟩
            have HB5 := Lib.hid (HI.out.trans ((HBA.out.trans (b5.mono HBA.out.size)).mono HI.out.size))
            clear b5
            cases hGb : G with
            | false =>
              have HBD : Hid (formE (.mk k xv xn ks) = false) := formE_bad HLT.out (by rw [← HX.out, ← HGD.out, hGb])
              clear hGb
              go_wp2_with fail
              go_ret
              exact ⟨by rw [HBD.out]; rfl, HB5.out⟩
            | true =>
              have HGB := Lib.hid hGb
              clear hGb
              go_wp2_with fail
              go_roundw
              case rel =>
                refine ⟨i + 1, by omega, by go_num, fun j hj => ?_, HB5.out⟩
                by_cases e : j = i
                · subst e; rw [← HX.out, ← HGD.out, HGB.out]
                · exact HG.out j (by omega)
              case measure => simp [intOf]; omega
          · have hi1 : ¬ (i : Int) < ks.length := by omega
            have HBD : Hid (formE (.mk k xv xn ks) = true) := by
              show _ = _
              unfold formE
              rw [HEB.out, formL_all fun j hj => HG.out j (by omega)]; rfl
            go_wp2_with fail
            go_ret
            exact ⟨by rw [HBD.out]; rfl, HI.out⟩
end Go.Proofs.YtigphejoekfclaaDoor
