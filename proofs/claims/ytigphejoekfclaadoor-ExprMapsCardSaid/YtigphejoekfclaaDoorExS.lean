/-
  vestryref10.Text.
-/
import Derived.Test.YtigphejoekfclaaDoorExP
import Derived.Test.YtigphejoekfclaaDoorExG
import Derived.Deep.Cut
import Derived.Deep.CutRange
namespace Go.Proofs.YtigphejoekfclaaDoor
open Go.ChangeShapes Go.WideShapes Go.ChangeAt Go.RowKit
set_option linter.unusedVariables false

theorem form_kids {k : Int} {v n : List UInt8} {ks : List Ex} (h : formE (.mk k v n ks) = true) : formL ks = true := by
  unfold formE at h; simp only [Bool.and_eq_true] at h; exact h.2
theorem form_kind {k : Int} {v n : List UInt8} {ks : List Ex} (h : formE (.mk k v n ks) = true) (h1 : ¬ k = 1) (h2 : ¬ k = 2) : k = 3 ∨ k = 4 ∨ k = 5 := by
  unfold formE partB at h
  simp only [Bool.and_eq_true] at h
  obtain ⟨h, _⟩ := h
  rw [if_neg h1, if_neg h2] at h
  by_cases h3 : k = 3 ∨ k = 4
  · rcases h3 with h3 | h3 <;> simp [h3]
  · rw [if_neg h3] at h
    by_cases h5 : k = 5
    · simp [h5]
    · rw [if_neg h5] at h; cases h
theorem textL_take : ∀ (ks : List Ex) (i : Nat), textL (ks.take i) = (textL ks).take i
  | [], i => by simp [textL]
  | e :: r, 0 => by simp [textL]
  | e :: r, i + 1 => by simp only [List.take_succ_cons, textL, textL_take r i]
theorem joinE_step {ks : List Ex} {i : Nat} (hi : i < ks.length) (sep : List UInt8) : Lib.join (textL (ks.take (i + 1))) sep = (if i = 0 then [] else Lib.join (textL (ks.take i)) sep ++ sep) ++ wrapT (ks.getD i ex0).kind (textE (ks.getD i ex0)) := by
  rw [take_snocE hi, textL_snoc]
  by_cases h0 : i = 0
  · subst h0
    rw [if_pos rfl, List.take_zero]
    exact join_snoc1 _ _
  · rw [if_neg h0, join_snoc]
    intro e
    have := congrArg List.length e
    rw [textL_length, List.length_take, List.length_nil] at this
    omega
theorem joinL_le (ks : List Ex) (i : Nat) (sep : List UInt8) (hs : sep.length ≤ 3) : (Lib.join (textL (ks.take i)) sep).length ≤ wL ks := by
  refine Nat.le_trans (textJ_len sep hs _) ?_
  clear hs
  induction ks generalizing i with
  | nil => simp
  | cons e r ih =>
    cases i with
    | zero => simp [wL]
    | succ i => simp only [List.take_succ_cons, wL]; have := ih i; omega

set_option maxRecDepth 100000 in
set_option maxHeartbeats 8000000 in
theorem rtext_any : ∀ (n : Nat) (e : Ex) (v : Value) (P : Nat → Prop) (w : World), sizeE e ≤ n → sizeE e ≤ 900000 → wE e ≤ 900000000 → formE e = true → RdE P w e v → (∀ b, P b → b < w.heap.size) → Calls Tryd.prog 11 #[v] w fun r w' => r = .returned (.string (bstr (textE e))) ∧ Below w.heap.size w w' := by
  intro n
  induction n with
  | zero => intro e v P w h; have := sizeE_pos e; omega
  | succ n ih =>
    intro e v P w hn hm hwt hf h hP
    obtain ⟨q, c, rfl, hc, hk⟩ := h.form
    obtain ⟨k, xv, xn, ks⟩ := e
    unfold exv
    show Calls _ _ #[.agg #[.int .i64 k, .string (bstr xv), .string (bstr xn), .slice q ks.length c]] _ _
    have HK : Hid (0 < ks.length → ∃ b o, q = some ⟨b, o, none⟩ ∧ P b ∧ RdL P w ks b o) := hk
    have hks : sizeL ks ≤ n := by unfold sizeE at hn; omega
    have hkm : sizeL ks ≤ 900000 := by unfold sizeE at hm; omega
    have hkw : wL ks ≤ 900000000 := by unfold wE at hwt; omega
    have hvl : xv.length ≤ 900000000 := by unfold wE at hwt; omega
    have hnl : xn.length ≤ 900000000 := by unfold wE at hwt; omega
    have hlen := sizeL_len ks
    have HIH := Lib.hid ih
    have HFK : Hid (formL ks = true) := form_kids hf
    have HF := Lib.hid hf
    have HB0 : Hid (Below w.heap.size w (w.alloc (.cells #[.int .i64 k, .string (bstr xv), .string (bstr xn), .slice q ks.length c] 24))) := (Below.refl _ _).alloc (Nat.le_refl _) _
    have HA0 : Hid (Arr (w.alloc (.cells #[.int .i64 k, .string (bstr xv), .string (bstr xn), .slice q ks.length c] 24)) 24 w.heap.size [.int .i64 k, .string (bstr xv), .string (bstr xn), .slice q ks.length c]) := Arr.new' _ _ _ _ rfl
    clear h ih hc hk hn hm hwt hf
    by_cases h1 : k = 1
    · have b1 : (k == 1) = true := by rw [h1]; rfl
      have HT : Hid (textE (.mk k xv xn ks) = xn) := textE_one h1
      clear h1
      go_enter Tryd.func11, Tryd.ntmps11
      go_wp2_with fail
      go_ret
      exact ⟨by rw [HT.out]; rfl, HB0.out⟩
    have b1 : (k == 1) = false := by rw [beq_eq_false_iff_ne]; exact h1
    by_cases h2 : k = 2
    · have b2 : (k == 2) = true := by rw [h2]; rfl
      have HT : Hid (textE (.mk k xv xn ks) = xv ++ (45 :: 62 :: xn)) := textE_two h2
      clear h1 h2
      obtain ⟨sv, hsv⟩ : ∃ s, s = bstr xv := ⟨_, rfl⟩
      obtain ⟨sn, hsn⟩ : ∃ s, s = bstr xn := ⟨_, rfl⟩
      have z1 : (sv.size : Int) ≤ 900000000 := by rw [hsv, bstr_size]; omega
      have z2 : (sn.size : Int) ≤ 900000000 := by rw [hsn, bstr_size]; omega
      have HE : Hid (bstr (xv ++ (45 :: 62 :: xn)) = sv ++ ⟨#[45, 62]⟩ ++ sn) := by
        show _ = _
        rw [hsv, hsn, show (⟨#[45, 62]⟩ : ByteArray) = bstr [45, 62] from rfl, bstr_app, bstr_app, List.append_assoc]; rfl
      rw [← hsv, ← hsn] at HB0 HA0 ⊢
      clear hsv hsn
      go_enter Tryd.func11, Tryd.ntmps11
      go_wp2_with fail
      go_ret
      exact ⟨by rw [HT.out, HE.out]; rfl, HB0.out⟩
    have b2 : (k == 2) = false := by rw [beq_eq_false_iff_ne]; exact h2
    have HT : Hid (textE (.mk k xv xn ks) = Lib.join (textL ks) (sgK k)) := textE_more h1 h2
    have HKD : Hid (k = 3 ∨ k = 4 ∨ k = 5) := form_kind HF.out h1 h2
    clear h1 h2
    go_enter Tryd.func11, Tryd.ntmps11
    go_wp2_with fail
    go_loopw [3, 4] (fun sv iv wr => ∃ (i : Nat) (sJ : ByteArray), i ≤ ks.length ∧ iv = .int .i64 i ∧ sv = .string sJ ∧ Hid (sJ = bstr (Lib.join (textL (ks.take i)) (sgK k))) ∧ Hid (Below w.heap.size w wr ∧ Arr wr 24 w.heap.size [.int .i64 k, .string (bstr xv), .string (bstr xn), .slice q ks.length c])) (fun _ iv _ => ks.length - (intOf iv).toNat)
    case atStart => exact ⟨0, _, Nat.zero_le _, rfl, rfl, rfl, HB0.out, HA0.out⟩
    case round =>
      obtain ⟨i, sJ, hi, rfl, rfl, HSJ, HI2⟩ := hrel
      have HI := Lib.hid HI2.out.1
      have HAI := Lib.hid HI2.out.2
      clear HI2
      have hi0 : (0 : Int) ≤ i := by omega
      have a0 := HAI.out.cell 0
      have a3 := HAI.out.cell 3
      simp only [List.getElem?_cons_zero, List.getElem?_cons_succ] at a0 a3
      have z0 : (sJ.size : Int) ≤ 900000000 := by rw [HSJ.out, bstr_size]; have := joinL_le ks i (sgK k) (by rw [sgK_len]; exact Nat.le_refl _); omega
      by_cases hlt : i < ks.length
      · have hi1 : (i : Int) < ks.length := by omega
        obtain ⟨sp, hsp⟩ : ∃ sp, sp = bstr (if i = 0 then [] else Lib.join (textL (ks.take i)) (sgK k) ++ sgK k) := ⟨_, rfl⟩
        have HSP := Lib.hid hsp
        clear hsp
        go_upto_if 27 with (fail)
        go_cut [3] from 19 to 61 (fun x W => x = .string sp ∧ Hid (Below wr.heap.size wr W))
        case first =>
          by_cases hz : i = 0
          · have hz1 : ¬ (0 : Int) < i := by omega
            have HE : Hid (sJ = sp) := by show _ = _; rw [HSJ.out, HSP.out, if_pos hz, hz]; rfl
            clear hz
            go_wp2_with fail
            go_meet
            case rel => exact ⟨by rw [HE.out], Below.refl _ _⟩
          · have hz1 : (0 : Int) < i := by omega
            have HE : Hid (sp = bstr (Lib.join (textL (ks.take i)) (sgK k) ++ sgK k)) := by show _ = _; rw [HSP.out, if_neg hz]
            have HCC : Hid (∀ (x : UInt8) (a : ByteArray) (l : List UInt8), a = bstr l → a ++ ⟨#[32]⟩ ++ ⟨#[x]⟩ ++ ⟨#[32]⟩ = bstr (l ++ [32, x, 32])) := fun x a l h => by
              rw [h, show (⟨#[32]⟩ : ByteArray) = bstr [32] from rfl, show (⟨#[x]⟩ : ByteArray) = bstr [x] from rfl, bstr_app, bstr_app, bstr_app, List.append_assoc, List.append_assoc]; rfl
            clear hz
            have y0 := (HAI.out.alloc (.cells #[.string ⟨#[43]⟩, .string ⟨#[38]⟩, .string ⟨#[45]⟩] 9)).cell 0
            simp only [List.getElem?_cons_zero] at y0
            rcases HKD.out with rfl | rfl | rfl
            · go_wp2_with fail
              go_meet
              case rel => exact ⟨by rw [HE.out, HCC.out 43 sJ _ HSJ.out]; rfl, (Below.refl _ _).alloc (Nat.le_refl _) _⟩
            · go_wp2_with fail
              go_meet
              case rel => exact ⟨by rw [HE.out, HCC.out 38 sJ _ HSJ.out]; rfl, (Below.refl _ _).alloc (Nat.le_refl _) _⟩
            · go_wp2_with fail
              go_meet
              case rel => exact ⟨by rw [HE.out, HCC.out 45 sJ _ HSJ.out]; rfl, (Below.refl _ _).alloc (Nat.le_refl _) _⟩
        case rest =>
          obtain ⟨rfl, HBW⟩ := hcut
          have HI3 := Lib.hid (HI.out.trans (HBW.out.mono HI.out.size))
          have HA3 := Lib.hid (HAI.out.later HBW.out)
          clear a0 a3 HI HAI HBW
          have a0 := HA3.out.cell 0
          have a3 := HA3.out.cell 3
          simp only [List.getElem?_cons_zero, List.getElem?_cons_succ] at a0 a3
          obtain ⟨ba, oa, rfl, hba, hl⟩ := HK.out (by omega)
          obtain ⟨x, hx⟩ : ∃ x, x = ks.getD i ex0 := ⟨_, rfl⟩
          obtain ⟨q2, c2, x0, x1, x2, x3, hr⟩ := hl.at hlt
          have hxs := sizeL_get ks i hlt
          have hxd := depthL_get ks i hlt
          rw [← hx] at x0 x1 x2 x3 hr hxs hxd
          have HX := Lib.hid hx
          obtain ⟨xk, xv2, xn2, xs⟩ := x
          have cc : ∀ n, wc.cell? ⟨ba, n, none⟩ = w.cell? ⟨ba, n, none⟩ := fun n => (HI3.out).cell (p := ⟨ba, n, none⟩) (hP _ hba)
          have X0 : wc.cell? ⟨ba, oa + i * 4, none⟩ = some (.int .i64 xk) := (cc _).trans x0
          have X1 : wc.cell? ⟨ba, oa + i * 4 + 1, none⟩ = some (.string (bstr xv2)) := (cc _).trans x1
          have X2 : wc.cell? ⟨ba, oa + i * 4 + 2, none⟩ = some (.string (bstr xn2)) := (cc _).trans x2
          have X3 : wc.cell? ⟨ba, oa + i * 4 + 3, none⟩ = some (.slice q2 xs.length c2) := (cc _).trans x3
          clear x0 x1 x2 x3 cc hx
          have hxw := wL_get ks i hlt
          rw [← HX.out] at hxw
          have HR : Hid (RdE P wc (.mk xk xv2 xn2 xs) (.agg #[.int .i64 xk, .string (bstr xv2), .string (bstr xn2), .slice q2 xs.length c2])) := hr.below HI3.out hP
          have HPW : Hid (∀ b, P b → b < wc.heap.size) := fun b hb => Nat.lt_of_lt_of_le (hP b hb) HI3.out.size
          have HC : Hid (∀ W, Below wc.heap.size wc W → Calls Tryd.prog 11 #[.agg #[.int .i64 xk, .string (bstr xv2), .string (bstr xn2), .slice q2 xs.length c2]] W fun r w' => r = .returned (.string (bstr (textE (.mk xk xv2 xn2 xs)))) ∧ Below W.heap.size W w') :=
            fun W hW => HIH.out (.mk xk xv2 xn2 xs) _ P W (by omega) (by omega) (by omega) (HX.out ▸ formL_get hlt HFK.out) (HR.out.below hW HPW.out) (fun b hb => Nat.lt_of_lt_of_le (HPW.out b hb) hW.size)
          have HLF : Hid (Calls Tryd.prog 29 #[.agg #[.int .i64 xk, .string (bstr xv2), .string (bstr xn2), .slice q2 xs.length c2]] wc fun r w' => r = .returned (.bool (leafK xk)) ∧ Below wc.heap.size wc w') := rleaf_any (e := .mk xk xv2 xn2 xs) HR.out
          have HST : Hid (Lib.join (textL (ks.take (i + 1))) (sgK k) = (if i = 0 then [] else Lib.join (textL (ks.take i)) (sgK k) ++ sgK k) ++ wrapT xk (textE (.mk xk xv2 xn2 xs))) := by show _ = _; rw [joinE_step hlt, ← HX.out]; rfl
          have htl := textE_len (.mk xk xv2 xn2 xs)
          have zp : (sp.size : Int) ≤ 900000003 := by
            rw [HSP.out, bstr_size]
            have := joinL_le ks i (sgK k) (by rw [sgK_len]; exact Nat.le_refl _)
            split
            · simp
            · rw [List.length_append, sgK_len]; omega
          obtain ⟨tx, htx⟩ : ∃ tx, tx = textE (.mk xk xv2 xn2 xs) := ⟨_, rfl⟩
          rw [← htx] at htl HC HST
          obtain ⟨sx, hsx⟩ : ∃ s, s = bstr tx := ⟨_, rfl⟩
          have z1 : (sx.size : Int) ≤ 900000000 := by rw [hsx, bstr_size]; omega
          rw [← hsx] at HC
          have HSX := Lib.hid hsx
          obtain ⟨lf, hlf⟩ : ∃ lf, lf = leafK xk := ⟨_, rfl⟩
          rw [← hlf] at HLF
          have HLK := Lib.hid hlf
          have HBA : Hid (oa = oa) := rfl
          have HPB : Hid (ba < wc.heap.size) := HPW.out ba hba
          clear hl hr hxs hxd hxw htl htx hsx hlf hba
          go_wp2_with fail
          refine HLF.out.mono ?_
          rintro r w6 ⟨rfl, b6⟩
          have cc : ∀ n, w6.cell? ⟨ba, n, none⟩ = wc.cell? ⟨ba, n, none⟩ := fun n => b6.cell (p := ⟨ba, n, none⟩) HPB.out
          have Y0 := (cc _).trans X0
          have Y1 := (cc _).trans X1
          have Y2 := (cc _).trans X2
          have Y3 := (cc _).trans X3
          have HC6 := Lib.hid (HC.out w6 b6)
          have HI6 := Lib.hid (HI3.out.trans (b6.mono HI3.out.size))
          have HA6 := Lib.hid (HA3.out.later b6)
          clear b6 cc X0 X1 X2 X3 a0 a3 HC HLF HI3 HA3
          have a0 := HA6.out.cell 0
          have a3 := HA6.out.cell 3
          simp only [List.getElem?_cons_zero, List.getElem?_cons_succ] at a0 a3
          cases lf with
          | true =>
            have HW : Hid (wrapT xk tx = tx) := by show _ = _; unfold wrapT; rw [if_pos HLK.out.symm]
            go_wp2_with fail
            refine HC6.out.mono ?_
            rintro r w7 ⟨rfl, b7⟩
            have HI7 := Lib.hid (HI6.out.trans (b7.mono HI6.out.size))
            have HA7 := Lib.hid (HA6.out.later b7)
            clear b7
            go_wp2_with fail
            go_roundw
            case rel => exact ⟨i + 1, _, by omega, by go_num, rfl, by show _ = _; rw [HST.out, HW.out, HSP.out, HSX.out, bstr_app], HI7.out, HA7.out⟩
            case measure => simp [intOf]; omega
          | false =>
            have HW : Hid (wrapT xk tx = 40 :: (tx ++ [41])) := by show _ = _; unfold wrapT; rw [if_neg (by rw [← HLK.out]; exact Bool.false_ne_true)]
            go_wp2_with fail
            refine HC6.out.mono ?_
            rintro r w7 ⟨rfl, b7⟩
            have HI7 := Lib.hid (HI6.out.trans (b7.mono HI6.out.size))
            have HA7 := Lib.hid (HA6.out.later b7)
            clear b7
            go_wp2_with fail
            go_roundw
            case rel => exact ⟨i + 1, _, by omega, by go_num, rfl, by show _ = _; rw [HST.out, HW.out, HSP.out, HSX.out, show (⟨#[40]⟩ : ByteArray) = bstr [40] from rfl, show (⟨#[41]⟩ : ByteArray) = bstr [41] from rfl, bstr_app, bstr_app, bstr_app, List.append_assoc, List.append_assoc]; rfl, HI7.out, HA7.out⟩
            case measure => simp [intOf]; omega
      · have hi1 : ¬ (i : Int) < ks.length := by omega
        have HK2 : Hid (ks.take i = ks) := List.take_of_length_le (by omega)
        go_wp2_with fail
        go_ret
        exact ⟨by rw [HT.out, ← HK2.out]; exact congrArg (fun s => Ending.returned (.string s)) (by rw [HSJ.out, HK2.out]), HI.out⟩
end Go.Proofs.YtigphejoekfclaaDoor
