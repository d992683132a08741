/-
  canon.Expr: what it makes of each part, from the innermost on.
-/
import Derived.Test.YtdnmgemjhpkekaaGreatCnF
import Derived.Defers
namespace Go.Proofs.YtdnmgemjhpkekaaGreat
open Go.ChangeShapes Go.WideShapes Go.ChangeAt Go.RowKit
set_option linter.unusedVariables false

theorem canE_mk (k : Int) (v n : List UInt8) (ks : List Ex) : canE cmpE (.mk k v n ks) = finE cmpE k v n (canL cmpE ks) := by rw [canE]
mutual
theorem canE_size : ∀ e : Ex, sizeE (canE cmpE e) ≤ sizeE e
  | .mk k v n ks => by
    have h := canL_size ks
    rw [canE_mk]
    refine Nat.le_trans (fin_size k v n _) ?_
    rw [sizeE, sizeE]; omega
theorem canL_size : ∀ l : List Ex, sizeL (canL cmpE l) ≤ sizeL l
  | [] => Nat.le_refl _
  | e :: r => by
    have h1 := canE_size e
    have h2 := canL_size r
    rw [canL, sizeL, sizeL]; omega
end
theorem canL_snoc : ∀ (ks : List Ex) (e : Ex), canL cmpE (ks ++ [e]) = canL cmpE ks ++ [canE cmpE e]
  | [], e => by simp [canL]
  | a :: r, e => by rw [List.cons_append]; unfold canL; rw [canL_snoc r e]; rfl
theorem form_ne {k : Int} {v n : List UInt8} {ks : List Ex} (h : formE (.mk k v n ks) = true) (hk : k = 3 ∨ k = 4) : 2 ≤ ks.length := by
  unfold formE at h
  simp only [Bool.and_eq_true] at h
  have h1 := h.1
  unfold partB at h1
  rw [if_neg (by omega), if_neg (by omega), if_pos hk] at h1
  simp only [Bool.and_eq_true, decide_eq_true_eq] at h1
  exact h1.1.1
theorem formL_mem' : ∀ {l : List Ex}, formL l = true → ∀ x ∈ l, formE x = true
  | [], _, x, hx => by cases hx
  | e :: r, h, x, hx => by
    unfold formL at h
    simp only [Bool.and_eq_true] at h
    rcases List.mem_cons.1 hx with rfl | hx
    · exact h.1
    · exact formL_mem' h.2 x hx
theorem form_kidsL {k : Int} {v n : List UInt8} {ks : List Ex} (h : formE (.mk k v n ks) = true) : formL ks = true := by
  unfold formE at h
  simp only [Bool.and_eq_true] at h
  exact h.2
theorem FBox.set {w : World} {pb : Nat} {f : FuncId} (h : FBox w pb f) {a : Addr} (hne : pb ≠ a.block) (v : Value) : FBox (w.setCell a v) pb f :=
  ⟨by simpa [World.setCell] using h.1, (World.cell?_of_block (a := ⟨pb, 0, none⟩) (Below.heap_setCell w a v pb hne)).trans h.2⟩
set_option maxRecDepth 100000 in
set_option maxHeartbeats 4000000 in
theorem fx_any {P : Nat → Prop} {w : World} {e : Ex} {v : Value} {pb : Nat} (hb : FBox w pb 17) (h : RdE P w e v) (hP : ∀ b, P b → b < w.heap.size) (hsz : sizeE e ≤ 900000) (hne : e.kind = 3 ∨ e.kind = 4 → 0 < e.kids.length ∧ ∀ x ∈ e.kids, x.kind = e.kind → 0 < x.kids.length) :
    Calls Tryz.prog 19 #[v, .pointer (some ⟨pb, 0, none⟩)] w fun r w' => ∃ v', r = .returned v' ∧ RdE (fun b => P b ∨ Bt (w.heap.size + 2) w'.heap.size b) w' (finE cmpE e.kind e.via e.nm e.kids) v' ∧ Below w.heap.size w w' := by
  have HR := Lib.hid h
  obtain ⟨q, c, rfl, hc, hk⟩ := h.form
  obtain ⟨k, xv, xn, ks⟩ := e
  unfold exv
  show Calls _ _ #[.agg #[.int .i64 k, .string (bstr xv), .string (bstr xn), .slice q ks.length c], .pointer (some ⟨pb, 0, none⟩)] _ _
  have HA0 : Hid (Arr ((w.alloc (.cells #[.int .i64 k, .string (bstr xv), .string (bstr xn), .slice q ks.length c] 24)).alloc (.cells #[.int .i64 0, .string ⟨#[]⟩, .string ⟨#[]⟩, .slice none 0 0] 24)) 24 (w.heap.size + 1) [.int .i64 0, .string ByteArray.empty, .string ByteArray.empty, .slice none 0 0] ∧ Below w.heap.size w ((w.alloc (.cells #[.int .i64 k, .string (bstr xv), .string (bstr xn), .slice q ks.length c] 24)).alloc (.cells #[.int .i64 0, .string ⟨#[]⟩, .string ⟨#[]⟩, .slice none 0 0] 24))) :=
    ⟨Arr.new2 w _ _ _ _ rfl, ((Below.refl _ _).alloc (Nat.le_refl _) _).alloc (by simp) _⟩
  have HFB := Lib.hid (hb.later HA0.out.2)
  have hcb : ((w.alloc (.cells #[.int .i64 k, .string (bstr xv), .string (bstr xn), .slice q ks.length c] 24)).alloc (.cells #[.int .i64 0, .string ⟨#[]⟩, .string ⟨#[]⟩, .slice none 0 0] 24)).cell? ⟨pb, 0, none⟩ = some (.func (.func 17) #[] #[]) := HFB.out.2
  have hs0 : ((w.alloc (.cells #[.int .i64 k, .string (bstr xv), .string (bstr xn), .slice q ks.length c] 24)).alloc (.cells #[.int .i64 0, .string ⟨#[]⟩, .string ⟨#[]⟩, .slice none 0 0] 24)).heap.size = w.heap.size + 2 := by simp
  have HC := Lib.hid (canonical_any (HR.out.below HA0.out.2 hP) (fun b hb => Nat.lt_of_lt_of_le (hP b hb) HA0.out.2.size) hsz hne)
  rw [hs0] at HC
  dsimp only [Ex.kind, Ex.via, Ex.nm, Ex.kids] at HC ⊢
  unfold exv at HC
  dsimp only [Ex.kind, Ex.via, Ex.nm, Ex.kids] at HC
  obtain ⟨F, hF⟩ : ∃ F, F = finE cmpE k xv xn ks := ⟨_, rfl⟩
  rw [← hF] at HC ⊢
  have HPP := Lib.hid hP
  clear h hc hk hsz hne hb hF hs0 hP
  go_enter Tryz.func19, Tryz.ntmps19
  go_wp2_with fail
  refine HC.out.mono ?_
  rintro r w5 ⟨v5, rfl, r5, b5⟩
  have HB5 := Lib.hid (HA0.out.2.trans ((b5.mono (by simp)).mono (Nat.le_refl _)))
  have HA5 := Lib.hid (HA0.out.1.below b5 (by omega))
  obtain ⟨yk, yv, yn, ys⟩ := F
  have R5 := Lib.hid r5
  obtain ⟨q5, c5, rfl, _, _⟩ := r5.form
  unfold exv
  dsimp only [Ex.kind, Ex.via, Ex.nm, Ex.kids]
  have r0 := HA5.out.cell 0
  have r1 := HA5.out.cell 1
  have r2 := HA5.out.cell 2
  have r3 := HA5.out.cell 3
  have p0 := HA5.out.free 0
  have p1 := HA5.out.free 1
  have p2 := HA5.out.free 2
  have p3 := HA5.out.free 3
  simp only [List.getElem?_cons_zero, List.getElem?_cons_succ] at r0 r1 r2 r3
  clear r5 b5 hcb HC
  go_wp2_with fail
  have hA := HA5.out.set4 (.int .i64 yk) (.string (bstr yv)) (.string (bstr yn)) (.slice q5 ys.length c5)
  have hBl := below_set4 (g := w.heap.size + 1) HB5.out (by omega) (.int .i64 yk) (.string (bstr yv)) (.string (bstr yn)) (.slice q5 ys.length c5)
  have hsz5 : ((((w5.setCell ⟨w.heap.size + 1, 0, none⟩ (.int .i64 yk)).setCell ⟨w.heap.size + 1, 1, none⟩ (.string (bstr yv))).setCell ⟨w.heap.size + 1, 2, none⟩ (.string (bstr yn))).setCell ⟨w.heap.size + 1, 3, none⟩ (.slice q5 ys.length c5)).heap.size = w5.heap.size := by simp [World.setCell]
  refine bodyPost_ret (resE rfl hA rfl) rfl ⟨_, rfl, ?_, hBl⟩
  rw [hsz5]
  exact R5.out.keep fun b hb n => World.cell?_of_block (heap_set4x w5 (w.heap.size + 1) _ _ _ _ (b := b) (by
    rcases hb with hb | hb
    · have := HPP.out b hb; omega
    · have := hb.1; omega))
set_option maxRecDepth 100000 in
set_option maxHeartbeats 4000000 in
theorem mapC_any (pb : Nat) : ∀ (n : Nat) (e : Ex) (v : Value) (P : Nat → Prop) (w : World), sizeE e ≤ n → sizeE e ≤ 900000 → formE e = true → FBox w pb 17 → RdE P w e v → (∀ b, P b → b < w.heap.size) → Calls Tryz.prog 37 #[v, .func (.func 19) #[] #[.pointer (some ⟨pb, 0, none⟩)]] w (ClPost (canE cmpE e) w) := by
  intro n
  induction n with
  | zero => intro e v P w h; have := sizeE_pos e; omega
  | succ n ih =>
    intro e v P w hn hm hwt hfb h hP
    have HFB := Lib.hid hfb
    have HFE := Lib.hid hwt
    have HKM := Lib.hid hm
    obtain ⟨q, c, rfl, hc, hk⟩ := h.form
    obtain ⟨k, xv, xn, ks⟩ := e
    unfold exv
    show Calls _ _ #[.agg #[.int .i64 k, .string (bstr xv), .string (bstr xn), .slice q ks.length c], .func (.func 19) #[] #[.pointer (some ⟨pb, 0, none⟩)]] _ _
    have HK : Hid (0 < ks.length → ∃ b o, q = some ⟨b, o, none⟩ ∧ P b ∧ RdL P w ks b o) := hk
    have hks : sizeL ks ≤ n := by unfold sizeE at hn; omega
    have hkm : sizeL ks ≤ 900000 := by unfold sizeE at hm; omega
    have hkf : formL ks = true := form_kidsL HFE.out
    have HKF := Lib.hid hkf
    have hlen := sizeL_len ks
    have HIH := Lib.hid ih
    have H0 : Hid (CX w [.int .i64 k, .string (bstr xv), .string (bstr xn), .slice q ks.length c] (.slice none 0 0) [] ((w.alloc (.cells #[.int .i64 k, .string (bstr xv), .string (bstr xn), .slice q ks.length c] 24)).alloc (.cells #[.int .i64 0, .string ByteArray.empty, .string ByteArray.empty, .slice none 0 0] 24))) :=
      ⟨(Arr.new' w _ _ _ rfl).alloc _, Arr.new2 w _ _ _ _ rfl, ExRow.nil _ _, ((Below.refl _ _).alloc (Nat.le_refl _) _).alloc (by simp) _, by simp⟩
    clear h ih hc hk hn hm hwt hfb hkf
    go_enter Tryz.func37, Tryz.ntmps37
    go_wp2_with fail
    go_loopw [5, 11] (fun dv iv wr => ∃ i : Nat, i ≤ ks.length ∧ iv = .int .i64 i ∧ Hid (CX w [.int .i64 k, .string (bstr xv), .string (bstr xn), .slice q ks.length c] dv (canL cmpE (ks.take i)) wr)) (fun _ iv _ => ks.length - (intOf iv).toNat)
    case atStart => exact ⟨0, Nat.zero_le _, rfl, H0.out⟩
    case round =>
      obtain ⟨i, hi, rfl, HC⟩ := hrel
      have hi0 : (0 : Int) ≤ i := by omega
      have HI := Lib.hid HC.out.2.2.2.1
      obtain ⟨qv, cv, rfl⟩ := HC.out.2.2.1.form
      have htl : (canL cmpE (ks.take i)).length = i := by rw [canL_len cmpE, List.length_take]; omega
      rw [htl] at HC ⊢
      by_cases hlt : i < ks.length
      · have hi1 : (i : Int) < ks.length := by omega
        obtain ⟨ba, oa, rfl, hba, hl⟩ := HK.out (by omega)
        obtain ⟨x, hx⟩ : ∃ x, x = ks.getD i ex0 := ⟨_, rfl⟩
        obtain ⟨q2, c2, x0, x1, x2, x3, hr⟩ := hl.at hlt
        have hxs := sizeL_get ks i hlt
        have hxd := depthL_get ks i hlt
        rw [← hx] at x0 x1 x2 x3 hr hxs hxd
        have HX := Lib.hid hx
        obtain ⟨xk, xv2, xn2, xs⟩ := x
        have cc : ∀ n, wr.cell? ⟨ba, n, none⟩ = w.cell? ⟨ba, n, none⟩ := fun n => (HI.out).cell (p := ⟨ba, n, none⟩) (hP _ hba)
        have X0 : wr.cell? ⟨ba, oa + i * 4, none⟩ = some (.int .i64 xk) := (cc _).trans x0
        have X1 : wr.cell? ⟨ba, oa + i * 4 + 1, none⟩ = some (.string (bstr xv2)) := (cc _).trans x1
        have X2 : wr.cell? ⟨ba, oa + i * 4 + 2, none⟩ = some (.string (bstr xn2)) := (cc _).trans x2
        have X3 : wr.cell? ⟨ba, oa + i * 4 + 3, none⟩ = some (.slice q2 xs.length c2) := (cc _).trans x3
        clear x0 x1 x2 x3 cc hx
        have hxw : formE (.mk xk xv2 xn2 xs) = true := by rw [HX.out]; exact formL_mem' HKF.out _ (getD_mem hlt)
        have HBA : Hid (Below wr.heap.size wr (wr.alloc (.cells #[.int .i64 xk, .string (bstr xv2), .string (bstr xn2), .slice q2 xs.length c2] 24))) := (Below.refl _ _).alloc (Nat.le_refl _) _
        have HR : Hid (RdE P (wr.alloc (.cells #[.int .i64 xk, .string (bstr xv2), .string (bstr xn2), .slice q2 xs.length c2] 24)) (.mk xk xv2 xn2 xs) (.agg #[.int .i64 xk, .string (bstr xv2), .string (bstr xn2), .slice q2 xs.length c2])) := (hr.below (HI.out) hP).below HBA.out (fun b hb => Nat.lt_of_lt_of_le (hP b hb) (HI.out).size)
        have HIC := Lib.hid (HIH.out (.mk xk xv2 xn2 xs) _ P _ (by omega) (by omega) hxw ((HFB.out.later HI.out).later HBA.out) HR.out (fun b hb => Nat.lt_of_lt_of_le (hP b hb) (Nat.le_trans HI.out.size HBA.out.size)))
        have HC4 := Lib.hid (HC.out.later HBA.out)
        have HMP : Hid (canL cmpE (ks.take (i + 1)) = canL cmpE (ks.take i) ++ [canE cmpE (.mk xk xv2 xn2 xs)]) := by show _ = _; rw [take_snocE hlt, ← HX.out, canL_snoc]
        obtain ⟨me, hme⟩ : ∃ e, e = canE cmpE (.mk xk xv2 xn2 xs) := ⟨_, rfl⟩
        rw [← hme] at HIC HMP
        clear hl hr hxs hxd hxw hme
        go_wp2_with fail
        refine HIC.out.mono ?_
        rintro r w5 ⟨v5, rfl, r5, b5⟩
        have HC5 := Lib.hid (HC4.out.later b5)
        obtain ⟨mk, mv, mn, ms⟩ := me
        obtain ⟨q5, c5, rfl, hc5⟩ := r5.form
        have HR5 : Hid (RdE (Sub (w.heap.size + 2) w5 (.slice qv i cv)) w5 (.mk mk mv mn ms) (.agg #[.int .i64 mk, .string (bstr mv), .string (bstr mn), .slice q5 ms.length c5])) := r5.imp fun b hb => ⟨Nat.le_trans HC4.out.2.2.2.2 hb.1, hb.2, fun e => by
          have := HC4.out.2.2.1.blk e.symm
          have := hb.1
          omega⟩
        unfold exv
        dsimp only [Ex.kind, Ex.via, Ex.nm, Ex.kids]
        have HB6 : Hid (Below w5.heap.size w5 (w5.alloc (.cells #[.int .i64 mk, .string (bstr mv), .string (bstr mn), .slice q5 ms.length c5] 24))) := (Below.refl _ _).alloc (Nat.le_refl _) _
        have HC6 := Lib.hid (HC5.out.later HB6.out)
        have HTR := Lib.hid HC6.out.2.2.1
        have HAB : Hid (Arr (w5.alloc (.cells #[.int .i64 mk, .string (bstr mv), .string (bstr mn), .slice q5 ms.length c5] 24)) 24 w5.heap.size [.int .i64 mk, .string (bstr mv), .string (bstr mn), .slice q5 ms.length c5]) := Arr.new' _ _ _ _ rfl
        have HRE : Hid (RdE (Sub (w.heap.size + 2) (w5.alloc (.cells #[.int .i64 mk, .string (bstr mv), .string (bstr mn), .slice q5 ms.length c5] 24)) (.slice qv i cv)) (w5.alloc (.cells #[.int .i64 mk, .string (bstr mv), .string (bstr mn), .slice q5 ms.length c5] 24)) (.mk mk mv mn ms) (.agg #[.int .i64 mk, .string (bstr mv), .string (bstr mn), .slice q5 ms.length c5])) :=
          (HR5.out.below HB6.out fun b hb => hb.2.1).imp fun b hb => ⟨hb.1, Nat.lt_of_lt_of_le hb.2.1 HB6.out.size, hb.2.2⟩
        have HAC : Hid ((canL cmpE (ks.take i)).length + 1 ≤ 1000000) := by show _ ≤ _; omega
        have HBS : Hid (w.heap.size + 2 ≤ (w5.alloc (.cells #[.int .i64 mk, .string (bstr mv), .string (bstr mn), .slice q5 ms.length c5] 24)).heap.size) := HC6.out.2.2.2.2
        clear b5 r5 hc5 htl
        go_wp2_with (at_builtin; refine app_ex rfl _ _ rfl rfl HTR.out rfl HAB.out HRE.out HAC.out HBS.out ?_; intro v6 w6 h6 b6 g6)
        go_roundw
        case rel => exact ⟨i + 1, by omega, by go_num, by rw [HMP.out]; exact HC6.out.row h6 b6⟩
        case measure => simp [intOf]; omega
      · have hi1 : ¬ (i : Int) < ks.length := by omega
        have HK2 : Hid (ks.take i = ks) := List.take_of_length_le (by omega)
        obtain rfl : i = ks.length := by omega
        have HC2 := HC.out
        rw [HK2.out] at HC2
        have HC3 := Lib.hid HC2
        have hq0 := HC2.1.cell 0
        have hq1 := HC2.1.cell 1
        have hq2 := HC2.1.cell 2
        have hq3 := HC2.1.cell 3
        have hf3 := HC2.1.free 3
        simp only [List.getElem?_cons_zero, List.getElem?_cons_succ] at hq0 hq1 hq2 hq3
        have hstr : (w.heap.size : Nat) < w.heap.size + 2 := by omega
        have HQ3 := Lib.hid (HC3.out.1.set 3 (.slice qv ks.length cv))
        have HE3 := Lib.hid (HC3.out.2.2.1.set (a := ⟨w.heap.size, 3, none⟩) hstr (.slice qv ks.length cv))
        have HZ3 := Lib.hid (HC3.out.2.1.setCell (a := ⟨w.heap.size, 3, none⟩) (by simp) (.slice qv ks.length cv))
        have HB3 : Hid (Below w.heap.size w (wr.setCell ⟨w.heap.size, 3, none⟩ (.slice qv ks.length cv))) := HC3.out.2.2.2.1.setCell (p := ⟨w.heap.size, 3, none⟩) (Nat.le_refl _) (.slice qv ks.length cv)
        have HF3 : Hid (FBox (wr.setCell ⟨w.heap.size, 3, none⟩ (.slice qv ks.length cv)) pb 17) := (HFB.out.later HC3.out.2.2.2.1).set (by have := HFB.out.1; show pb ≠ w.heap.size; omega) _
        have HSL : Hid (sizeE (.mk k xv xn (canL cmpE ks)) ≤ 900000) := by have := canL_size ks; have h := HKM.out; show sizeE _ ≤ _; rw [sizeE] at h ⊢; omega
        have hrd := HE3.out.rd k xv xn
        have HMD := Lib.hid (canE_mk k xv xn ks)
        have HGN : Hid (k = 3 ∨ k = 4 → 0 < (canL cmpE ks).length ∧ ∀ x ∈ canL cmpE ks, x.kind = k → 0 < x.kids.length) := fun hk => by
          rw [canL_len]
          refine ⟨by have := form_ne HFE.out hk; omega, fun x hx hxk => ?_⟩
          rw [canL_map, List.mem_map] at hx
          obtain ⟨y, hy, rfl⟩ := hx
          have hf := (can_ok ordX y (formL_mem' HKF.out y hy)).2.1
          generalize canE cmpE y = z at hf hxk ⊢
          obtain ⟨a, b, cc, d⟩ := z
          have := form_ne hf (show a = 3 ∨ a = 4 by have h : a = k := hxk; rw [h]; exact hk)
          show 0 < d.length
          omega
        have HSZ3 : Hid ((wr.setCell ⟨w.heap.size, 3, none⟩ (.slice qv ks.length cv)).heap.size = wr.heap.size) := by show _ = _; simp [World.setCell]
        have HFX := Lib.hid (fx_any (e := .mk k xv xn (canL cmpE ks)) HF3.out hrd (fun b hb => hb.2) HSL.out HGN.out)
        have HW2 := Lib.hid HC3.out.2.2.2.2
        obtain ⟨F, hF⟩ : ∃ F, F = canE cmpE (.mk k xv xn ks) := ⟨_, rfl⟩
        dsimp only [Ex.kind, Ex.via, Ex.nm, Ex.kids] at HFX
        rw [← HMD.out, ← hF] at HFX
        have HFQ := Lib.hid hF
        have hq30 := HQ3.out.cell 0
        have hq31 := HQ3.out.cell 1
        have hq32 := HQ3.out.cell 2
        have hq33 := HQ3.out.cell 3
        simp only [List.set_cons_zero, List.set_cons_succ, List.getElem?_cons_zero, List.getElem?_cons_succ] at hq30 hq31 hq32 hq33
        clear HC2 htl HC hrd hF hq0 hq1 hq2
        go_wp2_with fail
        refine HFX.out.mono ?_
        rintro r w8 ⟨v8, rfl, r8, b8⟩
        have HB8 : Hid (Below w.heap.size w w8) := HB3.out.trans (b8.mono (by rw [HSZ3.out]; have := HW2.out; omega))
        have HE8 := Lib.hid (HZ3.out.later b8)
        have R8 := Lib.hid r8
        have HS8 := Lib.hid b8.size
        obtain ⟨yk, yv, yn, ys⟩ := F
        obtain ⟨q8, c8, rfl, _, _⟩ := r8.form
        unfold exv
        dsimp only [Ex.kind, Ex.via, Ex.nm, Ex.kids]
        have hr0 := HE8.out.cell 0
        have hr1 := HE8.out.cell 1
        have hr2 := HE8.out.cell 2
        have hr3 := HE8.out.cell 3
        have hp0 := HE8.out.free 0
        have hp1 := HE8.out.free 1
        have hp2 := HE8.out.free 2
        have hp3 := HE8.out.free 3
        simp only [List.getElem?_cons_zero, List.getElem?_cons_succ] at hr0 hr1 hr2 hr3
        clear b8 r8 hq30 hq31 hq32 hq33 hf3 hq3
        go_wp2_with fail
        have hA := HE8.out.set4 (.int .i64 yk) (.string (bstr yv)) (.string (bstr yn)) (.slice q8 ys.length c8)
        have hB := below_set4 (g := w.heap.size + 1) HB8.out (by omega) (.int .i64 yk) (.string (bstr yv)) (.string (bstr yn)) (.slice q8 ys.length c8)
        have hsz8 : ((((w8.setCell ⟨w.heap.size + 1, 0, none⟩ (.int .i64 yk)).setCell ⟨w.heap.size + 1, 1, none⟩ (.string (bstr yv))).setCell ⟨w.heap.size + 1, 2, none⟩ (.string (bstr yn))).setCell ⟨w.heap.size + 1, 3, none⟩ (.slice q8 ys.length c8)).heap.size = w8.heap.size := by simp [World.setCell]
        refine bodyPost_ret (resE rfl hA rfl) rfl ⟨_, rfl, ?_, hB⟩
        rw [hsz8, ← HFQ.out]
        refine (R8.out.keep fun b hb n => World.cell?_of_block (heap_set4x w8 (w.heap.size + 1) _ _ _ _ (b := b) ?_)).imp fun b hb => ?_
        · rcases hb with hb | hb
          · have := hb.1; omega
          · have := hb.1; have := HW2.out; have := HSZ3.out; omega
        · rcases hb with hb | hb
          · exact ⟨by have := hb.1; omega, by have := hb.2; have := HS8.out; omega⟩
          · exact ⟨by have := hb.1; have := HW2.out; have := HSZ3.out; omega, hb.2⟩
theorem idle_M (p : Value) (w : World) :
    CallsD Tryz.prog 35 #[p] .returning w fun e u' w' => e = .returned (.tuple #[]) ∧ u' = .returning ∧ w' = w := by
  refine callsD_of_wpS Tryz.func35 rfl fun c₀ cs hu => ?_
  apply wpS_seq
  apply wpS_region
  simp [wpOpsS, go_sem, recoverD, hu, Tryz.ntmps35, Exit.thenS]
  refine wpS_cond (t := false) (by simp [Act.eval, Array.replicate]) ?_
  simp only [Bool.false_eq_true, if_false]
  refine wpS_of_wp (wp_skip ?_)
  cases c₀
  simp_all [bodyPostS, results, Tryz.results35]
set_option maxRecDepth 100000 in
set_option maxHeartbeats 4000000 in
theorem mapX_any (e : Ex) (v : Value) (P : Nat → Prop) (w : World) (pb : Nat) (hm : sizeE e ≤ 900000) (hwt : formE e = true) (hfb : FBox w pb 17) (h : RdE P w e v) (hP : ∀ b, P b → b < w.heap.size) : Calls Tryz.prog 18 #[v, .func (.func 19) #[] #[.pointer (some ⟨pb, 0, none⟩)]] w (ClPost (canE cmpE e) w) := by
  have H := Lib.hid h
  obtain ⟨q, c, rfl, hc, hk⟩ := h.form
  obtain ⟨k, xv, xn, ks⟩ := e
  unfold exv
  show Calls _ _ #[.agg #[.int .i64 k, .string (bstr xv), .string (bstr xn), .slice q ks.length c], .func (.func 19) #[] #[.pointer (some ⟨pb, 0, none⟩)]] _ _
  have hmf : ∀ (fn : Fn) (first cap : Array Value) (w : World), (Instr.makeFunc fn first cap).run Tryz.prog w = .ok (.func fn first cap) w := fun _ _ _ _ => rfl
  have HW : Hid (Arr ((w.alloc (.cells #[.int .i64 k, .string (bstr xv), .string (bstr xn), .slice q ks.length c] 24)).alloc (.cells #[.int .i64 0, .string ByteArray.empty, .string ByteArray.empty, .slice none 0 0] 24)) 24 (w.heap.size + 1) [.int .i64 0, .string ByteArray.empty, .string ByteArray.empty, .slice none 0 0] ∧ Below w.heap.size w ((w.alloc (.cells #[.int .i64 k, .string (bstr xv), .string (bstr xn), .slice q ks.length c] 24)).alloc (.cells #[.int .i64 0, .string ByteArray.empty, .string ByteArray.empty, .slice none 0 0] 24))) :=
    ⟨Arr.new2 w _ _ _ _ rfl, ((Below.refl _ _).alloc (Nat.le_refl _) _).alloc (by simp) _⟩
  have HMC := Lib.hid (mapC_any pb _ (.mk k xv xn ks) _ P ((w.alloc (.cells #[.int .i64 k, .string (bstr xv), .string (bstr xn), .slice q ks.length c] 24)).alloc (.cells #[.int .i64 0, .string ByteArray.empty, .string ByteArray.empty, .slice none 0 0] 24)) (Nat.le_refl _) hm hwt (hfb.later HW.out.2) (H.out.below HW.out.2 hP) (fun b hb => Nat.lt_of_lt_of_le (hP b hb) HW.out.2.size))
  have HSZ : Hid (sizeE (canE cmpE (.mk k xv xn ks)) ≤ 900000) := Nat.le_trans (canE_size _) hm
  obtain ⟨me, hme⟩ : ∃ e, e = canE cmpE (.mk k xv xn ks) := ⟨_, rfl⟩
  rw [← hme] at HMC HSZ ⊢
  clear h hc hk hm hwt hP hme H hfb
  go_enter_defers Tryz.func18, Tryz.ntmps18
  go_wp2_with fail
  refine HMC.out.mono ?_
  rintro r w3 ⟨v3, rfl, r3, b3⟩
  have HB3 := Lib.hid (HW.out.2.trans (b3.mono HW.out.2.size))
  have HA3 := Lib.hid (HW.out.1.later b3)
  have HCL := Lib.hid (clone_any _ me _ _ w3 (Nat.le_refl _) HSZ.out r3 (fun b hb => hb.2))
  clear r3 b3 HMC HW
  go_wp2_with fail
  refine HCL.out.mono ?_
  rintro r w4 ⟨v4, rfl, r4, b4⟩
  have HB4 := Lib.hid (HB3.out.trans (b4.mono HB3.out.size))
  have HA4 := Lib.hid (HA3.out.later b4)
  have HR4 : Hid (RdE (Bt w.heap.size w4.heap.size) w4 me v4) := r4.imp fun b hb => ⟨Nat.le_trans HB3.out.size hb.1, hb.2⟩
  have HLT : Hid (w.heap.size + 1 < w3.heap.size) := HA3.out.lt
  have HR5 : Hid (RdE (Bt w3.heap.size w4.heap.size) w4 me v4) := r4
  obtain ⟨mk, mv, mn, ms⟩ := me
  obtain ⟨q4, c4, rfl, _, _⟩ := r4.form
  unfold exv
  dsimp only [Ex.kind, Ex.via, Ex.nm, Ex.kids]
  have hr0 := HA4.out.cell 0
  have hr1 := HA4.out.cell 1
  have hr2 := HA4.out.cell 2
  have hr3 := HA4.out.cell 3
  have hp0 := HA4.out.free 0
  have hp1 := HA4.out.free 1
  have hp2 := HA4.out.free 2
  have hp3 := HA4.out.free 3
  simp only [List.getElem?_cons_zero, List.getElem?_cons_succ] at hr0 hr1 hr2 hr3
  clear r4 b4 HCL HB3 HA3
  go_wp2_with fail
  refine leaves_cons (f := 35) (args := #[.pointer (some ⟨w.heap.size + 1, 0, none⟩)]) (by simp) (by simp [go_sem]) ?_
  refine (idle_M _ _).mono ?_
  rintro e u' w'' ⟨rfl, rfl, rfl⟩
  have hA := HA4.out.set4 (.int .i64 mk) (.string (bstr mv)) (.string (bstr mn)) (.slice q4 ms.length c4)
  have hB := below_set4 (g := w.heap.size + 1) HB4.out (by omega) (.int .i64 mk) (.string (bstr mv)) (.string (bstr mn)) (.slice q4 ms.length c4)
  have hsz : ((((w4.setCell ⟨w.heap.size + 1, 0, none⟩ (.int .i64 mk)).setCell ⟨w.heap.size + 1, 1, none⟩ (.string (bstr mv))).setCell ⟨w.heap.size + 1, 2, none⟩ (.string (bstr mn))).setCell ⟨w.heap.size + 1, 3, none⟩ (.slice q4 ms.length c4)).heap.size = w4.heap.size := by simp [World.setCell]
  refine ⟨.agg #[.int .i64 mk, .string (bstr mv), .string (bstr mn), .slice q4 ms.length c4], ?_, _, rfl, ?_, hB⟩
  · exact resE rfl hA rfl
  · refine (HR5.out.keep fun b hb n => ?_).imp fun b hb => ⟨Nat.le_trans (by have := HLT.out; omega) hb.1, by rw [hsz]; exact hb.2⟩
    have hne : b ≠ w.heap.size + 1 := by have := hb.1; have := HLT.out; omega
    rw [World.cell?_of_block (Below.heap_setCell _ ⟨w.heap.size + 1, 3, none⟩ _ b hne), World.cell?_of_block (Below.heap_setCell _ ⟨w.heap.size + 1, 2, none⟩ _ b hne), World.cell?_of_block (Below.heap_setCell _ ⟨w.heap.size + 1, 1, none⟩ _ b hne), World.cell?_of_block (Below.heap_setCell _ ⟨w.heap.size + 1, 0, none⟩ _ b hne)]
end Go.Proofs.YtdnmgemjhpkekaaGreat
