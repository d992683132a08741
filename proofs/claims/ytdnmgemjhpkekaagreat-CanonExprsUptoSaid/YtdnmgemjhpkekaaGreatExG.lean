/-
  Which expressions are right; vestryref10.right.
-/
import Derived.Test.YtdnmgemjhpkekaaGreatExF
import Derived.Test.YtdnmgemjhpkekaaGreatNameR
namespace Go.Proofs.YtdnmgemjhpkekaaGreat
open Go.ChangeShapes Go.WideShapes Go.ChangeAt Go.RowKit
set_option linter.unusedVariables false

/-- A part is right, its kids apart: m, how many they are. -/
def partB (k : Int) (v n : List UInt8) (m : Nat) : Bool :=
  if k = 1 then decide (m = 0) && decide (v = []) && isName (bstr n)
  else if k = 2 then decide (m = 0) && isName (bstr v) && isName (bstr n)
  else if k = 3 ∨ k = 4 then decide (2 ≤ m) && decide (v = []) && decide (n = [])
  else if k = 5 then decide (m = 2) && decide (v = []) && decide (n = [])
  else false
mutual
def formE : Ex → Bool
  | .mk k v n ks => partB k v n ks.length && formL ks
def formL : List Ex → Bool
  | [] => true
  | e :: r => formE e && formL r
end
theorem good_all : ∀ {ks : List Ex} {d : Nat}, (∀ j, j < ks.length → (decide (depthE (ks.getD j ex0) ≤ d) && formE (ks.getD j ex0)) = true) → depthL ks ≤ d ∧ formL ks = true
  | [], d, _ => ⟨by unfold depthL; omega, rfl⟩
  | e :: r, d, h => by
    have h0 := h 0 (by simp)
    simp only [List.getD_cons_zero, Bool.and_eq_true, decide_eq_true_eq] at h0
    obtain ⟨g1, g2⟩ := good_all (ks := r) (d := d) (fun j hj => by have := h (j + 1) (by simpa using hj); simpa using this)
    unfold depthL formL
    exact ⟨by omega, by rw [h0.2, g2]; rfl⟩
theorem formL_get : ∀ {ks : List Ex} {j : Nat}, j < ks.length → formL ks = true → formE (ks.getD j ex0) = true
  | [], _, h, _ => by simp at h
  | e :: r, 0, _, h => by unfold formL at h; simp only [Bool.and_eq_true] at h; exact h.1
  | e :: r, j + 1, hj, h => by unfold formL at h; simp only [Bool.and_eq_true] at h; exact formL_get (j := j) (by simpa using hj) h.2
theorem bad_one {k : Int} {v n : List UInt8} {ks : List Ex} {d j : Nat} (hj : j < ks.length) (h : (decide (depthE (ks.getD j ex0) ≤ d) && formE (ks.getD j ex0)) = false) : (decide (depthE (.mk k v n ks) ≤ d + 1) && formE (.mk k v n ks)) = false := by
  rw [Bool.eq_false_iff] at h ⊢
  intro e
  simp only [Bool.and_eq_true, decide_eq_true_eq] at e
  refine h ?_
  simp only [Bool.and_eq_true, decide_eq_true_eq]
  obtain ⟨e1, e2⟩ := e
  unfold depthE at e1
  unfold formE at e2
  simp only [Bool.and_eq_true] at e2
  have := depthL_get ks j hj
  exact ⟨by omega, formL_get hj e2.2⟩
theorem all_good {k : Int} {v n : List UInt8} {ks : List Ex} {d : Nat} (h : ∀ j, j < ks.length → (decide (depthE (ks.getD j ex0) ≤ d) && formE (ks.getD j ex0)) = true) : (decide (depthE (.mk k v n ks) ≤ d + 1) && formE (.mk k v n ks)) = partB k v n ks.length := by
  obtain ⟨h1, h2⟩ := good_all h
  unfold depthE formE
  rw [h2, decide_eq_true (by omega)]; simp
theorem bstr_nil {l : List UInt8} (h : l = []) : ((bstr l).toList == []) = true := by rw [toList_data, bstr_data, h]; rfl
theorem bstr_nnil {l : List UInt8} (h : ¬ l = []) : ((bstr l).toList == []) = false := by rw [toList_data, bstr_data, beq_eq_false_iff_ne]; exact h
set_option maxRecDepth 100000 in
set_option maxHeartbeats 8000000 in
theorem rright_any : ∀ (d : Nat) (e : Ex) (v : Value) (P : Nat → Prop) (w : World), d ≤ 31 → okE 100000 e → sizeE e ≤ 900000 → RdE P w e v → (∀ b, P b → b < w.heap.size) → Calls Tryz.prog 15 #[v, .int .i64 (d : Nat)] w fun r w' => r = .returned (.bool (decide (depthE e ≤ d) && formE e)) ∧ Below w.heap.size w w' := by
  intro d
  induction d with
  | zero =>
    intro e v P w _ hok hm h hP
    have HD : Hid ((decide (depthE e ≤ 0) && formE e) = false) := by show _ = _; have := depthE_pos e; rw [decide_eq_false (by omega)]; rfl
    rw [HD.out]
    obtain ⟨q, c, rfl, hc, hk⟩ := h.form
    obtain ⟨k, xv, xn, ks⟩ := e
    unfold exv
    show Calls _ _ #[.agg #[.int .i64 k, .string (bstr xv), .string (bstr xn), .slice q ks.length c], .int .i64 0] _ _
    have HK : Hid (0 < ks.length → ∃ b o, q = some ⟨b, o, none⟩ ∧ P b ∧ RdL P w ks b o) := hk
    have HB0 : Hid (Below w.heap.size w (w.alloc (.cells #[.int .i64 k, .string (bstr xv), .string (bstr xn), .slice q ks.length c] 24))) := (Below.refl _ _).alloc (Nat.le_refl _) _
    clear h hc hk hok hm
    go_enter Tryz.func15, Tryz.ntmps15
    go_wp2_with fail
    go_ret
    exact ⟨rfl, HB0.out⟩
  | succ d ih =>
    intro e v P w hd hok hm h hP
    obtain ⟨q, c, rfl, hc, hk⟩ := h.form
    obtain ⟨k, xv, xn, ks⟩ := e
    unfold exv
    show Calls _ _ #[.agg #[.int .i64 k, .string (bstr xv), .string (bstr xn), .slice q ks.length c], .int .i64 ((d + 1 : Nat) : Int)] _ _
    have HK : Hid (0 < ks.length → ∃ b o, q = some ⟨b, o, none⟩ ∧ P b ∧ RdL P w ks b o) := hk
    unfold okE at hok
    have HOK := Lib.hid hok.2.2
    have HIH := Lib.hid ih
    have hv1 : (bstr xv).size ≤ 1000000 := by rw [bstr_size]; omega
    have hn1 : (bstr xn).size ≤ 1000000 := by rw [bstr_size]; omega
    have HV := Lib.hid (fun W => risName_any (bstr xv) hv1 W)
    have HN := Lib.hid (fun W => risName_any (bstr xn) hn1 W)
    have hkm : sizeL ks ≤ 900000 := by unfold sizeE at hm; omega
    have hlen := sizeL_len ks
    have bd0 : ((d : Int) + 1 == 0) = false := by rw [beq_eq_false_iff_ne]; omega
    have hd1 : (d : Int) ≤ 30 := by omega
    rw [show ((d + 1 : Nat) : Int) = (d : Int) + 1 by omega]
    have HB0 : Hid (Below w.heap.size w (w.alloc (.cells #[.int .i64 k, .string (bstr xv), .string (bstr xn), .slice q ks.length c] 24))) := (Below.refl _ _).alloc (Nat.le_refl _) _
    have HA0 : Hid (Arr (w.alloc (.cells #[.int .i64 k, .string (bstr xv), .string (bstr xn), .slice q ks.length c] 24)) 24 w.heap.size [.int .i64 k, .string (bstr xv), .string (bstr xn), .slice q ks.length c]) := Arr.new' _ _ _ _ rfl
    clear h ih hc hk hok hm hv1 hn1
    go_enter Tryz.func15, Tryz.ntmps15
    go_wp2_with fail
    go_loopw [6] (fun iv wr => ∃ i : Nat, i ≤ ks.length ∧ iv = .int .i64 i ∧ Hid (∀ j, j < i → (decide (depthE (ks.getD j ex0) ≤ d) && formE (ks.getD j ex0)) = true) ∧ Hid (Below w.heap.size w wr ∧ Arr wr 24 w.heap.size [.int .i64 k, .string (bstr xv), .string (bstr xn), .slice q ks.length c])) (fun iv _ => ks.length - (intOf iv).toNat)
    case atStart => exact ⟨0, Nat.zero_le _, rfl, fun j hj => absurd hj (Nat.not_lt_zero _), HB0.out, HA0.out⟩
    case round =>
      obtain ⟨i, hi, rfl, HG, HI2⟩ := hrel
      have HI := Lib.hid HI2.out.1
      have HAI := Lib.hid HI2.out.2
      have hq0 := HAI.out.cell 0
      have hq1 := HAI.out.cell 1
      have hq2 := HAI.out.cell 2
      have hq3 := HAI.out.cell 3
      simp only [List.getElem?_cons_zero, List.getElem?_cons_succ] at hq0 hq1 hq2 hq3
      have hi0 : (0 : Int) ≤ i := by omega
      clear HI2
      by_cases hlt : i < ks.length
      · have hi1 : (i : Int) < ks.length := by omega
        obtain ⟨ba, oa, rfl, hba, hl⟩ := HK.out (by omega)
        obtain ⟨x, hx⟩ : ∃ x, x = ks.getD i ex0 := ⟨_, rfl⟩
        obtain ⟨q2, c2, x0, x1, x2, x3, hr⟩ := hl.at hlt
        have hxs := sizeL_get ks i hlt
        have hxd := depthL_get ks i hlt
        rw [← hx] at x0 x1 x2 x3 hr hxs hxd
        have HX := Lib.hid hx
        obtain ⟨xk, xv2, xn2, xs⟩ := x
        have cc : ∀ n, wr.cell? ⟨ba, n, none⟩ = w.cell? ⟨ba, n, none⟩ := fun n => (HI.out).cell (p := ⟨ba, n, none⟩) (hP _ hba)
        have X0 : wr.cell? ⟨ba, oa + i * 4, none⟩ = some (.int .i64 xk) := (cc _).trans x0
        have X1 : wr.cell? ⟨ba, oa + i * 4 + 1, none⟩ = some (.string (bstr xv2)) := (cc _).trans x1
        have X2 : wr.cell? ⟨ba, oa + i * 4 + 2, none⟩ = some (.string (bstr xn2)) := (cc _).trans x2
        have X3 : wr.cell? ⟨ba, oa + i * 4 + 3, none⟩ = some (.slice q2 xs.length c2) := (cc _).trans x3
        clear x0 x1 x2 x3 cc hx
        have HR : Hid (RdE P wr (.mk xk xv2 xn2 xs) (.agg #[.int .i64 xk, .string (bstr xv2), .string (bstr xn2), .slice q2 xs.length c2])) := hr.below (HI.out) hP
        have HC := Lib.hid (HIH.out (.mk xk xv2 xn2 xs) _ P _ (by omega) (HX.out ▸ okL_get HOK.out hlt) (by omega) HR.out (fun b hb => Nat.lt_of_lt_of_le (hP b hb) HI.out.size))
        obtain ⟨E, hE⟩ : ∃ E, E = (decide (depthE (.mk xk xv2 xn2 xs) ≤ d) && formE (.mk xk xv2 xn2 xs)) := ⟨_, rfl⟩
        rw [← hE] at HC
        have HED := Lib.hid hE
        have HLT : Hid (i < ks.length) := hlt
        clear hl hr hxs hxd hE
        go_wp2_with fail
        refine HC.out.mono ?_
        rintro r w5 ⟨rfl, b5⟩
        have HB5 := Lib.hid (HI.out.trans (b5.mono HI.out.size))
        have HA5 := Lib.hid (HAI.out.later b5)
        clear b5
        cases hEb : E with
        | false =>
          have HBD : Hid ((decide (depthE (.mk k xv xn ks) ≤ d + 1) && formE (.mk k xv xn ks)) = false) := bad_one HLT.out (by rw [← HX.out, ← HED.out, hEb])
          clear hEb
          go_wp2_with fail
          go_ret
          exact ⟨by rw [HBD.out]; rfl, HB5.out⟩
        | true =>
          have HEB := Lib.hid hEb
          clear hEb
          go_wp2_with fail
          go_roundw
          case rel =>
            refine ⟨i + 1, by omega, by go_num, fun j hj => ?_, HB5.out, HA5.out⟩
            by_cases e : j = i
            · subst e; rw [← HX.out, ← HED.out, HEB.out]
            · exact HG.out j (by omega)
          case measure => simp [intOf]; omega
      · have hi1 : ¬ (i : Int) < ks.length := by omega
        have HF : Hid ((decide (depthE (.mk k xv xn ks) ≤ d + 1) && formE (.mk k xv xn ks)) = partB k xv xn ks.length) := all_good fun j hj => HG.out j (by omega)
        by_cases h1 : k = 1
        · by_cases hz : ks.length = 0
          · by_cases hv : xv = []
            · have HP : Hid (partB k xv xn ks.length = isName (bstr xn)) := by show _ = _; unfold partB; simp [*]
              have b1 : (k == 1) = true := by rw [h1]; rfl
              have bz : ((ks.length : Int) == 0) = true := by rw [hz]; rfl
              have ev := bstr_nil hv
              clear h1 hv hz
              go_wp2_with fail
              refine (HN.out _).mono ?_
              rintro r w6 ⟨rfl, hw⟩
              subst hw
              go_wp2_with fail
              go_ret
              exact ⟨by rw [HF.out, HP.out]; rfl, HI.out⟩
            · have HP : Hid (partB k xv xn ks.length = false) := by show _ = _; unfold partB; simp [*]
              have b1 : (k == 1) = true := by rw [h1]; rfl
              have bz : ((ks.length : Int) == 0) = true := by rw [hz]; rfl
              have ev := bstr_nnil hv
              clear h1 hv hz
              go_wp2_with fail
              go_ret
              exact ⟨by rw [HF.out, HP.out]; rfl, HI.out⟩
          · have HP : Hid (partB k xv xn ks.length = false) := by show _ = _; unfold partB; simp [*]
            have b1 : (k == 1) = true := by rw [h1]; rfl
            have bz : ((ks.length : Int) == 0) = false := by rw [beq_eq_false_iff_ne]; omega
            clear h1 hz
            go_wp2_with fail
            go_ret
            exact ⟨by rw [HF.out, HP.out]; rfl, HI.out⟩
        · by_cases h2 : k = 2
          · by_cases hz : ks.length = 0
            · cases hB : isName (bstr xv) with
              | false =>
                have HP : Hid (partB k xv xn ks.length = false) := by show _ = _; unfold partB; simp [*]
                have HVb := HV.out
                rw [hB] at HVb
                have HVb := Lib.hid HVb
                have b1 : (k == 1) = false := by rw [beq_eq_false_iff_ne]; exact h1
                have b2 : (k == 2) = true := by rw [h2]; rfl
                have bz : ((ks.length : Int) == 0) = true := by rw [hz]; rfl
                clear h1 h2 hz
                clear hB
                go_wp2_with fail
                refine (HVb.out _).mono ?_
                rintro r w6 ⟨rfl, hw⟩
                subst hw
                go_wp2_with fail
                go_ret
                exact ⟨by rw [HF.out, HP.out]; rfl, HI.out⟩
              | true =>
                have HP : Hid (partB k xv xn ks.length = isName (bstr xn)) := by show _ = _; unfold partB; simp [*]
                have HVb := HV.out
                rw [hB] at HVb
                have HVb := Lib.hid HVb
                have b1 : (k == 1) = false := by rw [beq_eq_false_iff_ne]; exact h1
                have b2 : (k == 2) = true := by rw [h2]; rfl
                have bz : ((ks.length : Int) == 0) = true := by rw [hz]; rfl
                clear h1 h2 hz
                clear hB
                go_wp2_with fail
                refine (HVb.out _).mono ?_
                rintro r w6 ⟨rfl, hw⟩
                subst hw
                go_wp2_with fail
                refine (HN.out _).mono ?_
                rintro r w7 ⟨rfl, hw⟩
                subst hw
                go_wp2_with fail
                go_ret
                exact ⟨by rw [HF.out, HP.out]; rfl, HI.out⟩
            · have HP : Hid (partB k xv xn ks.length = false) := by show _ = _; unfold partB; simp [*]
              have b1 : (k == 1) = false := by rw [beq_eq_false_iff_ne]; exact h1
              have b2 : (k == 2) = true := by rw [h2]; rfl
              have bz : ((ks.length : Int) == 0) = false := by rw [beq_eq_false_iff_ne]; omega
              clear h1 h2 hz
              go_wp2_with fail
              go_ret
              exact ⟨by rw [HF.out, HP.out]; rfl, HI.out⟩
          · by_cases h3 : k = 3
            · by_cases hg : 2 ≤ ks.length
              · by_cases hv : xv = []
                · by_cases hn : xn = []
                  · have HP : Hid (partB k xv xn ks.length = true) := by show _ = _; unfold partB; simp [*]
                    have b1 : (k == 1) = false := by rw [beq_eq_false_iff_ne]; exact h1
                    have b2 : (k == 2) = false := by rw [beq_eq_false_iff_ne]; exact h2
                    have b3 : (k == 3) = true := by rw [h3]; rfl
                    have bg : (2 : Int) ≤ ks.length := by omega
                    have ev := bstr_nil hv
                    have en := bstr_nil hn
                    clear h1 h2 h3 hg hn hv
                    go_wp2_with fail
                    go_ret
                    exact ⟨by rw [HF.out, HP.out]; rfl, HI.out⟩
                  · have HP : Hid (partB k xv xn ks.length = false) := by show _ = _; unfold partB; simp [*]
                    have b1 : (k == 1) = false := by rw [beq_eq_false_iff_ne]; exact h1
                    have b2 : (k == 2) = false := by rw [beq_eq_false_iff_ne]; exact h2
                    have b3 : (k == 3) = true := by rw [h3]; rfl
                    have bg : (2 : Int) ≤ ks.length := by omega
                    have ev := bstr_nil hv
                    have en := bstr_nnil hn
                    clear h1 h2 h3 hg hn hv
                    go_wp2_with fail
                    go_ret
                    exact ⟨by rw [HF.out, HP.out]; rfl, HI.out⟩
                · have HP : Hid (partB k xv xn ks.length = false) := by show _ = _; unfold partB; simp [*]
                  have b1 : (k == 1) = false := by rw [beq_eq_false_iff_ne]; exact h1
                  have b2 : (k == 2) = false := by rw [beq_eq_false_iff_ne]; exact h2
                  have b3 : (k == 3) = true := by rw [h3]; rfl
                  have bg : (2 : Int) ≤ ks.length := by omega
                  have ev := bstr_nnil hv
                  clear h1 h2 h3 hg hv
                  go_wp2_with fail
                  go_ret
                  exact ⟨by rw [HF.out, HP.out]; rfl, HI.out⟩
              · have HP : Hid (partB k xv xn ks.length = false) := by show _ = _; unfold partB; simp [*]
                have b1 : (k == 1) = false := by rw [beq_eq_false_iff_ne]; exact h1
                have b2 : (k == 2) = false := by rw [beq_eq_false_iff_ne]; exact h2
                have b3 : (k == 3) = true := by rw [h3]; rfl
                have bg : ¬ (2 : Int) ≤ ks.length := by omega
                clear h1 h2 h3 hg
                go_wp2_with fail
                go_ret
                exact ⟨by rw [HF.out, HP.out]; rfl, HI.out⟩
            · by_cases h4 : k = 4
              · by_cases hg : 2 ≤ ks.length
                · by_cases hv : xv = []
                  · by_cases hn : xn = []
                    · have HP : Hid (partB k xv xn ks.length = true) := by show _ = _; unfold partB; simp [*]
                      have b1 : (k == 1) = false := by rw [beq_eq_false_iff_ne]; exact h1
                      have b2 : (k == 2) = false := by rw [beq_eq_false_iff_ne]; exact h2
                      have b3 : (k == 3) = false := by rw [beq_eq_false_iff_ne]; exact h3
                      have b4 : (k == 4) = true := by rw [h4]; rfl
                      have bg : (2 : Int) ≤ ks.length := by omega
                      have ev := bstr_nil hv
                      have en := bstr_nil hn
                      clear h1 h2 h3 h4 hg hn hv
                      go_wp2_with fail
                      go_ret
                      exact ⟨by rw [HF.out, HP.out]; rfl, HI.out⟩
                    · have HP : Hid (partB k xv xn ks.length = false) := by show _ = _; unfold partB; simp [*]
                      have b1 : (k == 1) = false := by rw [beq_eq_false_iff_ne]; exact h1
                      have b2 : (k == 2) = false := by rw [beq_eq_false_iff_ne]; exact h2
                      have b3 : (k == 3) = false := by rw [beq_eq_false_iff_ne]; exact h3
                      have b4 : (k == 4) = true := by rw [h4]; rfl
                      have bg : (2 : Int) ≤ ks.length := by omega
                      have ev := bstr_nil hv
                      have en := bstr_nnil hn
                      clear h1 h2 h3 h4 hg hn hv
                      go_wp2_with fail
                      go_ret
                      exact ⟨by rw [HF.out, HP.out]; rfl, HI.out⟩
                  · have HP : Hid (partB k xv xn ks.length = false) := by show _ = _; unfold partB; simp [*]
                    have b1 : (k == 1) = false := by rw [beq_eq_false_iff_ne]; exact h1
                    have b2 : (k == 2) = false := by rw [beq_eq_false_iff_ne]; exact h2
                    have b3 : (k == 3) = false := by rw [beq_eq_false_iff_ne]; exact h3
                    have b4 : (k == 4) = true := by rw [h4]; rfl
                    have bg : (2 : Int) ≤ ks.length := by omega
                    have ev := bstr_nnil hv
                    clear h1 h2 h3 h4 hg hv
                    go_wp2_with fail
                    go_ret
                    exact ⟨by rw [HF.out, HP.out]; rfl, HI.out⟩
                · have HP : Hid (partB k xv xn ks.length = false) := by show _ = _; unfold partB; simp [*]
                  have b1 : (k == 1) = false := by rw [beq_eq_false_iff_ne]; exact h1
                  have b2 : (k == 2) = false := by rw [beq_eq_false_iff_ne]; exact h2
                  have b3 : (k == 3) = false := by rw [beq_eq_false_iff_ne]; exact h3
                  have b4 : (k == 4) = true := by rw [h4]; rfl
                  have bg : ¬ (2 : Int) ≤ ks.length := by omega
                  clear h1 h2 h3 h4 hg
                  go_wp2_with fail
                  go_ret
                  exact ⟨by rw [HF.out, HP.out]; rfl, HI.out⟩
              · by_cases h5 : k = 5
                · by_cases ht : ks.length = 2
                  · by_cases hv : xv = []
                    · by_cases hn : xn = []
                      · have HP : Hid (partB k xv xn ks.length = true) := by show _ = _; unfold partB; simp [*]
                        have b1 : (k == 1) = false := by rw [beq_eq_false_iff_ne]; exact h1
                        have b2 : (k == 2) = false := by rw [beq_eq_false_iff_ne]; exact h2
                        have b3 : (k == 3) = false := by rw [beq_eq_false_iff_ne]; exact h3
                        have b4 : (k == 4) = false := by rw [beq_eq_false_iff_ne]; exact h4
                        have b5 : (k == 5) = true := by rw [h5]; rfl
                        have bt : ((ks.length : Int) == 2) = true := by rw [ht]; rfl
                        have ev := bstr_nil hv
                        have en := bstr_nil hn
                        clear h1 h2 h3 h4 h5 hn ht hv
                        go_wp2_with fail
                        go_ret
                        exact ⟨by rw [HF.out, HP.out]; rfl, HI.out⟩
                      · have HP : Hid (partB k xv xn ks.length = false) := by show _ = _; unfold partB; simp [*]
                        have b1 : (k == 1) = false := by rw [beq_eq_false_iff_ne]; exact h1
                        have b2 : (k == 2) = false := by rw [beq_eq_false_iff_ne]; exact h2
                        have b3 : (k == 3) = false := by rw [beq_eq_false_iff_ne]; exact h3
                        have b4 : (k == 4) = false := by rw [beq_eq_false_iff_ne]; exact h4
                        have b5 : (k == 5) = true := by rw [h5]; rfl
                        have bt : ((ks.length : Int) == 2) = true := by rw [ht]; rfl
                        have ev := bstr_nil hv
                        have en := bstr_nnil hn
                        clear h1 h2 h3 h4 h5 hn ht hv
                        go_wp2_with fail
                        go_ret
                        exact ⟨by rw [HF.out, HP.out]; rfl, HI.out⟩
                    · have HP : Hid (partB k xv xn ks.length = false) := by show _ = _; unfold partB; simp [*]
                      have b1 : (k == 1) = false := by rw [beq_eq_false_iff_ne]; exact h1
                      have b2 : (k == 2) = false := by rw [beq_eq_false_iff_ne]; exact h2
                      have b3 : (k == 3) = false := by rw [beq_eq_false_iff_ne]; exact h3
                      have b4 : (k == 4) = false := by rw [beq_eq_false_iff_ne]; exact h4
                      have b5 : (k == 5) = true := by rw [h5]; rfl
                      have bt : ((ks.length : Int) == 2) = true := by rw [ht]; rfl
                      have ev := bstr_nnil hv
                      clear h1 h2 h3 h4 h5 ht hv
                      go_wp2_with fail
                      go_ret
                      exact ⟨by rw [HF.out, HP.out]; rfl, HI.out⟩
                  · have HP : Hid (partB k xv xn ks.length = false) := by show _ = _; unfold partB; simp [*]
                    have b1 : (k == 1) = false := by rw [beq_eq_false_iff_ne]; exact h1
                    have b2 : (k == 2) = false := by rw [beq_eq_false_iff_ne]; exact h2
                    have b3 : (k == 3) = false := by rw [beq_eq_false_iff_ne]; exact h3
                    have b4 : (k == 4) = false := by rw [beq_eq_false_iff_ne]; exact h4
                    have b5 : (k == 5) = true := by rw [h5]; rfl
                    have bt : ((ks.length : Int) == 2) = false := by rw [beq_eq_false_iff_ne]; omega
                    clear h1 h2 h3 h4 h5 ht
                    go_wp2_with fail
                    go_ret
                    exact ⟨by rw [HF.out, HP.out]; rfl, HI.out⟩
                · have HP : Hid (partB k xv xn ks.length = false) := by show _ = _; unfold partB; simp [*]
                  have b1 : (k == 1) = false := by rw [beq_eq_false_iff_ne]; exact h1
                  have b2 : (k == 2) = false := by rw [beq_eq_false_iff_ne]; exact h2
                  have b3 : (k == 3) = false := by rw [beq_eq_false_iff_ne]; exact h3
                  have b4 : (k == 4) = false := by rw [beq_eq_false_iff_ne]; exact h4
                  have b5 : (k == 5) = false := by rw [beq_eq_false_iff_ne]; exact h5
                  clear h1 h2 h3 h4 h5
                  go_wp2_with fail
                  go_ret
                  exact ⟨by rw [HF.out, HP.out]; rfl, HI.out⟩
end Go.Proofs.YtdnmgemjhpkekaaGreat
