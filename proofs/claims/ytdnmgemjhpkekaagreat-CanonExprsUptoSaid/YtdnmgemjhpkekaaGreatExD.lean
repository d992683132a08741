/-
  vestryref10.Count, Few: what few parts means.
-/
import Derived.Test.YtdnmgemjhpkekaaGreatExC
namespace Go.Proofs.YtdnmgemjhpkekaaGreat
open Go.ChangeShapes Go.WideShapes Go.ChangeAt Go.RowKit
set_option linter.unusedVariables false

mutual
/-- No text is longer than M. -/
def okE (M : Nat) : Ex → Prop
  | .mk _ v n ks => v.length ≤ M ∧ n.length ≤ M ∧ okL M ks
def okL (M : Nat) : List Ex → Prop
  | [] => True
  | e :: r => okE M e ∧ okL M r
end
theorem okL_get {M : Nat} : ∀ {ks : List Ex} {i : Nat}, okL M ks → i < ks.length → okE M (ks.getD i ex0)
  | [], _, _, h => by simp at h
  | e :: r, 0, h, _ => by unfold okL at h; exact h.1
  | e :: r, i + 1, h, hi => by unfold okL at h; exact okL_get (i := i) h.2 (by simpa using hi)
mutual
/-- How many parts, with at most d levels more. -/
def cntE : Nat → Ex → Nat
  | 0, _ => 500
  | d + 1, .mk _ v n ks => cntL d (1 + v.length / 200 + n.length / 200) ks
def cntL : Nat → Nat → List Ex → Nat
  | _, n, [] => n
  | d, n, e :: r => if n < 500 then cntL d (n + cntE d e) r else n
end
def bigM : Nat := 140737488355328
theorem cntL_le (d B : Nat) (h : ∀ e, okE bigM e → cntE d e + 499 ≤ B) : ∀ (ks : List Ex) (n : Nat), okL bigM ks → n ≤ B → cntL d n ks ≤ B
  | [], n, _, hn => by unfold cntL; exact hn
  | e :: r, n, ho, hn => by
    unfold okL at ho
    unfold cntL
    split
    · exact cntL_le d B h r _ ho.2 (by have := h e ho.1; omega)
    · exact hn
theorem cntE_le : ∀ (d : Nat) (e : Ex), okE bigM e → cntE d e ≤ (d + 1) * 1500000000000
  | 0, e, _ => by unfold cntE; omega
  | d + 1, .mk k v n ks, h => by
    unfold okE bigM at h
    unfold cntE
    refine cntL_le d _ (fun e he => ?_) ks _ h.2.2 ?_
    · have := cntE_le d e he
      have e2 : (d + 1 + 1) * 1500000000000 = (d + 1) * 1500000000000 + 1500000000000 := by rw [Nat.add_mul]
      omega
    · have e2 : (d + 1 + 1) * 1500000000000 = (d + 1) * 1500000000000 + 1500000000000 := by rw [Nat.add_mul]
      omega
mutual
theorem cntE_few : ∀ (d : Nat) (e : Ex), cntE d e < 500 → sizeE e ≤ cntE d e ∧ okE 100000 e ∧ depthE e ≤ d
  | 0, e, h => by unfold cntE at h; omega
  | d + 1, .mk k v n ks, h => by
    unfold cntE at h ⊢
    obtain ⟨h1, h2, h3, h4⟩ := cntL_few d ks _ h
    unfold sizeE okE depthE
    exact ⟨by omega, ⟨by omega, by omega, h2⟩, by omega⟩
theorem cntL_few : ∀ (d : Nat) (ks : List Ex) (n : Nat), cntL d n ks < 500 → n + sizeL ks ≤ cntL d n ks ∧ okL 100000 ks ∧ depthL ks ≤ d ∧ n ≤ cntL d n ks
  | d, [], n, h => by unfold cntL at h ⊢; unfold sizeL okL depthL; exact ⟨by omega, trivial, by omega, by omega⟩
  | d, e :: r, n, h => by
    unfold cntL at h ⊢
    split at h
    · rename_i hn
      rw [if_pos hn]
      obtain ⟨h1, h2, h3, h4⟩ := cntL_few d r _ h
      obtain ⟨g1, g2, g3⟩ := cntE_few d e (by omega)
      unfold sizeL okL depthL
      exact ⟨by omega, ⟨g2, h2⟩, by omega, by omega⟩
    · omega
end
theorem cntL_step {d n i : Nat} {ks : List Ex} (h : n < 500) (hi : i < ks.length) : cntL d n (ks.drop i) = cntL d (n + cntE d (ks.getD i ex0)) (ks.drop (i + 1)) := by
  rw [List.drop_eq_getElem_cons hi]
  conv => lhs; unfold cntL
  rw [if_pos h, List.getD_eq_getElem?_getD, List.getElem?_eq_getElem hi]; rfl
theorem cntL_ge : ∀ (d : Nat) (ks : List Ex) (n : Nat), n ≤ cntL d n ks
  | d, [], n => by unfold cntL; exact Nat.le_refl _
  | d, e :: r, n => by
    unfold cntL
    split
    · exact Nat.le_trans (Nat.le_add_right _ _) (cntL_ge d r _)
    · exact Nat.le_refl _
theorem cntE_pos : ∀ (d : Nat) (e : Ex), 1 ≤ cntE d e
  | 0, e => by unfold cntE; omega
  | d + 1, .mk k v n ks => by unfold cntE; have := cntL_ge d ks (1 + v.length / 200 + n.length / 200); omega
theorem cntL_stop {d n : Nat} {ks : List Ex} (h : ¬ n < 500) : cntL d n ks = n := by
  cases ks with
  | nil => unfold cntL; rfl
  | cons e r => unfold cntL; rw [if_neg h]
theorem quo200 (n : Nat) : Int.tdiv (n : Int) 200 = ((n / 200 : Nat) : Int) := by
  rw [Int.tdiv_eq_ediv_of_nonneg (by omega)]; rfl
set_option maxRecDepth 100000 in
set_option maxHeartbeats 2000000 in
theorem count_any : ∀ (d : Nat) (e : Ex) (v : Value) (P : Nat → Prop) (w : World), d ≤ 31 → okE bigM e → RdE P w e v → (∀ b, P b → b < w.heap.size) → Calls Tryz.prog 14 #[v, .int .i64 (31 - (d : Int))] w fun r w' => r = .returned (.int .i64 (cntE d e : Nat)) ∧ Below w.heap.size w w' := by
  intro d
  induction d with
  | zero =>
    intro e v P w _ hok h hP
    obtain ⟨q, c, rfl, hc, hk⟩ := h.form
    obtain ⟨k, xv, xn, ks⟩ := e
    unfold exv
    show Calls _ _ #[.agg #[.int .i64 k, .string (bstr xv), .string (bstr xn), .slice q ks.length c], .int .i64 31] _ _
    have HK : Hid (0 < ks.length → ∃ b o, q = some ⟨b, o, none⟩ ∧ P b ∧ RdL P w ks b o) := hk
    have HB0 : Hid (Below w.heap.size w (w.alloc (.cells #[.int .i64 k, .string (bstr xv), .string (bstr xn), .slice q ks.length c] 24))) := (Below.refl _ _).alloc (Nat.le_refl _) _
    unfold okE bigM at hok
    obtain ⟨sv, hsv⟩ : ∃ s, s = bstr xv := ⟨_, rfl⟩
    obtain ⟨sn, hsn⟩ : ∃ s, s = bstr xn := ⟨_, rfl⟩
    have zv : (sv.size : Int) ≤ 140737488355328 := by rw [hsv, bstr_size]; omega
    have zn : (sn.size : Int) ≤ 140737488355328 := by rw [hsn, bstr_size]; omega
    rw [← hsv, ← hsn] at HB0 ⊢
    clear h hc hk hok hsv hsn
    go_enter Tryz.func14, Tryz.ntmps14
    go_wp2_with fail
    go_ret
    exact ⟨by unfold cntE; rfl, HB0.out⟩
  | succ d ih =>
    intro e v P w hd hok h hP
    obtain ⟨q, c, rfl, hc, hk⟩ := h.form
    obtain ⟨k, xv, xn, ks⟩ := e
    unfold exv
    show Calls _ _ #[.agg #[.int .i64 k, .string (bstr xv), .string (bstr xn), .slice q ks.length c], .int .i64 (31 - ((d + 1 : Nat) : Int))] _ _
    have HK : Hid (0 < ks.length → ∃ b o, q = some ⟨b, o, none⟩ ∧ P b ∧ RdL P w ks b o) := hk
    rw [show (31 - ((d + 1 : Nat) : Int)) = 30 - (d : Int) by omega]
    unfold okE at hok
    have HOK := Lib.hid hok.2.2
    have HIH := Lib.hid ih
    have zl1 : xv.length ≤ 140737488355328 := hok.1
    have zl2 : xn.length ≤ 140737488355328 := hok.2.1
    have HB0 : Hid (Below w.heap.size w (w.alloc (.cells #[.int .i64 k, .string (bstr xv), .string (bstr xn), .slice q ks.length c] 24))) := (Below.refl _ _).alloc (Nat.le_refl _) _
    have HA0 : Hid (Arr (w.alloc (.cells #[.int .i64 k, .string (bstr xv), .string (bstr xn), .slice q ks.length c] 24)) 24 w.heap.size [.int .i64 k, .string (bstr xv), .string (bstr xn), .slice q ks.length c]) := Arr.new' _ _ _ _ rfl
    obtain ⟨sv, hsv⟩ : ∃ s, s = bstr xv := ⟨_, rfl⟩
    obtain ⟨sn, hsn⟩ : ∃ s, s = bstr xn := ⟨_, rfl⟩
    have zv : sv.size = xv.length := by rw [hsv, bstr_size]
    have zn : sn.size = xn.length := by rw [hsn, bstr_size]
    obtain ⟨N0, hN0⟩ : ∃ N, N = 1 + sv.size / 200 + sn.size / 200 := ⟨_, rfl⟩
    have HT : Hid (cntE (d + 1) (.mk k xv xn ks) = cntL d N0 ks) := by show _ = _; unfold cntE; rw [hN0, zv, zn]
    have HNI : Hid ((N0 : Int) = 1 + (sv.size : Int) / 200 + (sn.size : Int) / 200) := by show _ = _; rw [hN0]; omega
    have HN : Hid (N0 ≤ 1500000000000) := by show _ ≤ _; omega
    have q1 := quo200 sv.size
    have q2 := quo200 sn.size
    have zv2 : (sv.size : Int) ≤ 140737488355328 := by omega
    have zn2 : (sn.size : Int) ≤ 140737488355328 := by omega
    have hdd : (d : Int) ≤ 30 := by omega
    have hgd : ¬ (30 : Int) < 30 - (d : Int) := by omega
    have HCL : Hid (ks.length ≤ c) := hc
    rw [← hsv, ← hsn] at HB0 HA0 ⊢
    clear h ih hc hk hok hsv hsn zv zn zl1 zl2
    go_enter Tryz.func14, Tryz.ntmps14
    go_wp2_with fail
    go_loopw [5, 6] (fun nv iv wr => ∃ i N : Nat, i ≤ ks.length ∧ i ≤ N ∧ iv = .int .i64 i ∧ nv = .int .i64 N ∧ N ≤ 50000000000000 ∧ Hid (cntL d N (ks.drop i) = cntL d N0 ks) ∧ Hid (Below w.heap.size w wr ∧ Arr wr 24 w.heap.size [.int .i64 k, .string sv, .string sn, .slice q ks.length c])) (fun _ iv _ => ks.length - (intOf iv).toNat)
    case atStart => exact ⟨0, N0, Nat.zero_le _, Nat.zero_le _, rfl, by rw [HNI.out], by have := HN.out; omega, rfl, HB0.out, HA0.out⟩
    case round =>
      obtain ⟨i, N, hi, hiN, rfl, rfl, hN, HNT, HI2⟩ := hrel
      have HI := Lib.hid HI2.out.1
      have HAI := Lib.hid HI2.out.2
      have hq3 := HAI.out.cell 3
      simp only [List.getElem?_cons_zero, List.getElem?_cons_succ] at hq3
      have hi0 : (0 : Int) ≤ i := by omega
      have hN1 : (N : Int) ≤ 50000000000000 := by omega
      clear HI2 hN q1 q2 zv2 zn2
      by_cases hlt : i < ks.length
      · have hi1 : (i : Int) < ks.length := by omega
        by_cases h5 : N < 500
        · have h51 : (N : Int) < 500 := by omega
          obtain ⟨ba, oa, rfl, hba, hl⟩ := HK.out (by omega)
          obtain ⟨x, hx⟩ : ∃ x, x = ks.getD i ex0 := ⟨_, rfl⟩
          obtain ⟨q2, c2, x0, x1, x2, x3, hr⟩ := hl.at hlt
          have hxs := sizeL_get ks i hlt
          have hxd := depthL_get ks i hlt
          rw [← hx] at x0 x1 x2 x3 hr hxs hxd
          have HX := Lib.hid hx
          obtain ⟨xk, xv2, xn2, xs⟩ := x
          have cc : ∀ n, wr.cell? ⟨ba, n, none⟩ = w.cell? ⟨ba, n, none⟩ := fun n => (HI.out).cell (p := ⟨ba, n, none⟩) (hP _ hba)
          have X0 : wr.cell? ⟨ba, oa + i * 4, none⟩ = some (.int .i64 xk) := (cc _).trans x0
          have X1 : wr.cell? ⟨ba, oa + i * 4 + 1, none⟩ = some (.string (bstr xv2)) := (cc _).trans x1
          have X2 : wr.cell? ⟨ba, oa + i * 4 + 2, none⟩ = some (.string (bstr xn2)) := (cc _).trans x2
          have X3 : wr.cell? ⟨ba, oa + i * 4 + 3, none⟩ = some (.slice q2 xs.length c2) := (cc _).trans x3
          clear x0 x1 x2 x3 cc hx
          have HR : Hid (RdE P wr (.mk xk xv2 xn2 xs) (.agg #[.int .i64 xk, .string (bstr xv2), .string (bstr xn2), .slice q2 xs.length c2])) := hr.below (HI.out) hP
          have HC := HIH.out (.mk xk xv2 xn2 xs) _ P _ (by omega) (HX.out ▸ okL_get HOK.out hlt) HR.out (fun b hb => Nat.lt_of_lt_of_le (hP b hb) HI.out.size)
          rw [show (31 - (d : Int)) = 30 - (d : Int) + 1 by omega] at HC
          have HST := Lib.hid (cntL_step (d := d) h5 hlt)
          obtain ⟨E, hE⟩ : ∃ E, E = cntE d (.mk xk xv2 xn2 xs) := ⟨_, rfl⟩
          have hE1 : (E : Int) ≤ 46500000000000 := by
            have := cntE_le d (.mk xk xv2 xn2 xs) (HX.out ▸ okL_get HOK.out hlt)
            have h2 : (d + 1) * 1500000000000 ≤ 31 * 1500000000000 := Nat.mul_le_mul_right _ (by omega)
            omega
          have hE0 : 1 ≤ E := by rw [hE]; exact cntE_pos _ _
          have HED := Lib.hid hE
          rw [← hE] at HC
          have HC := Lib.hid HC
          clear hl hr hxs hxd hE
          go_wp2_with fail
          refine HC.out.mono ?_
          rintro r w5 ⟨rfl, b5⟩
          have HB5 := Lib.hid (HI.out.trans (b5.mono HI.out.size))
          have HA5 := Lib.hid (HAI.out.later b5)
          clear b5
          go_wp2_with fail
          go_roundw
          case rel => exact ⟨i + 1, N + E, by omega, by omega, by go_num, by go_num, by omega, by show _ = _; rw [← HNT.out, HST.out, ← HX.out, ← HED.out], HB5.out, HA5.out⟩
          case measure => simp [intOf]; omega
        · have h51 : ¬ (N : Int) < 500 := by omega
          have HR2 : Hid (cntE (d + 1) (.mk k xv xn ks) = N) := by show _ = _; rw [HT.out, ← HNT.out, cntL_stop h5]
          go_wp2_with fail
          go_ret
          exact ⟨by rw [HR2.out]; rfl, HI.out⟩
      · have hi1 : ¬ (i : Int) < ks.length := by omega
        have HR2 : Hid (cntE (d + 1) (.mk k xv xn ks) = N) := by show _ = _; rw [HT.out, ← HNT.out, List.drop_of_length_le (by omega)]; unfold cntL; rfl
        go_wp2_with fail
        go_ret
        exact ⟨by rw [HR2.out]; rfl, HI.out⟩
set_option maxRecDepth 100000 in
theorem few_any (e : Ex) (v : Value) (P : Nat → Prop) (w : World) (hok : okE bigM e) (h : RdE P w e v) (hP : ∀ b, P b → b < w.heap.size) : Calls Tryz.prog 5 #[v] w fun r w' => r = .returned (.bool (decide (cntE 31 e ≤ 150))) ∧ Below w.heap.size w w' := by
  have HOK := Lib.hid hok
  have H := Lib.hid h
  obtain ⟨q, c, rfl, hc, hk⟩ := h.form
  obtain ⟨k, xv, xn, ks⟩ := e
  unfold exv
  show Calls _ _ #[.agg #[.int .i64 k, .string (bstr xv), .string (bstr xn), .slice q ks.length c]] _ _
  have HK : Hid (0 < ks.length → ∃ b o, q = some ⟨b, o, none⟩ ∧ P b ∧ RdL P w ks b o) := hk
  have HB0 : Hid (Below w.heap.size w (w.alloc (.cells #[.int .i64 k, .string (bstr xv), .string (bstr xn), .slice q ks.length c] 24))) := (Below.refl _ _).alloc (Nat.le_refl _) _
  have HC := count_any 31 (.mk k xv xn ks) _ P (w.alloc (.cells #[.int .i64 k, .string (bstr xv), .string (bstr xn), .slice q ks.length c] 24)) (Nat.le_refl _) HOK.out (H.out.below HB0.out hP) (fun b hb => Nat.lt_of_lt_of_le (hP b hb) HB0.out.size)
  rw [show (31 - ((31 : Nat) : Int)) = 0 by rfl] at HC
  have HC := Lib.hid HC
  clear h hc hk hok
  go_enter Tryz.func5, Tryz.ntmps5
  go_wp2_with fail
  refine HC.out.mono ?_
  rintro r w5 ⟨rfl, b5⟩
  have HB5 := Lib.hid (HB0.out.trans (b5.mono HB0.out.size))
  clear b5
  go_wp2_with fail
  go_ret
  exact ⟨ret_b (by rw [decide_eq_decide]; omega), HB5.out⟩
end Go.Proofs.YtdnmgemjhpkekaaGreat
