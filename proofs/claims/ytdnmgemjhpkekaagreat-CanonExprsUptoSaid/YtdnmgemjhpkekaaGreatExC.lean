/-
  expr.isLeaf, Depth; the reference's Leaf, Depth.
-/
import Derived.Test.YtdnmgemjhpkekaaGreatExB
import Derived.Test.YtdnmgemjhpkekaaGreatArr
namespace Go.Proofs.YtdnmgemjhpkekaaGreat
open Go.ChangeShapes Go.WideShapes Go.ChangeAt Go.RowKit
set_option linter.unusedVariables false

set_option maxRecDepth 100000 in
theorem rleaf_any {P : Nat → Prop} {w : World} {e : Ex} {v : Value} (h : RdE P w e v) : Calls Tryz.prog 32 #[v] w fun r w' => r = .returned (.bool (leafK e.kind)) ∧ Below w.heap.size w w' := by
  obtain ⟨q, c, rfl, _⟩ := h.form
  obtain ⟨k, xv, xn, ks⟩ := e
  unfold exv
  show Calls _ _ #[.agg #[.int .i64 k, .string (bstr xv), .string (bstr xn), .slice q ks.length c]] _ _
  clear h
  go_enter Tryz.func32, Tryz.ntmps32
  go_wp2_with fail
  all_goals
    go_ret
    refine ⟨ret_b ?_, (Below.refl _ _).alloc (Nat.le_refl _) _⟩
    unfold leafK Ex.kind
    first | rfl | (rw [Bool.eq_iff_iff]; simp only [Bool.and_eq_true, bne_iff_ne]; first | done | omega | (simp; omega)) | (rw [Bool.eq_iff_iff]; simp; omega)
set_option maxRecDepth 100000 in
set_option maxHeartbeats 2000000 in
theorem rdepth_any : ∀ (n : Nat) (e : Ex) (v : Value) (P : Nat → Prop) (w : World), sizeE e ≤ n → sizeE e ≤ 1000000 → RdE P w e v → (∀ b, P b → b < w.heap.size) → Calls Tryz.prog 10 #[v] w fun r w' => r = .returned (.int .i64 (depthE e : Nat)) ∧ Below w.heap.size w w' := by
  intro n
  induction n with
  | zero => intro e v P w h; have := sizeE_pos e; omega
  | succ n ih =>
    intro e v P w hn hm h hP
    obtain ⟨q, c, rfl, hc, hk⟩ := h.form
    obtain ⟨k, xv, xn, ks⟩ := e
    unfold exv
    show Calls _ _ #[.agg #[.int .i64 k, .string (bstr xv), .string (bstr xn), .slice q ks.length c]] _ _
    have HK : Hid (0 < ks.length → ∃ b o, q = some ⟨b, o, none⟩ ∧ P b ∧ RdL P w ks b o) := hk
    have hks : sizeL ks ≤ n := by unfold sizeE at hn; omega
    have hkm : sizeL ks ≤ 1000000 := by unfold sizeE at hm; omega
    have hlen := sizeL_len ks
    have HIH := Lib.hid ih
    have HB0 : Hid (Below w.heap.size w (w.alloc (.cells #[.int .i64 k, .string (bstr xv), .string (bstr xn), .slice q ks.length c] 24))) := (Below.refl _ _).alloc (Nat.le_refl _) _
    have HA0 : Hid (Arr (w.alloc (.cells #[.int .i64 k, .string (bstr xv), .string (bstr xn), .slice q ks.length c] 24)) 24 w.heap.size [.int .i64 k, .string (bstr xv), .string (bstr xn), .slice q ks.length c]) := Arr.new' _ _ _ _ rfl
    clear h ih hc hk hn hm
    go_enter Tryz.func10, Tryz.ntmps10
    go_wp2_with fail
    go_loopw [3, 4] (fun dv iv wr => ∃ i : Nat, i ≤ ks.length ∧ iv = .int .i64 i ∧ dv = .int .i64 (depthL (ks.take i) + 1 : Nat) ∧ Hid (Below w.heap.size w wr ∧ Arr wr 24 w.heap.size [.int .i64 k, .string (bstr xv), .string (bstr xn), .slice q ks.length c])) (fun _ iv _ => ks.length - (intOf iv).toNat)
    case atStart => exact ⟨0, Nat.zero_le _, rfl, by simp [depthL], HB0.out, HA0.out⟩
    case round =>
      obtain ⟨i, hi, rfl, rfl, HI2⟩ := hrel
      have HI := Lib.hid HI2.out.1
      have HAI := Lib.hid HI2.out.2
      have hq3 := HAI.out.cell 3
      simp only [List.getElem?_cons_zero, List.getElem?_cons_succ] at hq3
      clear HI2
      have hi0 : (0 : Int) ≤ i := by omega
      have HTK := depthL_take ks i
      have hds := depthL_size ks
      obtain ⟨D, hD⟩ : ∃ D, D = depthL (ks.take i) := ⟨_, rfl⟩
      rw [← hD] at HTK ⊢
      have HD := Lib.hid hD
      have hD1 : (D : Int) ≤ 1000000 := by omega
      clear hD HTK hds
      by_cases hlt : i < ks.length
      · have hi1 : (i : Int) < ks.length := by omega
        obtain ⟨ba, oa, rfl, hba, hl⟩ := HK.out (by omega)
        obtain ⟨x, hx⟩ : ∃ x, x = ks.getD i ex0 := ⟨_, rfl⟩
        obtain ⟨q2, c2, x0, x1, x2, x3, hr⟩ := hl.at hlt
        have hxs := sizeL_get ks i hlt
        have hxd := depthL_get ks i hlt
        rw [← hx] at x0 x1 x2 x3 hr hxs hxd
        have HX := Lib.hid hx
        obtain ⟨xk, xv2, xn2, xs⟩ := x
        have cc : ∀ n, wr.cell? ⟨ba, n, none⟩ = w.cell? ⟨ba, n, none⟩ := fun n => (HI.out).cell (p := ⟨ba, n, none⟩) (hP _ hba)
        have X0 : wr.cell? ⟨ba, oa + i * 4, none⟩ = some (.int .i64 xk) := (cc _).trans x0
        have X1 : wr.cell? ⟨ba, oa + i * 4 + 1, none⟩ = some (.string (bstr xv2)) := (cc _).trans x1
        have X2 : wr.cell? ⟨ba, oa + i * 4 + 2, none⟩ = some (.string (bstr xn2)) := (cc _).trans x2
        have X3 : wr.cell? ⟨ba, oa + i * 4 + 3, none⟩ = some (.slice q2 xs.length c2) := (cc _).trans x3
        clear x0 x1 x2 x3 cc hx
        have HR : Hid (RdE P wr (.mk xk xv2 xn2 xs) (.agg #[.int .i64 xk, .string (bstr xv2), .string (bstr xn2), .slice q2 xs.length c2])) := hr.below (HI.out) hP
        have HC := Lib.hid (HIH.out (.mk xk xv2 xn2 xs) _ P _ (by omega) (by omega) HR.out (fun b hb => Nat.lt_of_lt_of_le (hP b hb) HI.out.size))
        have HTD : Hid (depthL (ks.take (i + 1)) = max D (depthE (.mk xk xv2 xn2 xs))) := by show _ = _; rw [take_snocE hlt, depthL_snoc, ← HX.out, HD.out]
        obtain ⟨E, hE⟩ : ∃ E, E = depthE (.mk xk xv2 xn2 xs) := ⟨_, rfl⟩
        have hE1 : (E : Int) ≤ 1000000 := by have := depthL_size ks; omega
        rw [← hE] at HC HTD
        clear hl hr hxs hxd hE
        go_wp2_with fail
        refine HC.out.mono ?_
        rintro r w5 ⟨rfl, b5⟩
        have HB5 := Lib.hid (HI.out.trans (b5.mono HI.out.size))
        have HA5 := Lib.hid (HAI.out.later b5)
        clear b5
        go_wp2_with fail
        go_roundw
        case rel => exact ⟨i + 1, by omega, by go_num, by rw [HTD.out]; congr 1; omega, HB5.out, HA5.out⟩
        case measure => simp [intOf]; omega
      · have hi1 : ¬ (i : Int) < ks.length := by omega
        have HK2 : Hid (ks.take i = ks) := List.take_of_length_le (by omega)
        go_wp2_with fail
        go_ret
        exact ⟨by rw [HD.out, HK2.out]; unfold depthE; rfl, HI.out⟩
end Go.Proofs.YtdnmgemjhpkekaaGreat
