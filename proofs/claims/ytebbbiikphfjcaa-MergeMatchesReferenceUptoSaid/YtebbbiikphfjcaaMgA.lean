/-
  merge.Sorted.
-/
import Derived.Test.YtebbbiikphfjcaaTuZf
import Derived.Test.YtebbbiikphfjcaaMeD
import Derived.Test.YtebbbiikphfjcaaMeC
namespace Go.Proofs.Ytebbbiikphfjcaa
open Go.ChangeShapes Go.WideShapes Go.ChangeAt Go.RowKit
set_option linter.unusedVariables false

/-- Does each tuple of a list stand ahead of the next? -/
def risB (l : List Tu) : Bool := (List.range (l.length - 1)).all fun j => decide (ordT (l.getD j t0) (l.getD (j + 1) t0) < 0)
theorem risB_yes {l : List Tu} (h : ∀ j, j + 1 < l.length → ordT (l.getD j t0) (l.getD (j + 1) t0) < 0) : risB l = true := by
  unfold risB
  rw [List.all_eq_true]
  intro j hj
  rw [List.mem_range] at hj
  exact decide_eq_true (h j (by omega))
theorem risB_no {l : List Tu} {j : Nat} (hj : j + 1 < l.length) (h : ¬ ordT (l.getD j t0) (l.getD (j + 1) t0) < 0) : risB l = false := by
  unfold risB
  rw [Bool.eq_false_iff]
  intro e
  rw [List.all_eq_true] at e
  exact h (of_decide_eq_true (e j (List.mem_range.2 (by omega))))
theorem getD_at {l : List Tu} {i : Nat} (h : i < l.length) : l.getD i t0 = l[i] := by rw [List.getD_eq_getElem?_getD, List.getElem?_eq_getElem h]; rfl
set_option maxRecDepth 100000 in
set_option maxHeartbeats 2000000 in
theorem msorted_any {w : World} {sv : Value} {l : List Tu} (h : TuRd w sv l) (hl : l.length ≤ 1000000) :
    Calls Try.prog 22 #[sv] w fun e w' => e = .returned (.bool (risB l)) ∧ Below w.heap.size w w' := by
  have HLN := Lib.hid hl
  obtain ⟨p, c, rfl, hrow⟩ := h.form tc_length (by decide)
  have HW := Lib.hid hrow
  clear h hrow
  go_enter Try.func22, Try.ntmps22
  go_wp2_with fail
  go_loopg [3] (l.length + 1) (fun g s3 wr => ∃ k : Nat, 1 ≤ k ∧ k ≤ l.length + 1 ∧ l.length + 1 - k ≤ g ∧ s3 = .int .i64 k ∧ Below w.heap.size w wr ∧ ∀ j, j + 1 < k → j + 1 < l.length → ordT (l.getD j t0) (l.getD (j + 1) t0) < 0)
  case atStart => exact ⟨1, Nat.le_refl _, by omega, by omega, rfl, Below.refl _ _, fun j hj => absurd hj (by omega)⟩
  case round =>
    obtain ⟨k, hk1, hk, hg, rfl, hb, hall⟩ := hrel
    have HB := Lib.hid hb
    have HA := Lib.hid hall
    clear hb hall
    by_cases hlt : k < l.length
    · have HWR : Hid (IntKind.i64.wrap ((k : Int) - 1) = ((k - 1 : Nat) : Int)) := by show _ = _; rw [IntKind.wrap_i64]; omega
      have hk1' : k - 1 < l.length := by omega
      obtain ⟨b, off, rfl, hbl, ri⟩ := HW.out (k - 1) hk1'
      obtain ⟨b', off', hbo, _, rk⟩ := HW.out k hlt
      simp only [Option.some.injEq, Addr.mk.injEq, and_true] at hbo
      obtain ⟨rfl, rfl⟩ := hbo
      obtain ⟨x, hx⟩ : ∃ x, x = l[k - 1] := ⟨_, rfl⟩
      obtain ⟨y, hy⟩ : ∃ y, y = l[k] := ⟨_, rfl⟩
      have HD : Hid (l.getD (k - 1) t0 = x ∧ l.getD (k - 1 + 1) t0 = y) := by
        show _ ∧ _
        rw [show k - 1 + 1 = k by omega, getD_at hk1', getD_at hlt, hx, hy]; exact ⟨rfl, rfl⟩
      rw [← hx] at ri
      rw [← hy] at rk
      have HBD := Lib.hid (HB.out.trans ((Below.refl wr.heap.size wr).drew.mono HB.out.size))
      have HRI : Hid ((wr.drew).rangeAt b (off + (k - 1) * 6) (tc x)) := range_below ri hbl HBD.out
      have HRK : Hid ((wr.drew).rangeAt b (off + k * 6) (tc y)) := range_below rk hbl HBD.out
      have HCM := Lib.hid (tcompare_below x y wr.drew)
      clear hx hy ri rk hbl
      go_wp2_with fail
      refine region_tail 9 (by kernel_rfl) (by kernel_rfl) ?_
      simp only [List.take_succ_cons, List.take_zero, List.drop_succ_cons, List.drop_zero]
      repeat first
        | still_step
        | (rw [HWR.out]; still_step)
        | ((with_reducible refine stillG (x := .tmp 13) (o := ⟨some 14, _, _, _, _, _⟩) HRI.out ?_ ?_); exact ⟨rfl, rfl, by go_simp⟩)
        | ((with_reducible refine stillG (x := .tmp 17) (o := ⟨some 18, _, _, _, _, _⟩) HRK.out ?_ ?_); exact ⟨rfl, rfl, by go_simp⟩)
      refine wpStill_nil ?_
      clear HRI HRK
      go_wp2_with fail
      refine HCM.out.mono ?_
      rintro e w2 ⟨rfl, b2⟩
      have HB2 := Lib.hid (HBD.out.trans (b2.mono HBD.out.size))
      clear b2 HCM HB HBD
      obtain ⟨q, hq⟩ : ∃ q, q = ordT x y := ⟨_, rfl⟩
      have HQ := Lib.hid hq
      rw [← hq]
      clear hq
      by_cases hneg : q < 0
      · go_wp2_with fail
        go_roundg (l.length + 1 - (k + 1))
        case measure => omega
        case rel =>
          refine ⟨k + 1, by omega, by omega, Nat.le_refl _, by go_num, HB2.out, fun j hj hjl => ?_⟩
          by_cases e : j = k - 1
          · subst e
            rw [HD.out.1, HD.out.2, ← HQ.out]; exact hneg
          · exact HA.out j (by omega) hjl
      · have HF : Hid (risB l = false) := risB_no (j := k - 1) (by omega) (by rw [HD.out.1, HD.out.2, ← HQ.out]; exact hneg)
        go_wp2_with fail
        go_ret
        exact ⟨by rw [HF.out]; rfl, HB2.out⟩
    · have HF : Hid (risB l = true) := risB_yes fun j hj => HA.out j (by omega) hj
      go_wp2_with fail
      go_ret
      exact ⟨by rw [HF.out]; rfl, HB.out⟩
end Go.Proofs.Ytebbbiikphfjcaa
