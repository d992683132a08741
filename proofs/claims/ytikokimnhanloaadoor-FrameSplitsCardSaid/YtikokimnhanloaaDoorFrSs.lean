/-
  The reference's Same, over lists of payloads.
-/
import Derived.Test.YtikokimnhanloaaDoorRowK
import Derived.Test.YtikokimnhanloaaDoorStepW
namespace Go.Proofs.YtikokimnhanloaaDoor
open Go.ChangeShapes Go.WideShapes Go.ChangeAt Go.RowKit
set_option linter.unusedVariables false

theorem RowP.rdall {base : Nat} {w : World} {v : Value} {ks : List (List UInt8)} (h : RowP base w v ks) : ∃ oa cap, v = .slice oa ks.length cap ∧ RdAll w.heap.size w oa ks := by
  obtain ⟨xs, hown, hrd⟩ := h
  rcases hown.2 with ⟨hv, hn⟩ | ⟨g, cap, cur, hv, hb, hg, h1, h2, h3, h4⟩
  · exact ⟨none, 0, by rw [hn]; exact hv, fun h => by omega⟩
  · refine ⟨_, cap, hv, fun _ => ⟨g, 0, rfl, (Array.getElem?_eq_some_iff.1 hg).1, fun i hi => ?_⟩⟩
    obtain ⟨u, hu, hr, _⟩ := hrd i hi
    refine ⟨u, ?_, hr⟩
    rw [Nat.zero_add, cell_of_row w g i cur _ (0, 0) hg, ← hu, ← h4, List.getElem?_take, if_pos (by omega), Array.getElem?_toList]

set_option maxRecDepth 100000 in
set_option maxHeartbeats 4000000 in
theorem rsames_any {B : Nat} {w : World} {oa ob : Option Addr} {ca cb : Nat} {ks : List (List UInt8)} (ha : RdAll B w oa ks) (hb : RdAll B w ob ks) (hB : B ≤ w.heap.size) (hm : ks.length ≤ 1000000) :
    Calls Tryd.prog 18 #[.slice oa ks.length ca, .slice ob ks.length cb] w fun e w' => e = .returned (.bool true) ∧ Below w.heap.size w w' := by
  go_enter Tryd.func18, Tryd.ntmps18
  go_wp2_with fail
  go_loopw [5] (fun iv wr => ∃ i : Nat, i ≤ ks.length ∧ iv = .int .i64 i ∧ Hid (Below w.heap.size w wr)) (fun iv _ => ks.length - (intOf iv).toNat)
  case atStart => exact ⟨0, Nat.zero_le _, rfl, Below.refl _ _⟩
  case round =>
    obtain ⟨i, hi, rfl, HW⟩ := hrel
    have i0 : (0 : Int) ≤ i := by omega
    by_cases hlt : i < ks.length
    · have i1 : (i : Int) < ks.length := by omega
      obtain ⟨b1, o1, rfl, hb1, hc1⟩ := ha (by omega)
      obtain ⟨b2, o2, rfl, hb2, hc2⟩ := hb (by omega)
      obtain ⟨u1, hu1, hr1⟩ := hc1 i hlt
      obtain ⟨u2, hu2, hr2⟩ := hc2 i hlt
      obtain ⟨q1, c1, rfl, _, _⟩ := hr1.form
      obtain ⟨q2, c2, rfl, _, _⟩ := hr2.form
      obtain ⟨k, hk⟩ : ∃ k, k = ks.getD i [] := ⟨_, rfl⟩
      rw [← hk] at hu1 hu2 hr1 hr2
      have HU1 : Hid (∀ w', Below w.heap.size w w' → w'.cell? ⟨b1, o1 + i, none⟩ = some (.slice q1 k.length c1)) := fun w' h => (h.cell (by show b1 < w.heap.size; omega)).trans hu1
      have HU2 : Hid (∀ w', Below w.heap.size w w' → w'.cell? ⟨b2, o2 + i, none⟩ = some (.slice q2 k.length c2)) := fun w' h => (h.cell (by show b2 < w.heap.size; omega)).trans hu2
      have HS : Hid (∀ w', Below w.heap.size w w' → Calls Tryd.prog 11 #[.slice q1 k.length c1, .slice q2 k.length c2] w' fun e w'' => ∃ v, e = .returned v ∧ (v = .bool true ∧ Below w.heap.size w w'')) := fun w' h =>
        (same_any (hr1.below h hB) (hr2.below h hB)).mono fun e w'' ⟨h1, d, h2⟩ => ⟨_, h1, by rw [show eqB k k = true from by unfold eqB; exact beq_self_eq_true k], by rw [h2]; exact h.trans ((Joins.below_draws w'.heap.size w' d).mono h.size)⟩
      have j0 : (0 : Int) ≤ (i : Int) + 1 := by omega
      have j1 : (i : Int) + 1 ≤ 9223372036854775807 := by omega
      clear ha hb hc1 hc2 hu1 hu2 hr1 hr2 hk
      go_wp2_with fail
      refine wp_region_noPanic ?_
      refine wp_region_held_drew (S := Below w.heap.size w) (by kernel_rfl) (HW.out.drew) (fun hHeld => ?_)
      try simp only [Act.put]
      clear HW
      refine wpAnyH_take (i := 0) (oi := ⟨some 17, _, _, _, _, _⟩) (v := .slice (some ⟨b1, o1, none⟩) ks.length ca) rfl (by kernel_rfl) (by kernel_rfl) (by kernel_rfl) (fun _ _ _ h => h) (.inl ⟨by rfl, fun w' hSw => ?_⟩) hHeld ?_
      focus (have hx1 := HU1.out w' hSw; have hx2 := HU2.out w' hSw; clear hHeld; go_simp)
      try simp only [Act.put, List.setIfInBounds_toArray, List.set_cons_zero, List.set_cons_succ]
      refine wpAnyH_take (i := 1) (oi := ⟨some 18, _, _, _, _, _⟩) (v := .int .i64 i) rfl (by kernel_rfl) (by kernel_rfl) (by kernel_rfl) (fun _ _ _ h => h) (.inl ⟨by rfl, fun w' hSw => ?_⟩) hHeld ?_
      focus (have hx1 := HU1.out w' hSw; have hx2 := HU2.out w' hSw; clear hHeld; go_simp)
      try simp only [Act.put, List.setIfInBounds_toArray, List.set_cons_zero, List.set_cons_succ]
      refine wpAnyH_take (i := 2) (oi := ⟨some 19, _, _, _, _, _⟩) (v := .pointer (some ⟨b1, o1 + i, none⟩)) rfl (by kernel_rfl) (by kernel_rfl) (by kernel_rfl) (fun _ _ _ h => h) (.inl ⟨by rfl, fun w' hSw => ?_⟩) hHeld ?_
      focus (have hx1 := HU1.out w' hSw; have hx2 := HU2.out w' hSw; clear hHeld; go_simp)
      try simp only [Act.put, List.setIfInBounds_toArray, List.set_cons_zero, List.set_cons_succ]
      refine wpAnyH_take (i := 3) (oi := ⟨some 20, _, _, _, _, _⟩) (v := .slice q1 k.length c1) rfl (by kernel_rfl) (by kernel_rfl) (by kernel_rfl) (fun _ _ _ h => h) (.inl ⟨by rfl, fun w' hSw => ?_⟩) hHeld ?_
      focus (have hx1 := HU1.out w' hSw; have hx2 := HU2.out w' hSw; clear hHeld; go_simp)
      try simp only [Act.put, List.setIfInBounds_toArray, List.set_cons_zero, List.set_cons_succ]
      refine wpAnyH_take (i := 4) (oi := ⟨some 21, _, _, _, _, _⟩) (v := .slice (some ⟨b2, o2, none⟩) ks.length cb) rfl (by kernel_rfl) (by kernel_rfl) (by kernel_rfl) (fun _ _ _ h => h) (.inl ⟨by rfl, fun w' hSw => ?_⟩) hHeld ?_
      focus (have hx1 := HU1.out w' hSw; have hx2 := HU2.out w' hSw; clear hHeld; go_simp)
      try simp only [Act.put, List.setIfInBounds_toArray, List.set_cons_zero, List.set_cons_succ]
      refine wpAnyH_take (i := 5) (oi := ⟨some 22, _, _, _, _, _⟩) (v := .int .i64 i) rfl (by kernel_rfl) (by kernel_rfl) (by kernel_rfl) (fun _ _ _ h => h) (.inl ⟨by rfl, fun w' hSw => ?_⟩) hHeld ?_
      focus (have hx1 := HU1.out w' hSw; have hx2 := HU2.out w' hSw; clear hHeld; go_simp)
      try simp only [Act.put, List.setIfInBounds_toArray, List.set_cons_zero, List.set_cons_succ]
      refine wpAnyH_take (i := 6) (oi := ⟨some 23, _, _, _, _, _⟩) (v := .pointer (some ⟨b2, o2 + i, none⟩)) rfl (by kernel_rfl) (by kernel_rfl) (by kernel_rfl) (fun _ _ _ h => h) (.inl ⟨by rfl, fun w' hSw => ?_⟩) hHeld ?_
      focus (have hx1 := HU1.out w' hSw; have hx2 := HU2.out w' hSw; clear hHeld; go_simp)
      try simp only [Act.put, List.setIfInBounds_toArray, List.set_cons_zero, List.set_cons_succ]
      refine wpAnyH_take (i := 7) (oi := ⟨some 24, _, _, _, _, _⟩) (v := .slice q2 k.length c2) rfl (by kernel_rfl) (by kernel_rfl) (by kernel_rfl) (fun _ _ _ h => h) (.inl ⟨by rfl, fun w' hSw => ?_⟩) hHeld ?_
      focus (have hx1 := HU1.out w' hSw; have hx2 := HU2.out w' hSw; clear hHeld; go_simp)
      try simp only [Act.put, List.setIfInBounds_toArray, List.set_cons_zero, List.set_cons_succ]
      refine wpAnyH_ready (rs := [8]) (by kernel_rfl) (by simp) ?_
      refine AllReadyH.cons (o := ⟨some 25, _, _, _, _, _⟩) rfl (fun K' hK' => ?_) AllReadyH.nil
      refine stepw_call (by rfl) ?_ (HS.out _ hHeld) ?_
      focus go_simp
      rintro v w5 ⟨rfl, hkn⟩
      refine hK'.out _ _ hkn (fun _ => ?_)
      clear hK' K' hHeld
      have hHeld := hkn
      clear hkn
      try simp only [Act.put, List.setIfInBounds_toArray, List.set_cons_zero, List.set_cons_succ]
      refine wpAnyH_take (i := 9) (oi := ⟨some 26, _, _, _, _, _⟩) (v := .bool false) rfl (by kernel_rfl) (by kernel_rfl) (by kernel_rfl) (fun _ _ _ h => h) (.inl ⟨by rfl, fun w' hSw => ?_⟩) hHeld ?_
      focus (have hx1 := HU1.out w' hSw; have hx2 := HU2.out w' hSw; clear hHeld; go_simp)
      try simp only [Act.put, List.setIfInBounds_toArray, List.set_cons_zero, List.set_cons_succ]
      refine wpAnyH_done (by kernel_rfl) ?_ _
      refine NoPanic.normal ?_
      have HBZ := Lib.hid hHeld
      clear hHeld HU1 HU2 HS
      go_wp2_with fail
      go_roundw
      case rel => exact ⟨i + 1, by omega, by rw [Int.natCast_add]; rfl, HBZ.out⟩
      case measure => simp [intOf]; omega
    · have i1 : ¬ (i : Int) < ks.length := by omega
      go_wp2_with fail
      go_ret
      exact ⟨rfl, HW.out⟩
end Go.Proofs.YtikokimnhanloaaDoor
