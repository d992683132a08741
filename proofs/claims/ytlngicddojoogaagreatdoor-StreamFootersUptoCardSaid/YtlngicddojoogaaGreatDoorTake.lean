/-
  The method Cursor.Take of a positive number.
-/
import Derived.Test.YtlngicddojoogaaGreatDoorNumberM
import Derived.Test.YtlngicddojoogaaGreatDoorOwnF
namespace Go.Proofs.YtlngicddojoogaaGreatDoor
open Go.ChangeShapes Go.WideShapes Go.ChangeAt Go.RowKit
set_option linter.unusedVariables false

theorem Cur.drewN {w : World} {c at' : Nat} {l : List UInt8} (h : Cur w c l at') (k : Nat) : Cur (w.drewN k) c l at' := by
  obtain ⟨v, h1, h2, h3, h4⟩ := h
  exact ⟨v, h1, h2.below (w' := w.drewN k) ⟨rfl, rfl, rfl, Nat.le_refl _, fun _ _ => rfl⟩ (Nat.le_refl _), h3, h4⟩
set_option maxRecDepth 100000 in
set_option maxHeartbeats 800000 in
theorem take_no {w : World} {c at' : Nat} {l : List UInt8} (h : Cur w c l at') (n : Nat) (hn : l.length - at' < n) :
    Calls Tryz.prog 23 #[.pointer (some ⟨c, 0, none⟩), .int .i64 n] w fun e w' => e = .returned (.tuple #[.slice none 0 0, .iface 50 (.int .i64 1)]) ∧ ∃ k, w' = w.drewN k := by
  obtain ⟨m, hm⟩ : ∃ m, m = l.length - at' := ⟨_, rfl⟩
  have HL := Lib.hid (left_any h)
  rw [← hm] at HL hn
  have h1 : ¬ (n : Int) < 0 := by omega
  have h2 : (m : Int) < n := by omega
  clear hm
  go_enter Tryz.func23, Tryz.ntmps23
  go_wp2_with fail
  refine HL.out.mono ?_
  rintro e w1 ⟨rfl, nq, rfl⟩
  go_wp2_with fail
  go_ret2
  exact ⟨rfl, _, rfl⟩

/-- The slice of the n first bytes of what is left, as wide as it is long. -/
theorem rd_cut3 {B : Nat} {w : World} {b off cap n : Nat} {l : List UInt8} (h1 : l.length ≤ cap) (h2 : cap ≤ maxLen) (h3 : b < B) (hc : ∀ i, i < l.length → w.cell? ⟨b, off + i, none⟩ = some (bv (l.getD i 0))) (hn : n ≤ l.length) :
    Rd B w (.slice (some ⟨b, off, none⟩) n n) (l.take n) := by
  have hl : (l.take n).length = n := by rw [List.length_take]; omega
  refine .inr ⟨b, off, n, by rw [hl], by omega, by omega, h3, fun i hi => ?_⟩
  rw [hl] at hi
  rw [hc i (by omega)]
  congr 2
  simp [List.getD_eq_getElem?_getD, hi]

set_option maxRecDepth 100000 in
set_option maxHeartbeats 800000 in
theorem take_yes {w : World} {c at' : Nat} {l : List UInt8} (h : Cur w c l at') (n : Nat) (h0 : 0 < n) (hn : at' + n ≤ l.length) :
    Calls Tryz.prog 23 #[.pointer (some ⟨c, 0, none⟩), .int .i64 n] w fun e w' => ∃ v, e = .returned (.tuple #[v, .nilIface]) ∧ w'.ownsRow w.heap.size 5 1 v n (bvs ((l.drop at').take n)) ∧ Cur w' c l (at' + n) ∧ Below c w w' := by
  obtain ⟨T, hT⟩ : ∃ T, T = (l.drop at').take n := ⟨_, rfl⟩
  rw [← hT]
  have HT := Lib.hid hT
  clear hT
  obtain ⟨m, hm⟩ : ∃ m, m = l.length - at' := ⟨_, rfl⟩
  have HL := Lib.hid (left_any h)
  rw [← hm] at HL
  have h1 : ¬ (n : Int) < 0 := by omega
  have h2 : ¬ (m : Int) < n := by omega
  have h2n : ¬ m < n := by omega
  have h3 : (0 : Int) < n := by omega
  have HC := Lib.hid h
  have HN := Lib.hid hn
  have HM := Lib.hid hm
  clear hm h hn
  go_enter Tryz.func23, Tryz.ntmps23
  go_wp2_with fail
  refine HL.out.mono ?_
  rintro e w1 ⟨rfl, nq, rfl⟩
  have HC1 := Lib.hid (HC.out.drewN nq)
  go_wp2_with fail
  refine (rest_any HC1.out).mono ?_
  rintro e w2 ⟨v, rfl, hr, nq2, rfl⟩
  have HC2 := Lib.hid (HC1.out.drewN nq2)
  rcases hr with ⟨oa, rfl, h4⟩ | ⟨b, off, cap, rfl, h4, h5, h6, hc⟩
  · exfalso
    have := congrArg List.length h4
    have hn := HN.out
    rw [List.length_drop, List.length_nil] at this; omega
  have hdl : (l.drop at').length = m := by rw [List.length_drop]; exact HM.out.symm
  have hcut := rd_cut3 h4 h5 h6 hc (n := n) (by rw [hdl]; omega)
  rw [hdl] at h4 ⊢
  have g1 : (n : Int) ≤ cap := by omega
  clear hc HC1 HC HL
  have HCUT := Lib.hid (hcut.below (below_drewN (Below.refl c (w.drewN nq)) nq2) (Nat.le_refl _))
  clear hcut
  have HJ : Hid (∀ k, Below c w (w.drewN k) ∧ Cur (w.drewN k) c l at' ∧ (Rd c (w.drewN k) (.slice (some ⟨b, off, none⟩) n n) ((l.drop at').take n))) := by
    intro k
    obtain ⟨v, e1, e2, e3, e4⟩ := HC2.out
    exact ⟨below_drewN (Below.refl c w) k, ⟨v, e1, e2, e3, e4⟩, HCUT.out⟩
  have hcl : c < w.heap.size := (HC2.out.lt)
  have HJN : Hid (∀ k, Calls Tryz.prog 20 #[.slice (some ⟨w.heap.size, 0, none⟩) 1 1] ((w.drewN k).alloc (.cells #[.slice (some ⟨b, off, none⟩) n n] 27)) fun e w' => ∃ v, e = .returned v ∧ w'.ownsRow w.heap.size 5 1 v n (bvs ((l.drop at').take n)) ∧ Cur w' c l at' ∧ Below c w w') := by
    intro k
    obtain ⟨j1, j2, j3⟩ := HJ.out k
    have b0 : Below (w.drewN k).heap.size (w.drewN k) ((w.drewN k).alloc (.cells #[.slice (some ⟨b, off, none⟩) n n] 27)) := (Below.refl _ _).alloc (Nat.le_refl _) _
    have hs : (w.drewN k).heap.size = w.heap.size := rfl
    have r0 := j3.below b0 (by rw [hs]; omega)
    have hra : RdAll ((w.drewN k).alloc (.cells #[.slice (some ⟨b, off, none⟩) n n] 27)).heap.size ((w.drewN k).alloc (.cells #[.slice (some ⟨b, off, none⟩) n n] 27)) (some ⟨w.heap.size, 0, none⟩) [(l.drop at').take n] := by
      intro _
      refine ⟨w.heap.size, 0, rfl, by simp, fun i hi => ?_⟩
      obtain rfl : i = 0 := by simpa using hi
      refine ⟨.slice (some ⟨b, off, none⟩) n n, ?_, r0.mono (by simp; omega)⟩
      rw [Nat.add_zero, ← hs, cell_of_row _ _ _ #[.slice (some ⟨b, off, none⟩) n n] 27 (0, 0) (heap_alloc_new (w.drewN k) _)]; rfl
    obtain ⟨_, _, _, _, hm⟩ := j2
    refine (join_any (cap := 1) hra (Nat.le_refl _) (by simp) (by simp [total]; omega)).mono ?_
    rintro e w3 ⟨v, rfl, o3, b3⟩
    rw [show [(l.drop at').take n].flatten = (l.drop at').take n from List.append_nil _] at o3
    have hz : w.heap.size ≤ ((w.drewN k).alloc (.cells #[.slice (some ⟨b, off, none⟩) n n] 27)).heap.size := by simp
    have bT := (j1.trans (b0.mono (by rw [hs]; omega))).trans (b3.mono (by omega))
    exact ⟨v, rfl, own_le (own_len o3 (by rw [List.length_take, hdl]; omega)) hz, ((HJ.out k).2.1.below b0 (by rw [hs]; exact hcl)).below b3 (by omega), bT⟩
  rw [← HT.out] at HJN
  have HSZ := Lib.hid hcl
  clear HCUT HC2 HJ hcl
  go_wp2_with fail
  all_goals
    refine (HJN.out _).mono ?_
    rintro e w3 ⟨v3, rfl, o3, c3, b3⟩
    obtain ⟨u, _, q1, q2, _, q3, q4⟩ := c3.cells
    have q5 := HN.out
    have HFIN : Hid ((w3.setCell ⟨c, 1, none⟩ (.int .i64 ((at' : Int) + n))).ownsRow w.heap.size 5 1 v3 n (bvs T) ∧ Cur (w3.setCell ⟨c, 1, none⟩ (.int .i64 ((at' : Int) + n))) c l (at' + n) ∧ Below c w (w3.setCell ⟨c, 1, none⟩ (.int .i64 ((at' : Int) + n)))) := by
      have e1 : ((at' : Int) + n) = ((at' + n : Nat) : Int) := by omega
      rw [e1]
      exact ⟨ownsRow_setCell_below (w := w3) o3 (by exact HSZ.out) _, c3.moved (n := 0) (at' + n) HN.out, b3.setCell (by exact Nat.le_refl _) _⟩
    obtain ⟨ov, cv, rfl⟩ : ∃ q cp, v3 = .slice q n cp := own_form o3
    clear o3 c3 b3 HJN
    go_wp2_with fail
    go_ret2
    exact ⟨_, rfl, HFIN.out.1, HFIN.out.2.1, HFIN.out.2.2⟩
end Go.Proofs.YtlngicddojoogaaGreatDoor
