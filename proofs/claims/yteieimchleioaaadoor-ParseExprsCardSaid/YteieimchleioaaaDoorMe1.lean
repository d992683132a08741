/-
  The reference's finish; how far the reference's reading stands for what a text is read as.
-/
import Derived.Test.YteieimchleioaaaDoorMe0
import Derived.Test.YteieimchleioaaaDoorMg0
import Derived.WalkKit
import Derived.ProofKit
import Derived.Below
import Derived.Lib.Hide
import Derived.Deep.RegionHeld3
import Derived.Deep.RegionLaw
namespace Go.Proofs.YteieimchleioaaaDoor
open Go.ChangeShapes Go.WideShapes Go.ChangeAt Go.RowKit
set_option linter.unusedVariables false

def finK (ts : List Tok) (k i : Nat) : Nat := if k = 0 then (if (ts.getD i tok0).1 = 3 then 0 else 6) else k
def finO (ts : List Tok) (k i : Nat) : Int := if finK ts k i = 0 then 0 else offs ts i
theorem cell_kp {w w' : World} {g b : Nat} (hk : Kp g w w') (hb : b < w.heap.size) (hne : b ≠ g) (n : Nat) : w'.cell? ⟨b, n, none⟩ = w.cell? ⟨b, n, none⟩ := World.cell?_of_block (hk.2.2.2.2 b hb hne)
theorem fin_a {ts : List Tok} {k i : Nat} (hk : k = 0) (h3 : (ts.getD i tok0).1 = 3) : finK ts k i = 0 ∧ finO ts k i = 0 := by
  have h1 : finK ts k i = 0 := by unfold finK; rw [if_pos hk, if_pos h3]
  exact ⟨h1, by unfold finO; rw [if_pos h1]⟩
theorem fin_b {ts : List Tok} {k i : Nat} (hk : k = 0) (h3 : ¬ (ts.getD i tok0).1 = 3) : finK ts k i = 6 ∧ finO ts k i = offs ts i := by
  have h1 : finK ts k i = 6 := by unfold finK; rw [if_pos hk, if_neg h3]
  exact ⟨h1, by unfold finO; rw [if_neg (by rw [h1]; decide)]⟩
theorem fin_c {ts : List Tok} {k i : Nat} (hk : ¬ k = 0) : finK ts k i = k ∧ finO ts k i = offs ts i := by
  have h1 : finK ts k i = k := by unfold finK; rw [if_neg hk]
  exact ⟨h1, by unfold finO; rw [if_neg (by rw [h1]; exact hk)]⟩
theorem fin_read {α : Type} {rule : List Tok → PS → PR α} {l : List UInt8} (h0 : (tokS l).2.1 = 0) {k i o m : Nat} {x : α} (h : Go1 (tokS l).1 k i o m x (rule (tokS l).1 ps0)) : readF rule l = if finK (tokS l).1 k i = 0 then .ok x else .bad (finK (tokS l).1 k i) (offT (tokS l).1 i) := by
  obtain ⟨h1, h2, ⟨h3, h4⟩ | ⟨h3, h4⟩⟩ := h
  · unfold finK
    rw [if_pos h3]
    by_cases he : ((tokS l).1.getD i tok0).1 = 3
    · rw [if_pos he, if_pos rfl]
      exact readF_ok h0 h4 he
    · rw [if_neg he, if_neg (by decide)]
      exact readF_more h0 h4 he
  · unfold finK
    rw [if_neg h3, if_neg h3]
    exact readF_bad h0 h4
theorem consT_texts {t : Tok} {r : Toks} {n : Nat} (ht : t.2.1.length ≤ n) (hr : ∀ u ∈ r.1, u.2.1.length ≤ n) : ∀ u ∈ (consT t r).1, u.2.1.length ≤ n := fun u hu => by
  rcases consT_mem hu with rfl | h
  · exact ht
  · exact hr u h
theorem tokF_texts : ∀ (n i : Nat) (l : List UInt8) (M : Nat), l.length ≤ M → 2 ≤ M → ∀ t ∈ (tokF n i l).1, t.2.1.length ≤ M
  | 0, i, l, M, _, _ => fun t h => by simp [tokF] at h
  | n + 1, i, [], M, _, _ => fun t h => by simp [tokF] at h; subst h; show ([] : List UInt8).length ≤ M; simp
  | n + 1, i, c :: r, M, hM, h2 => by
    simp only [List.length_cons] at hM
    unfold tokF
    split
    · split
      · refine consT_texts ?_ (tokF_texts n _ _ M (by rw [List.length_drop, List.length_cons]; omega) h2)
        exact Nat.le_trans (List.takeWhile_sublist _).length_le (by simpa using hM)
      · intro t h; cases h
    · split
      · exact tokF_texts n _ _ M (by omega) h2
      · split
        · exact tokF_texts n _ _ M (by rw [List.length_drop, List.length_cons]; omega) h2
        · split
          · exact consT_texts h2 (tokF_texts n _ _ M (by rw [List.length_drop]; omega) h2)
          · split
            · exact consT_texts (show 1 ≤ M by omega) (tokF_texts n _ _ M (by omega) h2)
            · intro t h; cases h
theorem tokS_okB {l : List UInt8} (h0 : (tokS l).2.1 = 0) (hl : l.length ≤ 65536) : OkB (tokS l).1 := by
  refine ⟨tokF_ok _ _ _ (Nat.lt_succ_self _) h0, fun i => ?_⟩
  unfold txt
  rw [List.getD_eq_getElem?_getD]
  cases h : (tokS l).1[i]? with
  | none => exact Nat.zero_le _
  | some t => exact tokF_texts _ 0 l 100000 (by omega) (by decide) t (List.mem_of_getElem? h)
section
variable {W : World} {tb c k : Nat} {ts : List Tok} {s : PS}
set_option maxRecDepth 100000 in
set_option maxHeartbeats 4000000 in
theorem rfin_any (h : RT W tb ts) (hi : s.i < ts.length) : Calls Tryd.prog 23 #[.agg #[.slice (some ⟨tb, 0, none⟩) ts.length c, .int .i64 (s.i : Nat), .int .i64 (k : Nat), .int .i64 (s.o : Nat), .int .i64 (s.l : Nat)]] W fun e w' => e = .returned (.tuple #[.int .i64 (finK ts k s.i : Nat), .int .i64 (finO ts k s.i)]) ∧ Below W.heap.size W w' := by
  have hb1 : Below W.heap.size W (W.alloc (.cells #[.slice (some ⟨tb, 0, none⟩) ts.length c, .int .i64 (s.i : Nat), .int .i64 (k : Nat), .int .i64 (s.o : Nat), .int .i64 (s.l : Nat)] 68)) := (Below.refl _ _).alloc (Nat.le_refl _) _
  have HB := Lib.hid hb1
  have HA : Hid (Arr (W.alloc (.cells #[.slice (some ⟨tb, 0, none⟩) ts.length c, .int .i64 (s.i : Nat), .int .i64 (k : Nat), .int .i64 (s.o : Nat), .int .i64 (s.l : Nat)] 68)) 68 W.heap.size [.slice (some ⟨tb, 0, none⟩) ts.length c, .int .i64 (s.i : Nat), .int .i64 (k : Nat), .int .i64 (s.o : Nat), .int .i64 (s.l : Nat)]) := Arr.new' _ _ _ _ rfl
  have HZ : Hid (tb < W.heap.size) := h.1
  have hT := h.later hb1
  have hz0 : (0 : Int) ≤ s.i := by omega
  have hz2 : (s.i : Int) < ts.length := by omega
  have t0 : (W.alloc (.cells #[.slice (some ⟨tb, 0, none⟩) ts.length c, .int .i64 (s.i : Nat), .int .i64 (k : Nat), .int .i64 (s.o : Nat), .int .i64 (s.l : Nat)] 68)).cell? ⟨tb, s.i * 3, none⟩ = some (.int .i64 (ts.getD s.i tok0).1) := hT.2.2 s.i hi 0 (by decide)
  have t2 : (W.alloc (.cells #[.slice (some ⟨tb, 0, none⟩) ts.length c, .int .i64 (s.i : Nat), .int .i64 (k : Nat), .int .i64 (s.o : Nat), .int .i64 (s.l : Nat)] 68)).cell? ⟨tb, s.i * 3 + 2, none⟩ = some (.int .i64 (offs ts s.i)) := hT.2.2 s.i hi 2 (by decide)
  obtain ⟨kd, hkd⟩ : ∃ x, x = (ts.getD s.i tok0).1 := ⟨_, rfl⟩
  obtain ⟨of, hof⟩ : ∃ x, x = offs ts s.i := ⟨_, rfl⟩
  rw [← hkd] at t0
  rw [← hof] at t2
  have HT := Lib.hid t2
  have HKD := Lib.hid hkd
  have HOF := Lib.hid hof
  clear h hi hb1 hT hkd hof
  by_cases hk : k = 0
  · have hk5 : ((k : Int) == 0) = true := by simp [hk]
    by_cases h3 : kd = 3
    · have h3' : (kd != 3) = false := by rw [h3]; rfl
      have HK := Lib.hid (fin_a (ts := ts) (i := s.i) hk (HKD.out.symm.trans h3))
      clear h3 hk t2
      go_enter Tryd.func23, Tryd.ntmps23
      have x0 := HA.out.cell 0
      have y0 := HA.out.free 0
      have x1 := HA.out.cell 1
      have y1 := HA.out.free 1
      have x2 := HA.out.cell 2
      have y2 := HA.out.free 2
      have x3 := HA.out.cell 3
      have y3 := HA.out.free 3
      have x4 := HA.out.cell 4
      have y4 := HA.out.free 4
      simp only [List.getElem?_cons_zero, List.getElem?_cons_succ] at x0 x1 x2 x3 x4
      go_wp2_with fail
      refine bodyPost_ret (results_tmp2 rfl _ _ _) rfl ⟨?_, HB.out⟩
      rw [HK.out.1, HK.out.2]
      rfl
    · have h3' : (kd != 3) = true := bne_iff_ne.2 h3
      have HK : Hid (finK ts k s.i = 6 ∧ finO ts k s.i = of) := by
        have h := fin_b (ts := ts) (i := s.i) hk (fun h => h3 (HKD.out.trans h))
        exact ⟨h.1, h.2.trans HOF.out.symm⟩
      have HK0 := Lib.hid hk
      have HBD := Lib.hid (rbad_any (c := c) (k := k) (tb := tb) (ts := ts) (s := s) (W := (W.alloc (.cells #[.slice (some ⟨tb, 0, none⟩) ts.length c, .int .i64 (s.i : Nat), .int .i64 (k : Nat), .int .i64 (s.o : Nat), .int .i64 (s.l : Nat)] 68))) 6)
      clear h3 hk t2
      go_enter Tryd.func23, Tryd.ntmps23
      have x0 := HA.out.cell 0
      have y0 := HA.out.free 0
      have x1 := HA.out.cell 1
      have y1 := HA.out.free 1
      have x2 := HA.out.cell 2
      have y2 := HA.out.free 2
      have x3 := HA.out.cell 3
      have y3 := HA.out.free 3
      have x4 := HA.out.cell 4
      have y4 := HA.out.free 4
      simp only [List.getElem?_cons_zero, List.getElem?_cons_succ] at x0 x1 x2 x3 x4
      go_wp2_with fail
      clear x0 y0 x1 y1 x2 y2 x3 y3 x4 y4
      clear t0
      refine HBD.out.mono ?_
      rintro r w3 ⟨k', hk', rfl, b3⟩
      have HK6 : Hid (k' = 6) := hk'.trans (if_pos HK0.out)
      have hk6 : ((k' : Int) == 0) = false := by rw [HK6.out]; rfl
      have HA := Lib.hid (HA.out.later b3)
      have HT : Hid (w3.cell? ⟨tb, s.i * 3 + 2, none⟩ = some (.int .i64 of)) := (b3.cell (p := ⟨tb, s.i * 3 + 2, none⟩) (Nat.lt_of_lt_of_le HZ.out HB.out.size)).trans HT.out
      have HB := Lib.hid (HB.out.trans (b3.mono HB.out.size))
      clear b3 hk' HBD
      have x0 := HA.out.cell 0
      have y0 := HA.out.free 0
      have x1 := HA.out.cell 1
      have y1 := HA.out.free 1
      have x2 := HA.out.cell 2
      have y2 := HA.out.free 2
      have x3 := HA.out.cell 3
      have y3 := HA.out.free 3
      have x4 := HA.out.cell 4
      have y4 := HA.out.free 4
      simp only [List.getElem?_cons_zero, List.getElem?_cons_succ] at x0 x1 x2 x3 x4
      go_upto_region 3 with (fail)
      clear x0 y0 x1 y1 x2 y2 x3 y3 x4 y4
      have hkp := kp_setP w3 W.heap.size (.slice (some ⟨tb, 0, none⟩) ts.length c) (.int .i64 (s.i : Nat)) (.int .i64 (k' : Nat)) (.int .i64 (s.o : Nat)) (.int .i64 (s.l : Nat))
      have HT : Hid ((((((w3.setCell ⟨W.heap.size, 0, none⟩ (.slice (some ⟨tb, 0, none⟩) ts.length c)).setCell ⟨W.heap.size, 1, none⟩ (.int .i64 (s.i : Nat))).setCell ⟨W.heap.size, 2, none⟩ (.int .i64 (k' : Nat))).setCell ⟨W.heap.size, 3, none⟩ (.int .i64 (s.o : Nat))).setCell ⟨W.heap.size, 4, none⟩ (.int .i64 (s.l : Nat))).cell? ⟨tb, s.i * 3 + 2, none⟩ = some (.int .i64 of)) := (cell_kp hkp (Nat.lt_of_lt_of_le HZ.out HB.out.size) (by have := HZ.out; omega) _).trans HT.out
      have HA : Hid (Arr (((((w3.setCell ⟨W.heap.size, 0, none⟩ (.slice (some ⟨tb, 0, none⟩) ts.length c)).setCell ⟨W.heap.size, 1, none⟩ (.int .i64 (s.i : Nat))).setCell ⟨W.heap.size, 2, none⟩ (.int .i64 (k' : Nat))).setCell ⟨W.heap.size, 3, none⟩ (.int .i64 (s.o : Nat))).setCell ⟨W.heap.size, 4, none⟩ (.int .i64 (s.l : Nat))) 68 W.heap.size [.slice (some ⟨tb, 0, none⟩) ts.length c, .int .i64 (s.i : Nat), .int .i64 (k' : Nat), .int .i64 (s.o : Nat), .int .i64 (s.l : Nat)]) := HA.out.setP _ _ _ _ _
      have HB := Lib.hid (HB.out.trans (hkp.below (B := W.heap.size) (Nat.le_refl _) HB.out.size))
      clear hkp
      generalize (((((w3.setCell ⟨W.heap.size, 0, none⟩ (.slice (some ⟨tb, 0, none⟩) ts.length c)).setCell ⟨W.heap.size, 1, none⟩ (.int .i64 (s.i : Nat))).setCell ⟨W.heap.size, 2, none⟩ (.int .i64 (k' : Nat))).setCell ⟨W.heap.size, 3, none⟩ (.int .i64 (s.o : Nat))).setCell ⟨W.heap.size, 4, none⟩ (.int .i64 (s.l : Nat))) = w4 at HT HA HB ⊢
      have x0 := HA.out.cell 0
      have y0 := HA.out.free 0
      have x1 := HA.out.cell 1
      have y1 := HA.out.free 1
      have x2 := HA.out.cell 2
      have y2 := HA.out.free 2
      have x3 := HA.out.cell 3
      have y3 := HA.out.free 3
      have x4 := HA.out.cell 4
      have y4 := HA.out.free 4
      simp only [List.getElem?_cons_zero, List.getElem?_cons_succ] at x0 x1 x2 x3 x4
      go_upto_region 5 with (fail)
      clear x0 y0 x1 y1 x2 y2 x3 y3 x4 y4
      have hb7 : Below w4.heap.size w4 w4.drew := (Below.refl _ _).drew
      have HB := Lib.hid (HB.out.trans (hb7.mono HB.out.size))
      refine wp_region_held_drew (S := fun W' => Arr W' 68 W.heap.size [.slice (some ⟨tb, 0, none⟩) ts.length c, .int .i64 (s.i : Nat), .int .i64 (k' : Nat), .int .i64 (s.o : Nat), .int .i64 (s.l : Nat)] ∧ W'.cell? ⟨tb, s.i * 3 + 2, none⟩ = some (.int .i64 of)) (by kernel_rfl) ⟨HA.out.later hb7, HT.out⟩ (fun hHeld => ?_)
      try simp only [Act.put]
      generalize w4.drew = w9 at hHeld HB ⊢
      clear hb7
      refine wpAnyH_take (i := 0) (oi := ⟨some 22, _, _, _, _, _⟩) (v := .pointer (some ⟨W.heap.size, 2, none⟩)) rfl (by kernel_rfl) (by kernel_rfl) (by kernel_rfl) (fun _ _ _ h => h) (.inl ⟨by rfl, fun w' hSw => ?_⟩) hHeld ?_
      focus (skip; clear hHeld; go_simp)
      try simp only [Act.put, List.setIfInBounds_toArray, List.set_cons_zero, List.set_cons_succ]
      refine wpAnyH_take (i := 1) (oi := ⟨some 23, _, _, _, _, _⟩) (v := .int .i64 (k' : Nat)) rfl (by kernel_rfl) (by kernel_rfl) (by kernel_rfl) (fun _ _ _ h => h) (.inl ⟨by rfl, fun w' hSw => ?_⟩) hHeld ?_
      focus (have q := hSw.1; have q0 := q.cell 0; have q1 := q.cell 1; have q2 := q.cell 2; have q3 := q.cell 3; have q4 := q.cell 4; simp only [List.getElem?_cons_zero, List.getElem?_cons_succ] at q0 q1 q2 q3 q4; clear hHeld; go_simp)
      try simp only [Act.put, List.setIfInBounds_toArray, List.set_cons_zero, List.set_cons_succ]
      refine wpAnyH_take (i := 2) (oi := ⟨some 24, _, _, _, _, _⟩) (v := .pointer (some ⟨W.heap.size, 0, none⟩)) rfl (by kernel_rfl) (by kernel_rfl) (by kernel_rfl) (fun _ _ _ h => h) (.inl ⟨by rfl, fun w' hSw => ?_⟩) hHeld ?_
      focus (skip; clear hHeld; go_simp)
      try simp only [Act.put, List.setIfInBounds_toArray, List.set_cons_zero, List.set_cons_succ]
      refine wpAnyH_take (i := 3) (oi := ⟨some 25, _, _, _, _, _⟩) (v := .slice (some ⟨tb, 0, none⟩) ts.length c) rfl (by kernel_rfl) (by kernel_rfl) (by kernel_rfl) (fun _ _ _ h => h) (.inl ⟨by rfl, fun w' hSw => ?_⟩) hHeld ?_
      focus (have q := hSw.1; have q0 := q.cell 0; have q1 := q.cell 1; have q2 := q.cell 2; have q3 := q.cell 3; have q4 := q.cell 4; simp only [List.getElem?_cons_zero, List.getElem?_cons_succ] at q0 q1 q2 q3 q4; clear hHeld; go_simp)
      try simp only [Act.put, List.setIfInBounds_toArray, List.set_cons_zero, List.set_cons_succ]
      refine wpAnyH_take (i := 4) (oi := ⟨some 26, _, _, _, _, _⟩) (v := .pointer (some ⟨W.heap.size, 1, none⟩)) rfl (by kernel_rfl) (by kernel_rfl) (by kernel_rfl) (fun _ _ _ h => h) (.inl ⟨by rfl, fun w' hSw => ?_⟩) hHeld ?_
      focus (skip; clear hHeld; go_simp)
      try simp only [Act.put, List.setIfInBounds_toArray, List.set_cons_zero, List.set_cons_succ]
      refine wpAnyH_take (i := 5) (oi := ⟨some 27, _, _, _, _, _⟩) (v := .int .i64 (s.i : Nat)) rfl (by kernel_rfl) (by kernel_rfl) (by kernel_rfl) (fun _ _ _ h => h) (.inl ⟨by rfl, fun w' hSw => ?_⟩) hHeld ?_
      focus (have q := hSw.1; have q0 := q.cell 0; have q1 := q.cell 1; have q2 := q.cell 2; have q3 := q.cell 3; have q4 := q.cell 4; simp only [List.getElem?_cons_zero, List.getElem?_cons_succ] at q0 q1 q2 q3 q4; clear hHeld; go_simp)
      try simp only [Act.put, List.setIfInBounds_toArray, List.set_cons_zero, List.set_cons_succ]
      refine wpAnyH_take (i := 6) (oi := ⟨some 28, _, _, _, _, _⟩) (v := .pointer (some ⟨tb, s.i * 3, none⟩)) rfl (by kernel_rfl) (by kernel_rfl) (by kernel_rfl) (fun _ _ _ h => h) (.inl ⟨by rfl, fun w' hSw => ?_⟩) hHeld ?_
      focus (skip; clear hHeld; go_simp)
      try simp only [Act.put, List.setIfInBounds_toArray, List.set_cons_zero, List.set_cons_succ]
      refine wpAnyH_take (i := 7) (oi := ⟨some 29, _, _, _, _, _⟩) (v := .pointer (some ⟨tb, s.i * 3 + 2, none⟩)) rfl (by kernel_rfl) (by kernel_rfl) (by kernel_rfl) (fun _ _ _ h => h) (.inl ⟨by rfl, fun w' hSw => ?_⟩) hHeld ?_
      focus (skip; clear hHeld; go_simp)
      try simp only [Act.put, List.setIfInBounds_toArray, List.set_cons_zero, List.set_cons_succ]
      refine wpAnyH_take (i := 8) (oi := ⟨some 30, _, _, _, _, _⟩) (v := .int .i64 of) rfl (by kernel_rfl) (by kernel_rfl) (by kernel_rfl) (fun _ _ _ h => h) (.inl ⟨by rfl, fun w' hSw => ?_⟩) hHeld ?_
      focus (have q := hSw.2; clear hHeld; go_simp)
      try simp only [Act.put, List.setIfInBounds_toArray, List.set_cons_zero, List.set_cons_succ]
      refine wpAnyH_take (i := 9) (oi := ⟨some 2, _, _, _, _, _⟩) (v := .int .i64 (k' : Nat)) rfl (by kernel_rfl) (by kernel_rfl) (by kernel_rfl) (fun _ _ _ h => h) (.inl ⟨by rfl, fun w' hSw => ?_⟩) hHeld ?_
      focus (skip; clear hHeld; go_simp)
      try simp only [Act.put, List.setIfInBounds_toArray, List.set_cons_zero, List.set_cons_succ]
      refine wpAnyH_take (i := 10) (oi := ⟨some 3, _, _, _, _, _⟩) (v := .int .i64 of) rfl (by kernel_rfl) (by kernel_rfl) (by kernel_rfl) (fun _ _ _ h => h) (.inl ⟨by rfl, fun w' hSw => ?_⟩) hHeld ?_
      focus (skip; clear hHeld; go_simp)
      try simp only [Act.put, List.setIfInBounds_toArray, List.set_cons_zero, List.set_cons_succ]
      refine wpAnyH_done (by kernel_rfl) ?_ _
      go_wp2_with fail
      refine bodyPost_ret (results_tmp2 rfl _ _ _) rfl ⟨?_, HB.out⟩
      rw [HK.out.1, HK.out.2, ← HK6.out]
      rfl
  · have hk5 : ((k : Int) == 0) = false := by
      have : ¬ (k : Int) = 0 := by omega
      simpa using this
    have HK : Hid (finK ts k s.i = k ∧ finO ts k s.i = of) := by
      have h := fin_c (ts := ts) (i := s.i) hk
      exact ⟨h.1, h.2.trans HOF.out.symm⟩
    clear hk t0 t2
    go_enter Tryd.func23, Tryd.ntmps23
    have x0 := HA.out.cell 0
    have y0 := HA.out.free 0
    have x1 := HA.out.cell 1
    have y1 := HA.out.free 1
    have x2 := HA.out.cell 2
    have y2 := HA.out.free 2
    have x3 := HA.out.cell 3
    have y3 := HA.out.free 3
    have x4 := HA.out.cell 4
    have y4 := HA.out.free 4
    simp only [List.getElem?_cons_zero, List.getElem?_cons_succ] at x0 x1 x2 x3 x4
    go_upto_region 5 with (fail)
    clear x0 y0 x1 y1 x2 y2 x3 y3 x4 y4
    generalize (W.alloc (.cells #[.slice (some ⟨tb, 0, none⟩) ts.length c, .int .i64 (s.i : Nat), .int .i64 (k : Nat), .int .i64 (s.o : Nat), .int .i64 (s.l : Nat)] 68)) = w4 at HT HA HB ⊢
    have hb7 : Below w4.heap.size w4 w4.drew := (Below.refl _ _).drew
    have HB := Lib.hid (HB.out.trans (hb7.mono HB.out.size))
    refine wp_region_held_drew (S := fun W' => Arr W' 68 W.heap.size [.slice (some ⟨tb, 0, none⟩) ts.length c, .int .i64 (s.i : Nat), .int .i64 (k : Nat), .int .i64 (s.o : Nat), .int .i64 (s.l : Nat)] ∧ W'.cell? ⟨tb, s.i * 3 + 2, none⟩ = some (.int .i64 of)) (by kernel_rfl) ⟨HA.out.later hb7, HT.out⟩ (fun hHeld => ?_)
    try simp only [Act.put]
    generalize w4.drew = w9 at hHeld HB ⊢
    clear hb7
    refine wpAnyH_take (i := 0) (oi := ⟨some 22, _, _, _, _, _⟩) (v := .pointer (some ⟨W.heap.size, 2, none⟩)) rfl (by kernel_rfl) (by kernel_rfl) (by kernel_rfl) (fun _ _ _ h => h) (.inl ⟨by rfl, fun w' hSw => ?_⟩) hHeld ?_
    focus (skip; clear hHeld; go_simp)
    try simp only [Act.put, List.setIfInBounds_toArray, List.set_cons_zero, List.set_cons_succ]
    refine wpAnyH_take (i := 1) (oi := ⟨some 23, _, _, _, _, _⟩) (v := .int .i64 (k : Nat)) rfl (by kernel_rfl) (by kernel_rfl) (by kernel_rfl) (fun _ _ _ h => h) (.inl ⟨by rfl, fun w' hSw => ?_⟩) hHeld ?_
    focus (have q := hSw.1; have q0 := q.cell 0; have q1 := q.cell 1; have q2 := q.cell 2; have q3 := q.cell 3; have q4 := q.cell 4; simp only [List.getElem?_cons_zero, List.getElem?_cons_succ] at q0 q1 q2 q3 q4; clear hHeld; go_simp)
    try simp only [Act.put, List.setIfInBounds_toArray, List.set_cons_zero, List.set_cons_succ]
    refine wpAnyH_take (i := 2) (oi := ⟨some 24, _, _, _, _, _⟩) (v := .pointer (some ⟨W.heap.size, 0, none⟩)) rfl (by kernel_rfl) (by kernel_rfl) (by kernel_rfl) (fun _ _ _ h => h) (.inl ⟨by rfl, fun w' hSw => ?_⟩) hHeld ?_
    focus (skip; clear hHeld; go_simp)
    try simp only [Act.put, List.setIfInBounds_toArray, List.set_cons_zero, List.set_cons_succ]
    refine wpAnyH_take (i := 3) (oi := ⟨some 25, _, _, _, _, _⟩) (v := .slice (some ⟨tb, 0, none⟩) ts.length c) rfl (by kernel_rfl) (by kernel_rfl) (by kernel_rfl) (fun _ _ _ h => h) (.inl ⟨by rfl, fun w' hSw => ?_⟩) hHeld ?_
    focus (have q := hSw.1; have q0 := q.cell 0; have q1 := q.cell 1; have q2 := q.cell 2; have q3 := q.cell 3; have q4 := q.cell 4; simp only [List.getElem?_cons_zero, List.getElem?_cons_succ] at q0 q1 q2 q3 q4; clear hHeld; go_simp)
    try simp only [Act.put, List.setIfInBounds_toArray, List.set_cons_zero, List.set_cons_succ]
    refine wpAnyH_take (i := 4) (oi := ⟨some 26, _, _, _, _, _⟩) (v := .pointer (some ⟨W.heap.size, 1, none⟩)) rfl (by kernel_rfl) (by kernel_rfl) (by kernel_rfl) (fun _ _ _ h => h) (.inl ⟨by rfl, fun w' hSw => ?_⟩) hHeld ?_
    focus (skip; clear hHeld; go_simp)
    try simp only [Act.put, List.setIfInBounds_toArray, List.set_cons_zero, List.set_cons_succ]
    refine wpAnyH_take (i := 5) (oi := ⟨some 27, _, _, _, _, _⟩) (v := .int .i64 (s.i : Nat)) rfl (by kernel_rfl) (by kernel_rfl) (by kernel_rfl) (fun _ _ _ h => h) (.inl ⟨by rfl, fun w' hSw => ?_⟩) hHeld ?_
    focus (have q := hSw.1; have q0 := q.cell 0; have q1 := q.cell 1; have q2 := q.cell 2; have q3 := q.cell 3; have q4 := q.cell 4; simp only [List.getElem?_cons_zero, List.getElem?_cons_succ] at q0 q1 q2 q3 q4; clear hHeld; go_simp)
    try simp only [Act.put, List.setIfInBounds_toArray, List.set_cons_zero, List.set_cons_succ]
    refine wpAnyH_take (i := 6) (oi := ⟨some 28, _, _, _, _, _⟩) (v := .pointer (some ⟨tb, s.i * 3, none⟩)) rfl (by kernel_rfl) (by kernel_rfl) (by kernel_rfl) (fun _ _ _ h => h) (.inl ⟨by rfl, fun w' hSw => ?_⟩) hHeld ?_
    focus (skip; clear hHeld; go_simp)
    try simp only [Act.put, List.setIfInBounds_toArray, List.set_cons_zero, List.set_cons_succ]
    refine wpAnyH_take (i := 7) (oi := ⟨some 29, _, _, _, _, _⟩) (v := .pointer (some ⟨tb, s.i * 3 + 2, none⟩)) rfl (by kernel_rfl) (by kernel_rfl) (by kernel_rfl) (fun _ _ _ h => h) (.inl ⟨by rfl, fun w' hSw => ?_⟩) hHeld ?_
    focus (skip; clear hHeld; go_simp)
    try simp only [Act.put, List.setIfInBounds_toArray, List.set_cons_zero, List.set_cons_succ]
    refine wpAnyH_take (i := 8) (oi := ⟨some 30, _, _, _, _, _⟩) (v := .int .i64 of) rfl (by kernel_rfl) (by kernel_rfl) (by kernel_rfl) (fun _ _ _ h => h) (.inl ⟨by rfl, fun w' hSw => ?_⟩) hHeld ?_
    focus (have q := hSw.2; clear hHeld; go_simp)
    try simp only [Act.put, List.setIfInBounds_toArray, List.set_cons_zero, List.set_cons_succ]
    refine wpAnyH_take (i := 9) (oi := ⟨some 2, _, _, _, _, _⟩) (v := .int .i64 (k : Nat)) rfl (by kernel_rfl) (by kernel_rfl) (by kernel_rfl) (fun _ _ _ h => h) (.inl ⟨by rfl, fun w' hSw => ?_⟩) hHeld ?_
    focus (skip; clear hHeld; go_simp)
    try simp only [Act.put, List.setIfInBounds_toArray, List.set_cons_zero, List.set_cons_succ]
    refine wpAnyH_take (i := 10) (oi := ⟨some 3, _, _, _, _, _⟩) (v := .int .i64 of) rfl (by kernel_rfl) (by kernel_rfl) (by kernel_rfl) (fun _ _ _ h => h) (.inl ⟨by rfl, fun w' hSw => ?_⟩) hHeld ?_
    focus (skip; clear hHeld; go_simp)
    try simp only [Act.put, List.setIfInBounds_toArray, List.set_cons_zero, List.set_cons_succ]
    refine wpAnyH_done (by kernel_rfl) ?_ _
    go_wp2_with fail
    refine bodyPost_ret (results_tmp2 rfl _ _ _) rfl ⟨?_, HB.out⟩
    rw [HK.out.1, HK.out.2]
    rfl
end
end Go.Proofs.YteieimchleioaaaDoor
/-
  A step of a region that draws its order, which may be guarded: a call by its contract.
-/
namespace Go.Proofs.YteieimchleioaaaDoor
open Go.ChangeShapes Go.WideShapes Go.ChangeAt Go.RowKit
set_option linter.unusedVariables false
theorem stepw_call {P : Program} {ops : Array Oper} {o : Oper} {a : Act} {w : World} {K : Act → World → Prop} {Q : Exit → Act → World → Prop} {E : Prop} {f : FuncId} {args : Array Value} {R : Value → World → Prop}
    (hw : Region.wanted o (yielded ops a.tmps) = true) (hrun : (execOp a.eval o).run P w = .ok (.enter f args) w) (hc : Calls P f args w fun e w' => ∃ v, e = .returned v ∧ R v w')
    (hK : ∀ v w', R v w' → K (a.put o.dst v) w') : if Region.wanted o (yielded ops a.tmps) = true then Oper.wp P o a w K Q else E := by
  rw [if_pos hw]
  unfold Oper.wp
  rw [hrun]
  simp only [Oper.upon]
  refine hc.mono fun e w' ⟨v, he, hr⟩ => ?_
  subst he
  exact hK v w' hr
end Go.Proofs.YteieimchleioaaaDoor
