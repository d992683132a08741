/-
  The reference's finish; how far the reference's reading stands for what a text is read as.
-/
import Derived.Test.YteieimchleioaaaDoorMt0
import Derived.Test.YteieimchleioaaaDoorMg2
import Derived.Deep.CutBlock
import Derived.Deep.CutRange
import Derived.IntWalk
import Derived.Deep.RegionLaw
import Derived.Test.YteieimchleioaaaDoorMg7
namespace Go.Proofs.YteieimchleioaaaDoor
open Go.ChangeShapes Go.WideShapes Go.ChangeAt Go.RowKit
set_option linter.unusedVariables false

def finK (ts : List Tok) (k i : Nat) : Nat := if k = 0 then (if (ts.getD i tok0).1 = 3 then 0 else 6) else k
def finO (ts : List Tok) (k i : Nat) : Int := if finK ts k i = 0 then 0 else offs ts i
theorem cell_kp {w w' : World} {g b : Nat} (hk : Kp g w w') (hb : b < w.heap.size) (hne : b ≠ g) (n : Nat) : w'.cell? ⟨b, n, none⟩ = w.cell? ⟨b, n, none⟩ := World.cell?_of_block (hk.2.2.2.2 b hb hne)
theorem fin_a {ts : List Tok} {k i : Nat} (hk : k = 0) (h3 : (ts.getD i tok0).1 = 3) : finK ts k i = 0 ∧ finO ts k i = 0 := by
  have h1 : finK ts k i = 0 := by unfold finK; rw [if_pos hk, if_pos h3]
  exact ⟨h1, by unfold finO; rw [if_pos h1]⟩
theorem fin_b {ts : List Tok} {k i : Nat} (hk : k = 0) (h3 : ¬ (ts.getD i tok0).1 = 3) : finK ts k i = 6 ∧ finO ts k i = offs ts i := by
  have h1 : finK ts k i = 6 := by unfold finK; rw [if_pos hk, if_neg h3]
  exact ⟨h1, by unfold finO; rw [if_neg (by rw [h1]; decide)]⟩
theorem fin_c {ts : List Tok} {k i : Nat} (hk : ¬ k = 0) : finK ts k i = k ∧ finO ts k i = offs ts i := by
  have h1 : finK ts k i = k := by unfold finK; rw [if_neg hk]
  exact ⟨h1, by unfold finO; rw [if_neg (by rw [h1]; exact hk)]⟩
theorem fin_read {α : Type} {rule : List Tok → PS → PR α} {l : List UInt8} (h0 : (tokS l).2.1 = 0) {k i o m : Nat} {x : α} (h : Go1 (tokS l).1 k i o m x (rule (tokS l).1 ps0)) : readF rule l = if finK (tokS l).1 k i = 0 then .ok x else .bad (finK (tokS l).1 k i) (offT (tokS l).1 i) := by
  obtain ⟨h1, h2, ⟨h3, h4⟩ | ⟨h3, h4⟩⟩ := h
  · unfold finK
    rw [if_pos h3]
    by_cases he : ((tokS l).1.getD i tok0).1 = 3
    · rw [if_pos he, if_pos rfl]
      exact readF_ok h0 h4 he
    · rw [if_neg he, if_neg (by decide)]
      exact readF_more h0 h4 he
  · unfold finK
    rw [if_neg h3, if_neg h3]
    exact readF_bad h0 h4
theorem consT_texts {t : Tok} {r : Toks} {n : Nat} (ht : t.2.1.length ≤ n) (hr : ∀ u ∈ r.1, u.2.1.length ≤ n) : ∀ u ∈ (consT t r).1, u.2.1.length ≤ n := fun u hu => by
  rcases consT_mem hu with rfl | h
  · exact ht
  · exact hr u h
theorem tokF_texts : ∀ (n i : Nat) (l : List UInt8) (M : Nat), l.length ≤ M → 2 ≤ M → ∀ t ∈ (tokF n i l).1, t.2.1.length ≤ M
  | 0, i, l, M, _, _ => fun t h => by simp [tokF] at h
  | n + 1, i, [], M, _, _ => fun t h => by simp [tokF] at h; subst h; show ([] : List UInt8).length ≤ M; simp
  | n + 1, i, c :: r, M, hM, h2 => by
    simp only [List.length_cons] at hM
    unfold tokF
    split
    · split
      · refine consT_texts ?_ (tokF_texts n _ _ M (by rw [List.length_drop, List.length_cons]; omega) h2)
        exact Nat.le_trans (List.takeWhile_sublist _).length_le (by simpa using hM)
      · intro t h; cases h
    · split
      · exact tokF_texts n _ _ M (by omega) h2
      · split
        · exact tokF_texts n _ _ M (by rw [List.length_drop, List.length_cons]; omega) h2
        · split
          · exact consT_texts h2 (tokF_texts n _ _ M (by rw [List.length_drop]; omega) h2)
          · split
            · exact consT_texts (show 1 ≤ M by omega) (tokF_texts n _ _ M (by omega) h2)
            · intro t h; cases h
theorem tokS_okB {l : List UInt8} (h0 : (tokS l).2.1 = 0) (hl : l.length ≤ 65536) : OkB (tokS l).1 := by
  refine ⟨tokF_ok _ _ _ (Nat.lt_succ_self _) h0, fun i => ?_⟩
  unfold txt
  rw [List.getD_eq_getElem?_getD]
  cases h : (tokS l).1[i]? with
  | none => exact Nat.zero_le _
  | some t => exact tokF_texts _ 0 l 100000 (by omega) (by decide) t (List.mem_of_getElem? h)
section
variable {W : World} {tb c k : Nat} {ts : List Tok} {s : PS}
set_option maxRecDepth 100000 in
set_option maxHeartbeats 4000000 in
theorem rfin_any (h : RT W tb ts) (hi : s.i < ts.length) : Calls Tryd.prog 23 #[.agg #[.slice (some ⟨tb, 0, none⟩) ts.length c, .int .i64 (s.i : Nat), .int .i64 (k : Nat), .int .i64 (s.o : Nat), .int .i64 (s.l : Nat)]] W fun e w' => e = .returned (.tuple #[.int .i64 (finK ts k s.i : Nat), .int .i64 (finO ts k s.i)]) ∧ Below W.heap.size W w' := by
  have hb1 : Below W.heap.size W (W.alloc (.cells #[.slice (some ⟨tb, 0, none⟩) ts.length c, .int .i64 (s.i : Nat), .int .i64 (k : Nat), .int .i64 (s.o : Nat), .int .i64 (s.l : Nat)] 68)) := (Below.refl _ _).alloc (Nat.le_refl _) _
  have HB := Lib.hid hb1
  have HA : Hid (Arr (W.alloc (.cells #[.slice (some ⟨tb, 0, none⟩) ts.length c, .int .i64 (s.i : Nat), .int .i64 (k : Nat), .int .i64 (s.o : Nat), .int .i64 (s.l : Nat)] 68)) 68 W.heap.size [.slice (some ⟨tb, 0, none⟩) ts.length c, .int .i64 (s.i : Nat), .int .i64 (k : Nat), .int .i64 (s.o : Nat), .int .i64 (s.l : Nat)]) := Arr.new' _ _ _ _ rfl
  have HZ : Hid (tb < W.heap.size) := h.1
  have hT := h.later hb1
  have hz0 : (0 : Int) ≤ s.i := by omega
  have hz2 : (s.i : Int) < ts.length := by omega
  have t0 : (W.alloc (.cells #[.slice (some ⟨tb, 0, none⟩) ts.length c, .int .i64 (s.i : Nat), .int .i64 (k : Nat), .int .i64 (s.o : Nat), .int .i64 (s.l : Nat)] 68)).cell? ⟨tb, s.i * 3, none⟩ = some (.int .i64 (ts.getD s.i tok0).1) := hT.2.2 s.i hi 0 (by decide)
  have t2 : (W.alloc (.cells #[.slice (some ⟨tb, 0, none⟩) ts.length c, .int .i64 (s.i : Nat), .int .i64 (k : Nat), .int .i64 (s.o : Nat), .int .i64 (s.l : Nat)] 68)).cell? ⟨tb, s.i * 3 + 2, none⟩ = some (.int .i64 (offs ts s.i)) := hT.2.2 s.i hi 2 (by decide)
  obtain ⟨kd, hkd⟩ : ∃ x, x = (ts.getD s.i tok0).1 := ⟨_, rfl⟩
  obtain ⟨of, hof⟩ : ∃ x, x = offs ts s.i := ⟨_, rfl⟩
  rw [← hkd] at t0
  rw [← hof] at t2
  have HT := Lib.hid t2
  have HKD := Lib.hid hkd
  have HOF := Lib.hid hof
  clear h hi hb1 hT hkd hof
  by_cases hk : k = 0
  · have hk5 : ((k : Int) == 0) = true := by simp [hk]
    by_cases h3 : kd = 3
    · have h3' : (kd != 3) = false := by rw [h3]; rfl
      have HK := Lib.hid (fin_a (ts := ts) (i := s.i) hk (HKD.out.symm.trans h3))
      clear h3 hk t2
      go_enter Tryd.func23, Tryd.ntmps23
      have x0 := HA.out.cell 0
      have y0 := HA.out.free 0
      have x1 := HA.out.cell 1
      have y1 := HA.out.free 1
      have x2 := HA.out.cell 2
      have y2 := HA.out.free 2
      have x3 := HA.out.cell 3
      have y3 := HA.out.free 3
      have x4 := HA.out.cell 4
      have y4 := HA.out.free 4
      simp only [List.getElem?_cons_zero, List.getElem?_cons_succ] at x0 x1 x2 x3 x4
      go_wp2_with fail
      refine bodyPost_ret (results_tmp2 rfl _ _ _) rfl ⟨?_, HB.out⟩
      rw [HK.out.1, HK.out.2]
      rfl
    · have h3' : (kd != 3) = true := bne_iff_ne.2 h3
      have HK : Hid (finK ts k s.i = 6 ∧ finO ts k s.i = of) := by
        have h := fin_b (ts := ts) (i := s.i) hk (fun h => h3 (HKD.out.trans h))
        exact ⟨h.1, h.2.trans HOF.out.symm⟩
      have HK0 := Lib.hid hk
      have HBD := Lib.hid (rbad_any (c := c) (k := k) (tb := tb) (ts := ts) (s := s) (W := (W.alloc (.cells #[.slice (some ⟨tb, 0, none⟩) ts.length c, .int .i64 (s.i : Nat), .int .i64 (k : Nat), .int .i64 (s.o : Nat), .int .i64 (s.l : Nat)] 68))) 6)
      clear h3 hk t2
      go_enter Tryd.func23, Tryd.ntmps23
      have x0 := HA.out.cell 0
      have y0 := HA.out.free 0
      have x1 := HA.out.cell 1
      have y1 := HA.out.free 1
      have x2 := HA.out.cell 2
      have y2 := HA.out.free 2
      have x3 := HA.out.cell 3
      have y3 := HA.out.free 3
      have x4 := HA.out.cell 4
      have y4 := HA.out.free 4
      simp only [List.getElem?_cons_zero, List.getElem?_cons_succ] at x0 x1 x2 x3 x4
      go_wp2_with fail
      clear x0 y0 x1 y1 x2 y2 x3 y3 x4 y4
      clear t0
      refine HBD.out.mono ?_
      rintro r w3 ⟨k', hk', rfl, b3⟩
      have HK6 : Hid (k' = 6) := hk'.trans (if_pos HK0.out)
      have hk6 : ((k' : Int) == 0) = false := by rw [HK6.out]; rfl
      have HA := Lib.hid (HA.out.later b3)
      have HT : Hid (w3.cell? ⟨tb, s.i * 3 + 2, none⟩ = some (.int .i64 of)) := (b3.cell (p := ⟨tb, s.i * 3 + 2, none⟩) (Nat.lt_of_lt_of_le HZ.out HB.out.size)).trans HT.out
      have HB := Lib.hid (HB.out.trans (b3.mono HB.out.size))
      clear b3 hk' HBD
      have x0 := HA.out.cell 0
      have y0 := HA.out.free 0
      have x1 := HA.out.cell 1
      have y1 := HA.out.free 1
      have x2 := HA.out.cell 2
      have y2 := HA.out.free 2
      have x3 := HA.out.cell 3
      have y3 := HA.out.free 3
      have x4 := HA.out.cell 4
      have y4 := HA.out.free 4
      simp only [List.getElem?_cons_zero, List.getElem?_cons_succ] at x0 x1 x2 x3 x4
      go_upto_region 3 with (fail)
      clear x0 y0 x1 y1 x2 y2 x3 y3 x4 y4
      have hkp := kp_setP w3 W.heap.size (.slice (some ⟨tb, 0, none⟩) ts.length c) (.int .i64 (s.i : Nat)) (.int .i64 (k' : Nat)) (.int .i64 (s.o : Nat)) (.int .i64 (s.l : Nat))
      have HT : Hid ((((((w3.setCell ⟨W.heap.size, 0, none⟩ (.slice (some ⟨tb, 0, none⟩) ts.length c)).setCell ⟨W.heap.size, 1, none⟩ (.int .i64 (s.i : Nat))).setCell ⟨W.heap.size, 2, none⟩ (.int .i64 (k' : Nat))).setCell ⟨W.heap.size, 3, none⟩ (.int .i64 (s.o : Nat))).setCell ⟨W.heap.size, 4, none⟩ (.int .i64 (s.l : Nat))).cell? ⟨tb, s.i * 3 + 2, none⟩ = some (.int .i64 of)) := (cell_kp hkp (Nat.lt_of_lt_of_le HZ.out HB.out.size) (by have := HZ.out; omega) _).trans HT.out
      have HA : Hid (Arr (((((w3.setCell ⟨W.heap.size, 0, none⟩ (.slice (some ⟨tb, 0, none⟩) ts.length c)).setCell ⟨W.heap.size, 1, none⟩ (.int .i64 (s.i : Nat))).setCell ⟨W.heap.size, 2, none⟩ (.int .i64 (k' : Nat))).setCell ⟨W.heap.size, 3, none⟩ (.int .i64 (s.o : Nat))).setCell ⟨W.heap.size, 4, none⟩ (.int .i64 (s.l : Nat))) 68 W.heap.size [.slice (some ⟨tb, 0, none⟩) ts.length c, .int .i64 (s.i : Nat), .int .i64 (k' : Nat), .int .i64 (s.o : Nat), .int .i64 (s.l : Nat)]) := HA.out.setP _ _ _ _ _
      have HB := Lib.hid (HB.out.trans (hkp.below (B := W.heap.size) (Nat.le_refl _) HB.out.size))
      clear hkp
      generalize (((((w3.setCell ⟨W.heap.size, 0, none⟩ (.slice (some ⟨tb, 0, none⟩) ts.length c)).setCell ⟨W.heap.size, 1, none⟩ (.int .i64 (s.i : Nat))).setCell ⟨W.heap.size, 2, none⟩ (.int .i64 (k' : Nat))).setCell ⟨W.heap.size, 3, none⟩ (.int .i64 (s.o : Nat))).setCell ⟨W.heap.size, 4, none⟩ (.int .i64 (s.l : Nat))) = w4 at HT HA HB ⊢
      have x0 := HA.out.cell 0
      have y0 := HA.out.free 0
      have x1 := HA.out.cell 1
      have y1 := HA.out.free 1
      have x2 := HA.out.cell 2
      have y2 := HA.out.free 2
      have x3 := HA.out.cell 3
      have y3 := HA.out.free 3
      have x4 := HA.out.cell 4
      have y4 := HA.out.free 4
      simp only [List.getElem?_cons_zero, List.getElem?_cons_succ] at x0 x1 x2 x3 x4
      go_upto_region 5 with (fail)
      clear x0 y0 x1 y1 x2 y2 x3 y3 x4 y4
      have hb7 : Below w4.heap.size w4 w4.drew := (Below.refl _ _).drew
      have HB := Lib.hid (HB.out.trans (hb7.mono HB.out.size))
      refine wp_region_held_drew (S := fun W' => Arr W' 68 W.heap.size [.slice (some ⟨tb, 0, none⟩) ts.length c, .int .i64 (s.i : Nat), .int .i64 (k' : Nat), .int .i64 (s.o : Nat), .int .i64 (s.l : Nat)] ∧ W'.cell? ⟨tb, s.i * 3 + 2, none⟩ = some (.int .i64 of)) (by kernel_rfl) ⟨HA.out.later hb7, HT.out⟩ (fun hHeld => ?_)
      try simp only [Act.put]
      generalize w4.drew = w9 at hHeld HB ⊢
      clear hb7
      refine wpAnyH_take (i := 0) (oi := ⟨some 22, _, _, _, _, _⟩) (v := .pointer (some ⟨W.heap.size, 2, none⟩)) rfl (by kernel_rfl) (by kernel_rfl) (by kernel_rfl) (fun _ _ _ h => h) (.inl ⟨by rfl, fun w' hSw => ?_⟩) hHeld ?_
      focus (skip; clear hHeld; go_simp)
      try simp only [Act.put, List.setIfInBounds_toArray, List.set_cons_zero, List.set_cons_succ]
      refine wpAnyH_take (i := 1) (oi := ⟨some 23, _, _, _, _, _⟩) (v := .int .i64 (k' : Nat)) rfl (by kernel_rfl) (by kernel_rfl) (by kernel_rfl) (fun _ _ _ h => h) (.inl ⟨by rfl, fun w' hSw => ?_⟩) hHeld ?_
      focus (have q := hSw.1; have q0 := q.cell 0; have q1 := q.cell 1; have q2 := q.cell 2; have q3 := q.cell 3; have q4 := q.cell 4; simp only [List.getElem?_cons_zero, List.getElem?_cons_succ] at q0 q1 q2 q3 q4; clear hHeld; go_simp)
      try simp only [Act.put, List.setIfInBounds_toArray, List.set_cons_zero, List.set_cons_succ]
      refine wpAnyH_take (i := 2) (oi := ⟨some 24, _, _, _, _, _⟩) (v := .pointer (some ⟨W.heap.size, 0, none⟩)) rfl (by kernel_rfl) (by kernel_rfl) (by kernel_rfl) (fun _ _ _ h => h) (.inl ⟨by rfl, fun w' hSw => ?_⟩) hHeld ?_
      focus (skip; clear hHeld; go_simp)
      try simp only [Act.put, List.setIfInBounds_toArray, List.set_cons_zero, List.set_cons_succ]
      refine wpAnyH_take (i := 3) (oi := ⟨some 25, _, _, _, _, _⟩) (v := .slice (some ⟨tb, 0, none⟩) ts.length c) rfl (by kernel_rfl) (by kernel_rfl) (by kernel_rfl) (fun _ _ _ h => h) (.inl ⟨by rfl, fun w' hSw => ?_⟩) hHeld ?_
      focus (have q := hSw.1; have q0 := q.cell 0; have q1 := q.cell 1; have q2 := q.cell 2; have q3 := q.cell 3; have q4 := q.cell 4; simp only [List.getElem?_cons_zero, List.getElem?_cons_succ] at q0 q1 q2 q3 q4; clear hHeld; go_simp)
      try simp only [Act.put, List.setIfInBounds_toArray, List.set_cons_zero, List.set_cons_succ]
      refine wpAnyH_take (i := 4) (oi := ⟨some 26, _, _, _, _, _⟩) (v := .pointer (some ⟨W.heap.size, 1, none⟩)) rfl (by kernel_rfl) (by kernel_rfl) (by kernel_rfl) (fun _ _ _ h => h) (.inl ⟨by rfl, fun w' hSw => ?_⟩) hHeld ?_
      focus (skip; clear hHeld; go_simp)
      try simp only [Act.put, List.setIfInBounds_toArray, List.set_cons_zero, List.set_cons_succ]
      refine wpAnyH_take (i := 5) (oi := ⟨some 27, _, _, _, _, _⟩) (v := .int .i64 (s.i : Nat)) rfl (by kernel_rfl) (by kernel_rfl) (by kernel_rfl) (fun _ _ _ h => h) (.inl ⟨by rfl, fun w' hSw => ?_⟩) hHeld ?_
      focus (have q := hSw.1; have q0 := q.cell 0; have q1 := q.cell 1; have q2 := q.cell 2; have q3 := q.cell 3; have q4 := q.cell 4; simp only [List.getElem?_cons_zero, List.getElem?_cons_succ] at q0 q1 q2 q3 q4; clear hHeld; go_simp)
      try simp only [Act.put, List.setIfInBounds_toArray, List.set_cons_zero, List.set_cons_succ]
      refine wpAnyH_take (i := 6) (oi := ⟨some 28, _, _, _, _, _⟩) (v := .pointer (some ⟨tb, s.i * 3, none⟩)) rfl (by kernel_rfl) (by kernel_rfl) (by kernel_rfl) (fun _ _ _ h => h) (.inl ⟨by rfl, fun w' hSw => ?_⟩) hHeld ?_
      focus (skip; clear hHeld; go_simp)
      try simp only [Act.put, List.setIfInBounds_toArray, List.set_cons_zero, List.set_cons_succ]
      refine wpAnyH_take (i := 7) (oi := ⟨some 29, _, _, _, _, _⟩) (v := .pointer (some ⟨tb, s.i * 3 + 2, none⟩)) rfl (by kernel_rfl) (by kernel_rfl) (by kernel_rfl) (fun _ _ _ h => h) (.inl ⟨by rfl, fun w' hSw => ?_⟩) hHeld ?_
      focus (skip; clear hHeld; go_simp)
      try simp only [Act.put, List.setIfInBounds_toArray, List.set_cons_zero, List.set_cons_succ]
      refine wpAnyH_take (i := 8) (oi := ⟨some 30, _, _, _, _, _⟩) (v := .int .i64 of) rfl (by kernel_rfl) (by kernel_rfl) (by kernel_rfl) (fun _ _ _ h => h) (.inl ⟨by rfl, fun w' hSw => ?_⟩) hHeld ?_
      focus (have q := hSw.2; clear hHeld; go_simp)
      try simp only [Act.put, List.setIfInBounds_toArray, List.set_cons_zero, List.set_cons_succ]
      refine wpAnyH_take (i := 9) (oi := ⟨some 2, _, _, _, _, _⟩) (v := .int .i64 (k' : Nat)) rfl (by kernel_rfl) (by kernel_rfl) (by kernel_rfl) (fun _ _ _ h => h) (.inl ⟨by rfl, fun w' hSw => ?_⟩) hHeld ?_
      focus (skip; clear hHeld; go_simp)
      try simp only [Act.put, List.setIfInBounds_toArray, List.set_cons_zero, List.set_cons_succ]
      refine wpAnyH_take (i := 10) (oi := ⟨some 3, _, _, _, _, _⟩) (v := .int .i64 of) rfl (by kernel_rfl) (by kernel_rfl) (by kernel_rfl) (fun _ _ _ h => h) (.inl ⟨by rfl, fun w' hSw => ?_⟩) hHeld ?_
      focus (skip; clear hHeld; go_simp)
      try simp only [Act.put, List.setIfInBounds_toArray, List.set_cons_zero, List.set_cons_succ]
      refine wpAnyH_done (by kernel_rfl) ?_ _
      go_wp2_with fail
      refine bodyPost_ret (results_tmp2 rfl _ _ _) rfl ⟨?_, HB.out⟩
      rw [HK.out.1, HK.out.2, ← HK6.out]
      rfl
  · have hk5 : ((k : Int) == 0) = false := by
      have : ¬ (k : Int) = 0 := by omega
      simpa using this
    have HK : Hid (finK ts k s.i = k ∧ finO ts k s.i = of) := by
      have h := fin_c (ts := ts) (i := s.i) hk
      exact ⟨h.1, h.2.trans HOF.out.symm⟩
    clear hk t0 t2
    go_enter Tryd.func23, Tryd.ntmps23
    have x0 := HA.out.cell 0
    have y0 := HA.out.free 0
    have x1 := HA.out.cell 1
    have y1 := HA.out.free 1
    have x2 := HA.out.cell 2
    have y2 := HA.out.free 2
    have x3 := HA.out.cell 3
    have y3 := HA.out.free 3
    have x4 := HA.out.cell 4
    have y4 := HA.out.free 4
    simp only [List.getElem?_cons_zero, List.getElem?_cons_succ] at x0 x1 x2 x3 x4
    go_upto_region 5 with (fail)
    clear x0 y0 x1 y1 x2 y2 x3 y3 x4 y4
    generalize (W.alloc (.cells #[.slice (some ⟨tb, 0, none⟩) ts.length c, .int .i64 (s.i : Nat), .int .i64 (k : Nat), .int .i64 (s.o : Nat), .int .i64 (s.l : Nat)] 68)) = w4 at HT HA HB ⊢
    have hb7 : Below w4.heap.size w4 w4.drew := (Below.refl _ _).drew
    have HB := Lib.hid (HB.out.trans (hb7.mono HB.out.size))
    refine wp_region_held_drew (S := fun W' => Arr W' 68 W.heap.size [.slice (some ⟨tb, 0, none⟩) ts.length c, .int .i64 (s.i : Nat), .int .i64 (k : Nat), .int .i64 (s.o : Nat), .int .i64 (s.l : Nat)] ∧ W'.cell? ⟨tb, s.i * 3 + 2, none⟩ = some (.int .i64 of)) (by kernel_rfl) ⟨HA.out.later hb7, HT.out⟩ (fun hHeld => ?_)
    try simp only [Act.put]
    generalize w4.drew = w9 at hHeld HB ⊢
    clear hb7
    refine wpAnyH_take (i := 0) (oi := ⟨some 22, _, _, _, _, _⟩) (v := .pointer (some ⟨W.heap.size, 2, none⟩)) rfl (by kernel_rfl) (by kernel_rfl) (by kernel_rfl) (fun _ _ _ h => h) (.inl ⟨by rfl, fun w' hSw => ?_⟩) hHeld ?_
    focus (skip; clear hHeld; go_simp)
    try simp only [Act.put, List.setIfInBounds_toArray, List.set_cons_zero, List.set_cons_succ]
    refine wpAnyH_take (i := 1) (oi := ⟨some 23, _, _, _, _, _⟩) (v := .int .i64 (k : Nat)) rfl (by kernel_rfl) (by kernel_rfl) (by kernel_rfl) (fun _ _ _ h => h) (.inl ⟨by rfl, fun w' hSw => ?_⟩) hHeld ?_
    focus (have q := hSw.1; have q0 := q.cell 0; have q1 := q.cell 1; have q2 := q.cell 2; have q3 := q.cell 3; have q4 := q.cell 4; simp only [List.getElem?_cons_zero, List.getElem?_cons_succ] at q0 q1 q2 q3 q4; clear hHeld; go_simp)
    try simp only [Act.put, List.setIfInBounds_toArray, List.set_cons_zero, List.set_cons_succ]
    refine wpAnyH_take (i := 2) (oi := ⟨some 24, _, _, _, _, _⟩) (v := .pointer (some ⟨W.heap.size, 0, none⟩)) rfl (by kernel_rfl) (by kernel_rfl) (by kernel_rfl) (fun _ _ _ h => h) (.inl ⟨by rfl, fun w' hSw => ?_⟩) hHeld ?_
    focus (skip; clear hHeld; go_simp)
    try simp only [Act.put, List.setIfInBounds_toArray, List.set_cons_zero, List.set_cons_succ]
    refine wpAnyH_take (i := 3) (oi := ⟨some 25, _, _, _, _, _⟩) (v := .slice (some ⟨tb, 0, none⟩) ts.length c) rfl (by kernel_rfl) (by kernel_rfl) (by kernel_rfl) (fun _ _ _ h => h) (.inl ⟨by rfl, fun w' hSw => ?_⟩) hHeld ?_
    focus (have q := hSw.1; have q0 := q.cell 0; have q1 := q.cell 1; have q2 := q.cell 2; have q3 := q.cell 3; have q4 := q.cell 4; simp only [List.getElem?_cons_zero, List.getElem?_cons_succ] at q0 q1 q2 q3 q4; clear hHeld; go_simp)
    try simp only [Act.put, List.setIfInBounds_toArray, List.set_cons_zero, List.set_cons_succ]
    refine wpAnyH_take (i := 4) (oi := ⟨some 26, _, _, _, _, _⟩) (v := .pointer (some ⟨W.heap.size, 1, none⟩)) rfl (by kernel_rfl) (by kernel_rfl) (by kernel_rfl) (fun _ _ _ h => h) (.inl ⟨by rfl, fun w' hSw => ?_⟩) hHeld ?_
    focus (skip; clear hHeld; go_simp)
    try simp only [Act.put, List.setIfInBounds_toArray, List.set_cons_zero, List.set_cons_succ]
    refine wpAnyH_take (i := 5) (oi := ⟨some 27, _, _, _, _, _⟩) (v := .int .i64 (s.i : Nat)) rfl (by kernel_rfl) (by kernel_rfl) (by kernel_rfl) (fun _ _ _ h => h) (.inl ⟨by rfl, fun w' hSw => ?_⟩) hHeld ?_
    focus (have q := hSw.1; have q0 := q.cell 0; have q1 := q.cell 1; have q2 := q.cell 2; have q3 := q.cell 3; have q4 := q.cell 4; simp only [List.getElem?_cons_zero, List.getElem?_cons_succ] at q0 q1 q2 q3 q4; clear hHeld; go_simp)
    try simp only [Act.put, List.setIfInBounds_toArray, List.set_cons_zero, List.set_cons_succ]
    refine wpAnyH_take (i := 6) (oi := ⟨some 28, _, _, _, _, _⟩) (v := .pointer (some ⟨tb, s.i * 3, none⟩)) rfl (by kernel_rfl) (by kernel_rfl) (by kernel_rfl) (fun _ _ _ h => h) (.inl ⟨by rfl, fun w' hSw => ?_⟩) hHeld ?_
    focus (skip; clear hHeld; go_simp)
    try simp only [Act.put, List.setIfInBounds_toArray, List.set_cons_zero, List.set_cons_succ]
    refine wpAnyH_take (i := 7) (oi := ⟨some 29, _, _, _, _, _⟩) (v := .pointer (some ⟨tb, s.i * 3 + 2, none⟩)) rfl (by kernel_rfl) (by kernel_rfl) (by kernel_rfl) (fun _ _ _ h => h) (.inl ⟨by rfl, fun w' hSw => ?_⟩) hHeld ?_
    focus (skip; clear hHeld; go_simp)
    try simp only [Act.put, List.setIfInBounds_toArray, List.set_cons_zero, List.set_cons_succ]
    refine wpAnyH_take (i := 8) (oi := ⟨some 30, _, _, _, _, _⟩) (v := .int .i64 of) rfl (by kernel_rfl) (by kernel_rfl) (by kernel_rfl) (fun _ _ _ h => h) (.inl ⟨by rfl, fun w' hSw => ?_⟩) hHeld ?_
    focus (have q := hSw.2; clear hHeld; go_simp)
    try simp only [Act.put, List.setIfInBounds_toArray, List.set_cons_zero, List.set_cons_succ]
    refine wpAnyH_take (i := 9) (oi := ⟨some 2, _, _, _, _, _⟩) (v := .int .i64 (k : Nat)) rfl (by kernel_rfl) (by kernel_rfl) (by kernel_rfl) (fun _ _ _ h => h) (.inl ⟨by rfl, fun w' hSw => ?_⟩) hHeld ?_
    focus (skip; clear hHeld; go_simp)
    try simp only [Act.put, List.setIfInBounds_toArray, List.set_cons_zero, List.set_cons_succ]
    refine wpAnyH_take (i := 10) (oi := ⟨some 3, _, _, _, _, _⟩) (v := .int .i64 of) rfl (by kernel_rfl) (by kernel_rfl) (by kernel_rfl) (fun _ _ _ h => h) (.inl ⟨by rfl, fun w' hSw => ?_⟩) hHeld ?_
    focus (skip; clear hHeld; go_simp)
    try simp only [Act.put, List.setIfInBounds_toArray, List.set_cons_zero, List.set_cons_succ]
    refine wpAnyH_done (by kernel_rfl) ?_ _
    go_wp2_with fail
    refine bodyPost_ret (results_tmp2 rfl _ _ _) rfl ⟨?_, HB.out⟩
    rw [HK.out.1, HK.out.2]
    rfl
end
end Go.Proofs.YteieimchleioaaaDoor
/-
  vestryref09.in, Tokens.
-/
namespace Go.Proofs.YteieimchleioaaaDoor
open Go.ChangeShapes Go.WideShapes Go.ChangeAt Go.RowKit
set_option linter.unusedVariables false

def ltL : List UInt8 := [97, 98, 99, 100, 101, 102, 103, 104, 105, 106, 107, 108, 109, 110, 111, 112, 113, 114, 115, 116, 117, 118, 119, 120, 121, 122, 65, 66, 67, 68, 69, 70, 71, 72, 73, 74, 75, 76, 77, 78, 79, 80, 81, 82, 83, 84, 85, 86, 87, 88, 89, 90, 48, 49, 50, 51, 52, 53, 54, 55, 56, 57, 95]
set_option maxRecDepth 100000 in
theorem in_any (s : ByteArray) (c : UInt8) (hs : s.size ≤ 1000000) (w : World) : Calls Tryd.prog 43 #[.string s, .int .u8 c.toNat] w fun e w' => e = .returned (.bool (decide (fnd s.data.toList c < s.size))) ∧ w = w' := by
  by_cases h : fnd s.data.toList c < s.size
  · have HD : Hid (decide (fnd s.data.toList c < s.size) = true) := decide_eq_true h
    have HC := Lib.hid (find_any s c hs w)
    rw [if_pos h] at HC
    have h1 : (0 : Int) ≤ (fnd s.data.toList c : Nat) := by omega
    clear h
    go_enter Tryd.func43, Tryd.ntmps43
    go_wp2_with fail
    refine HC.out.mono ?_
    rintro e w2 ⟨rfl, rfl⟩
    go_wp2_with fail
    go_ret
    exact ⟨by rw [HD.out]; rfl, rfl⟩
  · have HD : Hid (decide (fnd s.data.toList c < s.size) = false) := decide_eq_false h
    have HC := Lib.hid (find_any s c hs w)
    rw [if_neg h] at HC
    clear h
    go_enter Tryd.func43, Tryd.ntmps43
    go_wp2_with fail
    refine HC.out.mono ?_
    rintro e w2 ⟨rfl, rfl⟩
    go_wp2_with fail
    go_ret
    exact ⟨by rw [HD.out]; rfl, rfl⟩
theorem lt_fnd (c : UInt8) : decide (fnd ltL c < (bstr ltL).size) = wdB c := by
  have h : ∀ n : Fin 256, (decide (fnd ltL (UInt8.ofNat n.val) < (bstr ltL).size) == wdB (UInt8.ofNat n.val)) = true := by decide +kernel
  have hc : UInt8.ofNat c.toNat = c := UInt8.ofNat_toNat
  have := h ⟨c.toNat, c.toNat_lt⟩
  simp only [hc] at this
  exact beq_iff_eq.1 this
theorem in_lt (c : UInt8) (w : World) : Calls Tryd.prog 43 #[.string (bstr ltL), .int .u8 c.toNat] w fun e w' => e = .returned (.bool (wdB c)) ∧ w = w' := by
  have h := in_any (bstr ltL) c (by decide) w
  rw [bstr_data, lt_fnd] at h
  exact h
theorem sp_fnd (c : UInt8) : decide (fnd [32, 9, 10, 13] c < (bstr [32, 9, 10, 13]).size) = spB c := by
  have h : ∀ n : Fin 256, (decide (fnd [32, 9, 10, 13] (UInt8.ofNat n.val) < (bstr [32, 9, 10, 13]).size) == spB (UInt8.ofNat n.val)) = true := by decide +kernel
  have hc : UInt8.ofNat c.toNat = c := UInt8.ofNat_toNat
  have := h ⟨c.toNat, c.toNat_lt⟩
  simp only [hc] at this
  exact beq_iff_eq.1 this
theorem in_sp (c : UInt8) (w : World) : Calls Tryd.prog 43 #[.string (bstr [32, 9, 10, 13]), .int .u8 c.toNat] w fun e w' => e = .returned (.bool (spB c)) ∧ w = w' := by
  have h := in_any (bstr [32, 9, 10, 13]) c (by decide) w
  rw [bstr_data, sp_fnd] at h
  exact h
theorem sg_fnd (c : UInt8) : decide (fnd sgL c < (bstr sgL).size) = sgB c := by
  have h : ∀ n : Fin 256, (decide (fnd sgL (UInt8.ofNat n.val) < (bstr sgL).size) == sgB (UInt8.ofNat n.val)) = true := by decide +kernel
  have hc : UInt8.ofNat c.toNat = c := UInt8.ofNat_toNat
  have := h ⟨c.toNat, c.toNat_lt⟩
  simp only [hc] at this
  exact beq_iff_eq.1 this
theorem in_sg (c : UInt8) (w : World) : Calls Tryd.prog 43 #[.string (bstr sgL), .int .u8 c.toNat] w fun e w' => e = .returned (.bool (sgB c)) ∧ w = w' := by
  have h := in_any (bstr sgL) c (by decide) w
  rw [bstr_data, sg_fnd] at h
  exact h

/-- What the reference's Tokens keeps. -/
def RX (w : World) (v : Value) (acc : List Tok) (W : World) : Prop :=
  Arr W 65 w.heap.size [.slice none 0 0, .int .i64 0, .int .i64 0] ∧ Arr W 65 (w.heap.size + 1) [v, .int .i64 0, .int .i64 0] ∧ TokRow (w.heap.size + 2) 107 W v acc ∧ Below w.heap.size w W ∧ w.heap.size + 2 ≤ W.heap.size
theorem RX.later {w W W' : World} {v : Value} {acc : List Tok} (h : RX w v acc W) (hb : Below W.heap.size W W') : RX w v acc W' :=
  ⟨h.1.later hb, h.2.1.later hb, h.2.2.1.later hb, h.2.2.2.1.trans (hb.mono h.2.2.2.1.size), Nat.le_trans h.2.2.2.2 hb.size⟩
theorem RX.row {w W W' : World} {v v' : Value} {acc acc' : List Tok} (h : RX w v acc W) (hT : TokRow (w.heap.size + 2) 107 W' v' acc') (hb : Below (w.heap.size + 2) W W') : RX w v' acc' (W'.setCell ⟨w.heap.size + 1, 0, none⟩ v') :=
  have hb' := h.2.2.2.1.trans (hb.mono (by omega))
  ⟨(h.1.below hb (by omega)).setCell (by simp) _, (h.2.1.below hb (by omega)).set 0 v', hT.set (by simp) _, hb'.setCell (p := ⟨w.heap.size + 1, 0, none⟩) (by simp) _, by simpa [World.setCell] using Nat.le_trans h.2.2.2.2 hb.size⟩
def RLexPost (w : World) (R : Toks) (e : Ending) (w' : World) : Prop := ∃ v, e = .returned (.agg #[v, .int .i64 (R.2.1 : Nat), .int .i64 (R.2.2 : Nat)]) ∧ TokRow w.heap.size 107 w' v R.1 ∧ Below w.heap.size w w'
theorem resr {fn : Func} {p : Tmp} (h : fn.results = #[.cell p 65]) {tmps : Array Value} {w : World} {g : Nat} {a b c : Value} (hA : Arr w 65 g [a, b, c]) (hp : tmps.getD p undef = .pointer (some ⟨g, 0, none⟩)) :
    (results fn tmps).run Tryd.prog w = .ok (.agg #[a, b, c]) w :=
  results_cell_row h tmps w g 65 #[a, b, c] (0, 0) _ hp hA Tryd.underlying65 rfl (by kernel_rfl)
theorem Arr.set3 {w : World} {t : TypeId} {g : Nat} {a b c : Value} (h : Arr w t g [a, b, c]) (x0 x1 x2 : Value) : Arr (((w.setCell ⟨g, 0, none⟩ x0).setCell ⟨g, 1, none⟩ x1).setCell ⟨g, 2, none⟩ x2) t g [x0, x1, x2] := ((h.set 0 x0).set 1 x1).set 2 x2
theorem below_set3 {B : Nat} {w0 w : World} {g : Nat} (h : Below B w0 w) (hg : B ≤ g) (x0 x1 x2 : Value) : Below B w0 (((w.setCell ⟨g, 0, none⟩ x0).setCell ⟨g, 1, none⟩ x1).setCell ⟨g, 2, none⟩ x2) :=
  ((h.setCell (p := ⟨g, 0, none⟩) hg _).setCell (p := ⟨g, 1, none⟩) hg _).setCell (p := ⟨g, 2, none⟩) hg _

theorem step_tokR {ops : Array Oper} {o : Oper} {a : Act} {w : World} {K : Act → World → Prop} {Q : Exit → Act → World → Prop} {E : Prop} (hgd : o.guard = none) (s x : Operand)
    (ho : o.op = .call { callee := .builtin .append, args := #[s, x], argTypes := #[63, 63] })
    {base n : Nat} {v : Value} {ts : List Tok} {t : Tok} (hs : a.eval s = v) (hown : TokRow base 107 w v ts) (hx : a.eval x = .slice (some ⟨n, 0, none⟩) 1 1) (hc : Arr w 107 n (tkv t))
    (hlen : ts.length + 1 ≤ 1000000) (hbase : base ≤ w.heap.size)
    (hK : ∀ v' w', TokRow base 107 w' v' (ts ++ [t]) → Below base w w' → K (a.put o.dst v') w') : if Region.wanted o (yielded ops a.tmps) = true then Oper.wp Tryd.prog o a w K Q else E := by
  have hw : Region.wanted o (yielded ops a.tmps) = true := by simp [Region.wanted, hgd]
  rw [if_pos hw]
  obtain ⟨i0, hi, hz0, hz1, hz2⟩ := info_parts Tryd.infoTR
  obtain ⟨v', w', hrun, r1, r2, _⟩ := run_append_own (P := Tryd.prog) w base 63 o.type 107 i0 _ 3 32 Tryd.underlying63 hi hz0 hz1 hz2 rfl (by decide) v ts.length (tks ts) hown ⟨n, 0, none⟩ 1 1 (tkv t) rfl
    (fun j u hu => by
      have := hc.cell j
      rw [hu] at this
      cases j <;> simpa [Addr.add] using this) (fun u hu => tks_one [t] u (by simpa [tks] using hu)) (by unfold maxLen; omega) (by omega) hbase
  unfold Oper.wp
  simp [execOp, ho, resolve, invoke, builtin, hs, hx, hrun, Result.andThen]
  refine hK v' w' ?_ ((Below.refl _ _).grown r2 hbase (fun k hk => (hown.lt k hk).1))
  show w'.ownsRow base 107 3 v' (ts ++ [t]).length (tks (ts ++ [t]))
  rw [tks_snoc, List.length_append]
  exact r1
set_option maxRecDepth 100000 in
set_option maxHeartbeats 8000000 in
theorem rlex_any (s : ByteArray) (hs : s.size ≤ 65536) (w : World) : Calls Tryd.prog 21 #[.string s] w (RLexPost w (tokS s.data.toList)) := by
  obtain ⟨R, hR⟩ : ∃ R, R = tokS s.data.toList := ⟨_, rfl⟩
  have HST : Hid (LexAt s.data.toList R 0 []) := by show LexAt _ _ _ _; rw [hR]; exact lx_start _
  rw [← hR]
  obtain ⟨l, hl⟩ : ∃ l, l = s.data.toList := ⟨_, rfl⟩
  rw [← hl] at HST
  have HL := Lib.hid hl
  have HSZ : Hid (l.length = s.size) := by show _ = _; rw [hl]; exact size_len s
  have hs1 : ¬ (65536 : Int) < s.size := by omega
  have hs2 : (s.size : Int) ≤ 100000 := by omega
  have HS := Lib.hid hs
  clear hR hl hs
  go_enter Tryd.func21, Tryd.ntmps21
  go_wp2_with fail
  have hb0 : Below w.heap.size w ((w.alloc (.cells #[.slice none 0 0, .int .i64 0, .int .i64 0] 65)).alloc (.cells #[.slice none 0 0, .int .i64 0, .int .i64 0] 65)) := ((Below.refl _ _).alloc (Nat.le_refl _) _).alloc (by simp) _
  have H0 : Hid (RX w (.slice none 0 0) [] ((w.alloc (.cells #[.slice none 0 0, .int .i64 0, .int .i64 0] 65)).alloc (.cells #[.slice none 0 0, .int .i64 0, .int .i64 0] 65))) :=
    ⟨(Arr.new' w _ _ _ rfl).alloc _, Arr.new2 w _ _ _ _ rfl, TokRow.nil _ _ _, hb0, by simp⟩
  clear hb0
  generalize (w.alloc (.cells #[.slice none 0 0, .int .i64 0, .int .i64 0] 65)).alloc (.cells #[.slice none 0 0, .int .i64 0, .int .i64 0] 65) = w0 at H0 ⊢
  go_loopw [5] (fun iv wr => ∃ (i : Nat) (acc : List Tok) (v : Value), iv = .int .i64 i ∧ i ≤ s.size ∧ Hid (LexAt l R i acc ∧ RX w v acc wr)) (fun iv _ => s.size - (intOf iv).toNat)
  case atStart => exact ⟨0, [], _, rfl, Nat.zero_le _, HST.out, H0.out⟩
  case round =>
    obtain ⟨i, acc, v, rfl, hil, HI⟩ := hrel
    clear HST H0
    have i0 : (0 : Int) ≤ i := by omega
    by_cases hi : i < s.size
    · have i1 : (i : Int) < s.size := by omega
      have hil2 : i < l.length := by have := HSZ.out; omega
      have HX : Hid (s[i] = l.getD i 0) := by show _ = _; rw [HL.out]; exact get_getD s i hi
      go_upto_block 2 with fail
      have HLE : Hid (i + runL wdB l i ≤ s.size) := by have := runL_le wdB l i (by omega); have := HSZ.out; show _ ≤ _; omega
      go_cut [7] from 15 to 126 (fun x W => x = .int .i64 ((i + runL wdB l i : Nat) : Int) ∧ wr = W)
      case first =>
        go_wp2_with fail
        go_loop [7] (fun jv => ∃ j : Nat, i ≤ j ∧ j ≤ s.size ∧ jv = .int .i64 j ∧ Hid (∀ m, i ≤ m → m < j → wdB (l.getD m 0) = true)) (fun jv => s.size - (intOf jv).toNat)
        case atStart => exact ⟨i, Nat.le_refl _, by omega, rfl, fun k h1 h2 => by omega⟩
        case round =>
          obtain ⟨j, hij, hj, rfl, HP⟩ := hrel
          have hj0 : (0 : Int) ≤ j := by omega
          by_cases hlt : j < s.size
          · have hlt1 : (j : Int) < s.size := by omega
            have HXj : Hid (s[j] = l.getD j 0) := by show _ = _; rw [HL.out]; exact get_getD s j hlt
            go_wp2_with fail
            refine (in_lt s[j] _).mono ?_
            rintro e w1 ⟨rfl, rfl⟩
            cases hc : wdB s[j] with
            | true =>
              have HC := Lib.hid hc
              clear hc
              go_wp2_with fail
              go_round
              case rel =>
                refine ⟨j + 1, by omega, by omega, by go_num, fun m h1 h2 => ?_⟩
                by_cases e : m = j
                · subst e; rw [← HXj.out]; exact HC.out
                · exact HP.out m h1 (by omega)
              case measure => simp [intOf]; omega
            | false =>
              have H : Hid (i + runL wdB l i = j) := by
                show _ = _
                rw [runL_eq (k := j - i) (by have := HSZ.out; omega) (fun m h1 h2 => HP.out m h1 (by omega)) (fun h => by rw [show i + (j - i) = j by omega, ← HXj.out]; exact hc)]
                omega
              clear hc HP
              go_wp2_with fail
              go_meet
              case rel => exact ⟨by rw [H.out], rfl⟩
          · obtain rfl : j = s.size := by omega
            have H : Hid (i + runL wdB l i = s.size) := by
              show _ = _
              rw [runL_eq (k := s.size - i) (by have := HSZ.out; omega) (fun m h1 h2 => HP.out m h1 (by omega)) (fun h => by have := HSZ.out; omega)]
              omega
            clear HP
            go_wp2_with fail
            go_meet
            case rel => exact ⟨by rw [H.out], rfl⟩
      case rest =>
        obtain ⟨rfl, rfl⟩ := hcut
        cases hwd : wdB s[i] with
        | true =>
          have hr1 := runL_pos hil2 (by rw [← HX.out]; exact hwd)
          have hgt : (i : Int) < ((i + runL wdB l i : Nat) : Int) := by omega
          have HOK := Lib.hid (fun h => (lx_word HI.out.1 hil2 (by rw [← HX.out]; exact hwd) h).1)
          have HER := Lib.hid (fun h => lx_word_err HI.out.1 hil2 (by rw [← HX.out]; exact hwd) h)
          obtain ⟨k, hk⟩ : ∃ k, k = runL wdB l i := ⟨_, rfl⟩
          rw [← hk] at HOK HER HLE hgt hr1 ⊢
          have hle : ((i + k : Nat) : Int) ≤ s.size := by have := HLE.out; omega
          have hle2 : (i : Int) ≤ ((i + k : Nat) : Int) := by omega
          have HTX : Hid (s.extract i (i + k) = bstr ((l.drop i).take k)) := by show _ = _; rw [ext_data, ← HL.out]; congr 2; omega
          have HTZ : Hid ((s.extract i (i + k)).size ≤ 1000000) := by
            show _ ≤ _
            rw [ByteArray.size_extract]; omega
          have HN1 := Lib.hid hr1
          obtain ⟨j, hj⟩ : ∃ j, j = i + k := ⟨_, rfl⟩
          rw [← hj] at HOK HTX HTZ hgt hle hle2 ⊢
          have HJ := Lib.hid hj
          have HTE : Hid (∃ t, t = s.extract i j) := ⟨_, rfl⟩
          obtain ⟨t, ht⟩ := HTE.out
          rw [← ht] at HTX HTZ
          have HT := Lib.hid ht
          have HOKW : Hid (okW ((l.drop i).take k) = (isName t || resB t)) := by show _ = _; unfold okW; rw [← HTX.out]
          clear hwd hk hj hr1 ht HTE
          go_upto_region 12 with (fail)
          rw [← HT.out]
          go_wp2_with fail
          refine (risName_any t HTZ.out _).mono ?_
          rintro e w3 ⟨rfl, rfl⟩
          cases hnm : isName t with
          | true =>
            have HGO : Hid (okW ((l.drop i).take k) = true) := by show _ = _; rw [HOKW.out, hnm]; rfl
            clear hnm
            have HI1 := Lib.hid (HI.out.2.later (show Below wr.heap.size wr (wr.alloc (.cells #[.int .i64 1, .string t, .int .i64 i] 107)) from (Below.refl _ _).alloc (Nat.le_refl _) _))
            have HAB : Hid (Arr (wr.alloc (.cells #[.int .i64 1, .string t, .int .i64 i] 107)) 107 wr.heap.size (tkv (mkT 1 ((l.drop i).take k) i))) := by
              show Arr _ _ _ [.int .i64 1, .string (bstr ((l.drop i).take k)), .int .i64 i]
              rw [← HTX.out]; exact Arr.new' _ _ _ _ rfl
            have HAC : Hid (acc.length + 1 ≤ 1000000) := by have := HI.out.1.2.1; have := HS.out; show _ ≤ _; omega
            have c4 := HI.out.2.2.1.cell 0
            simp only [List.getElem?_cons_zero] at c4
            go_wp2_with (at_builtin; refine app_tokR rfl _ _ rfl rfl HI1.out.2.2.1 rfl HAB.out HAC.out HI1.out.2.2.2.2 ?_; intro v5 w6 h5 b5 g5; have HI6 := Lib.hid (HI1.out.row h5 b5); obtain ⟨q5, c5, hv5, _⟩ := h5.form; rw [List.length_append, List.length_singleton] at hv5; subst hv5; have f4 := (HI1.out.2.1.below b5 (by omega)).free 0; have d4 := (HI1.out.2.1.below b5 (by omega)).cell 0; simp only [List.getElem?_cons_zero] at d4; clear h5 b5 g5 c4)
            go_roundw
            case rel => exact ⟨j, _, _, rfl, by have := HLE.out; have := HJ.out; omega, HOK.out HGO.out, HI6.out⟩
            case measure => simp [intOf]; have := HJ.out; have := HN1.out; have := HLE.out; omega
          | false =>
            go_wp2_with fail
            refine (rres_any t _).mono ?_
            rintro e w3 ⟨rfl, rfl⟩
            cases hrs : resB t with
            | true =>
              have HGO : Hid (okW ((l.drop i).take k) = true) := by show _ = _; rw [HOKW.out, hnm, hrs]; rfl
              clear hnm hrs
              have HI1 := Lib.hid (HI.out.2.later (show Below wr.heap.size wr (wr.alloc (.cells #[.int .i64 1, .string t, .int .i64 i] 107)) from (Below.refl _ _).alloc (Nat.le_refl _) _))
              have HAB : Hid (Arr (wr.alloc (.cells #[.int .i64 1, .string t, .int .i64 i] 107)) 107 wr.heap.size (tkv (mkT 1 ((l.drop i).take k) i))) := by
                show Arr _ _ _ [.int .i64 1, .string (bstr ((l.drop i).take k)), .int .i64 i]
                rw [← HTX.out]; exact Arr.new' _ _ _ _ rfl
              have HAC : Hid (acc.length + 1 ≤ 1000000) := by have := HI.out.1.2.1; have := HS.out; show _ ≤ _; omega
              have c4 := HI.out.2.2.1.cell 0
              simp only [List.getElem?_cons_zero] at c4
              go_wp2_with (at_builtin; refine app_tokR rfl _ _ rfl rfl HI1.out.2.2.1 rfl HAB.out HAC.out HI1.out.2.2.2.2 ?_; intro v5 w6 h5 b5 g5; have HI6 := Lib.hid (HI1.out.row h5 b5); obtain ⟨q5, c5, hv5, _⟩ := h5.form; rw [List.length_append, List.length_singleton] at hv5; subst hv5; have f4 := (HI1.out.2.1.below b5 (by omega)).free 0; have d4 := (HI1.out.2.1.below b5 (by omega)).cell 0; simp only [List.getElem?_cons_zero] at d4; clear h5 b5 g5 c4)
              go_roundw
              case rel => exact ⟨j, _, _, rfl, by have := HLE.out; have := HJ.out; omega, HOK.out HGO.out, HI6.out⟩
              case measure => simp [intOf]; have := HJ.out; have := HN1.out; have := HLE.out; omega
            | false =>
              have HRR := Lib.hid (HER.out (by rw [HOKW.out, hnm, hrs]; rfl))
              clear hnm hrs
              have c2 := HI.out.2.1.cell
              have f2 := HI.out.2.1.free
              have c20 := c2 0
              have c21 := c2 1
              have c22 := c2 2
              have f20 := f2 0
              have f21 := f2 1
              have f22 := f2 2
              simp only [List.getElem?_cons_zero, List.getElem?_cons_succ] at c20 c21 c22
              clear c2 f2
              go_wp2_with fail
              have hA := HI.out.2.1.set3 (.slice none 0 0) (.int .i64 5) (.int .i64 i)
              refine bodyPost_ret (resr rfl hA rfl) rfl ?_
              rw [HRR.out]
              exact ⟨_, rfl, TokRow.nil _ _ _, below_set3 HI.out.2.2.2.2.1 (Nat.le_refl _) _ _ _⟩
        | false =>
          have HWD : Hid (wdB (l.getD i 0) = false) := by rw [← HX.out]; exact hwd
          have H0 : Hid (i + runL wdB l i = i) := by
            show _ = _
            rw [runL_eq (k := 0) (by omega) (fun m h1 h2 => by omega) (fun h => HWD.out)]; rfl
          rw [H0.out]
          clear hwd HLE H0
          go_wp2_with fail
          refine (in_sp s[i] _).mono ?_
          rintro e w3 ⟨rfl, rfl⟩
          cases hsp : spB s[i] with
          | true =>
            have HNX := Lib.hid (lx_space HI.out.1 hil2 HWD.out (by rw [← HX.out]; exact hsp))
            clear hsp
            go_wp2_with fail
            go_roundw
            case rel => exact ⟨i + 1, _, _, by go_num, by omega, HNX.out, HI.out.2⟩
            case measure => simp [intOf]; omega
          | false =>
            have HSP : Hid (spB (l.getD i 0) = false) := by rw [← HX.out]; exact hsp
            clear hsp
            obtain ⟨nx, hnx⟩ : ∃ nx : UInt8, nx = if i + 1 < s.size then l.getD (i + 1) 0 else 0 := ⟨_, rfl⟩
            have HNC : Hid (l.getD i 0 = 47 ∧ nx = 47 → i + 1 < l.length ∧ l.getD (i + 1) 0 = 47) := fun h => by
              by_cases hb : i + 1 < s.size
              · rw [if_pos hb] at hnx; exact ⟨by have := HSZ.out; omega, by rw [← hnx]; exact h.2⟩
              · rw [if_neg hb] at hnx; rw [hnx] at h; exact absurd h.2 (by decide)
            have HNA : Hid (l.getD i 0 = 45 ∧ nx = 62 → i + 1 < l.length ∧ l.getD (i + 1) 0 = 62) := fun h => by
              by_cases hb : i + 1 < s.size
              · rw [if_pos hb] at hnx; exact ⟨by have := HSZ.out; omega, by rw [← hnx]; exact h.2⟩
              · rw [if_neg hb] at hnx; rw [hnx] at h; exact absurd h.2 (by decide)
            have HNO : Hid (∀ x y : UInt8, ¬ (l.getD i 0 = x ∧ nx = y) → notNext l i x y) := fun x y h h1 h2 h3 => h ⟨h1, by rw [hnx, if_pos (by have := HSZ.out; omega)]; exact h3⟩
            have HNXX := Lib.hid hnx
            clear hnx
            go_upto_if 70 with (fail)
            go_cut [9] from 15 to 126 (fun x W => x = .int .u8 nx.toNat ∧ wr = W)
            case first =>
              by_cases h2 : i + 1 < s.size
              · have h3 : (i : Int) + 1 < s.size := by omega
                have HXn : Hid (nx = s[i + 1]) := by show _ = _; rw [HNXX.out, if_pos h2, HL.out]; exact (get_getD s (i + 1) h2).symm
                go_wp2_with fail
                go_meet
                case rel => exact ⟨by rw [HXn.out], rfl⟩
              · have h3 : ¬ (i : Int) + 1 < s.size := by omega
                have HXn : Hid (nx = 0) := by show _ = _; rw [HNXX.out, if_neg h2]
                go_wp2_with fail
                go_meet
                case rel => exact ⟨by rw [HXn.out]; rfl, rfl⟩
            case rest =>
              obtain ⟨rfl, rfl⟩ := hcut
              go_upto_region 22 with (fail)
              go_cut [80] from 15 to 126 (fun u W => u = .bool (decide (l.getD i 0 = 47 ∧ nx = 47)) ∧ wr = W)
              case first =>
                by_cases ha : l.getD i 0 = 47
                · have b1 : ((s[i].toNat : Int) == 47) = true := by rw [HX.out, ha]; rfl
                  by_cases hb : nx = 47
                  · have b2 : ((nx.toNat : Int) == 47) = true := by rw [hb]; rfl
                    have HD : Hid (decide (l.getD i 0 = 47 ∧ nx = 47) = true) := decide_eq_true ⟨ha, hb⟩
                    clear ha hb
                    go_wp2_with fail
                    go_meet
                    case rel => exact ⟨by rw [HD.out], rfl⟩
                  · have b2 : ((nx.toNat : Int) == 47) = false := by
                      rw [beq_eq_false_iff_ne]; intro e; exact hb (UInt8.toNat_inj.1 (by have h0 : (((47 : UInt8).toNat : Nat) : Int) = 47 := rfl; omega))
                    have HD : Hid (decide (l.getD i 0 = 47 ∧ nx = 47) = false) := decide_eq_false fun h => hb h.2
                    clear ha hb
                    go_wp2_with fail
                    go_meet
                    case rel => exact ⟨by rw [HD.out], rfl⟩
                · have b1 : ((s[i].toNat : Int) == 47) = false := by
                    rw [beq_eq_false_iff_ne]; intro e; rw [HX.out] at e; exact ha (UInt8.toNat_inj.1 (by have h0 : (((47 : UInt8).toNat : Nat) : Int) = 47 := rfl; omega))
                  have HD : Hid (decide (l.getD i 0 = 47 ∧ nx = 47) = false) := decide_eq_false fun h => ha h.1
                  clear ha
                  go_wp2_with fail
                  go_meet
                  case rel => exact ⟨by rw [HD.out], rfl⟩
              case rest =>
                obtain ⟨rfl, rfl⟩ := hcut
                by_cases hcm : l.getD i 0 = 47 ∧ nx = 47
                · have hpt := HNC.out hcm
                  have HNN := Lib.hid (lx_comment HI.out.1 hpt.1 hcm.1 hpt.2)
                  have HN1 : Hid (1 ≤ runL lnB l i) := by show _ ≤ _; have := HNN.out.2; omega
                  have HLC : Hid (i + runL lnB l i ≤ s.size) := by have := runL_le lnB l i (by omega); have := HSZ.out; show _ ≤ _; omega
                  rw [decide_eq_true hcm]
                  clear hcm hpt
                  go_upto_block 4 with fail
                  go_cut [5] from 15 to 126 (fun x W => x = .int .i64 ((i + runL lnB l i : Nat) : Int) ∧ wr = W)
                  case first =>
                    go_wp2_with fail
                    go_loop [5] (fun jv => ∃ j : Nat, i ≤ j ∧ j ≤ s.size ∧ jv = .int .i64 j ∧ Hid (∀ m, i ≤ m → m < j → lnB (l.getD m 0) = true)) (fun jv => s.size - (intOf jv).toNat)
                    case atStart => exact ⟨i, Nat.le_refl _, by omega, rfl, fun k h1 h2 => by omega⟩
                    case round =>
                      obtain ⟨j, hij, hj, rfl, HP⟩ := hrel
                      have hj0 : (0 : Int) ≤ j := by omega
                      by_cases hlt : j < s.size
                      · have hlt1 : (j : Int) < s.size := by omega
                        have HXj : Hid (s[j] = l.getD j 0) := by show _ = _; rw [HL.out]; exact get_getD s j hlt
                        have hln := ln_ne s[j]
                        cases hc : lnB s[j] with
                        | true =>
                          have HC := Lib.hid hc
                          rw [hc] at hln
                          clear hc
                          go_wp2_with fail
                          go_round
                          case rel =>
                            refine ⟨j + 1, by omega, by omega, by go_num, fun m h1 h2 => ?_⟩
                            by_cases e : m = j
                            · subst e; rw [← HXj.out]; exact HC.out
                            · exact HP.out m h1 (by omega)
                          case measure => simp [intOf]; omega
                        | false =>
                          have H : Hid (i + runL lnB l i = j) := by
                            show _ = _
                            rw [runL_eq (k := j - i) (by have := HSZ.out; omega) (fun m h1 h2 => HP.out m h1 (by omega)) (fun h => by rw [show i + (j - i) = j by omega, ← HXj.out]; exact hc)]
                            omega
                          rw [hc] at hln
                          clear hc HP
                          go_wp2_with fail
                          go_meet
                          case rel => exact ⟨by rw [H.out], rfl⟩
                      · obtain rfl : j = s.size := by omega
                        have H : Hid (i + runL lnB l i = s.size) := by
                          show _ = _
                          rw [runL_eq (k := s.size - i) (by have := HSZ.out; omega) (fun m h1 h2 => HP.out m h1 (by omega)) (fun h => by have := HSZ.out; omega)]
                          omega
                        clear HP
                        go_wp2_with fail
                        go_meet
                        case rel => exact ⟨by rw [H.out], rfl⟩
                  case rest =>
                    obtain ⟨rfl, rfl⟩ := hcut
                    go_wp2_with fail
                    go_roundw
                    case rel => exact ⟨i + runL lnB l i, _, _, rfl, HLC.out, HNN.out.1, HI.out.2⟩
                    case measure => simp [intOf]; have := HN1.out; have := HLC.out; omega
                · have HNT := Lib.hid (HNO.out 47 47 hcm)
                  rw [decide_eq_false hcm]
                  clear hcm
                  go_upto_region 25 with (fail)
                  go_cut [98] from 15 to 126 (fun u W => u = .bool (decide (l.getD i 0 = 45 ∧ nx = 62)) ∧ wr = W)
                  case first =>
                    by_cases ha : l.getD i 0 = 45
                    · have b1 : ((s[i].toNat : Int) == 45) = true := by rw [HX.out, ha]; rfl
                      by_cases hb : nx = 62
                      · have b2 : ((nx.toNat : Int) == 62) = true := by rw [hb]; rfl
                        have HD : Hid (decide (l.getD i 0 = 45 ∧ nx = 62) = true) := decide_eq_true ⟨ha, hb⟩
                        clear ha hb
                        go_wp2_with fail
                        go_meet
                        case rel => exact ⟨by rw [HD.out], rfl⟩
                      · have b2 : ((nx.toNat : Int) == 62) = false := by
                          rw [beq_eq_false_iff_ne]; intro e; exact hb (UInt8.toNat_inj.1 (by have h0 : (((62 : UInt8).toNat : Nat) : Int) = 62 := rfl; omega))
                        have HD : Hid (decide (l.getD i 0 = 45 ∧ nx = 62) = false) := decide_eq_false fun h => hb h.2
                        clear ha hb
                        go_wp2_with fail
                        go_meet
                        case rel => exact ⟨by rw [HD.out], rfl⟩
                    · have b1 : ((s[i].toNat : Int) == 45) = false := by
                        rw [beq_eq_false_iff_ne]; intro e; rw [HX.out] at e; exact ha (UInt8.toNat_inj.1 (by have h0 : (((45 : UInt8).toNat : Nat) : Int) = 45 := rfl; omega))
                      have HD : Hid (decide (l.getD i 0 = 45 ∧ nx = 62) = false) := decide_eq_false fun h => ha h.1
                      clear ha
                      go_wp2_with fail
                      go_meet
                      case rel => exact ⟨by rw [HD.out], rfl⟩
                  case rest =>
                    obtain ⟨rfl, rfl⟩ := hcut
                    by_cases har : l.getD i 0 = 45 ∧ nx = 62
                    · have hpt := HNA.out har
                      have HNX := Lib.hid (lx_arrow HI.out.1 hpt.1 har.1 hpt.2)
                      have HTX : Hid ((⟨#[45, 62]⟩ : ByteArray) = bstr [45, 62]) := rfl
                      have HLE2 : Hid (i + 2 ≤ s.size) := by show _ ≤ _; have := hpt.1; have := HSZ.out; omega
                      rw [decide_eq_true har]
                      clear har hpt
                      have HI1 := Lib.hid (HI.out.2.later (show Below wr.heap.size wr (wr.alloc (.cells #[.int .i64 2, .string ⟨#[45, 62]⟩, .int .i64 i] 107)) from (Below.refl _ _).alloc (Nat.le_refl _) _))
                      have HAB : Hid (Arr (wr.alloc (.cells #[.int .i64 2, .string ⟨#[45, 62]⟩, .int .i64 i] 107)) 107 wr.heap.size (tkv (mkT 2 ([45, 62]) i))) := by
                        show Arr _ _ _ [.int .i64 2, .string (bstr ([45, 62])), .int .i64 i]
                        rw [← HTX.out]; exact Arr.new' _ _ _ _ rfl
                      have HAC : Hid (acc.length + 1 ≤ 1000000) := by have := HI.out.1.2.1; have := HS.out; show _ ≤ _; omega
                      have c4 := HI.out.2.2.1.cell 0
                      simp only [List.getElem?_cons_zero] at c4
                      go_wp2_with (at_builtin; refine app_tokR rfl _ _ rfl rfl HI1.out.2.2.1 rfl HAB.out HAC.out HI1.out.2.2.2.2 ?_; intro v5 w6 h5 b5 g5; have HI6 := Lib.hid (HI1.out.row h5 b5); obtain ⟨q5, c5, hv5, _⟩ := h5.form; rw [List.length_append, List.length_singleton] at hv5; subst hv5; have f4 := (HI1.out.2.1.below b5 (by omega)).free 0; have d4 := (HI1.out.2.1.below b5 (by omega)).cell 0; simp only [List.getElem?_cons_zero] at d4; clear h5 b5 g5 c4)
                      go_roundw
                      case rel => exact ⟨i + 2, _, _, by go_num, by have := HLE2.out; omega, HNX.out, HI6.out⟩
                      case measure => simp [intOf]; omega
                    · have HAR := Lib.hid (HNO.out 45 62 har)
                      rw [decide_eq_false har]
                      clear har
                      go_wp2_with fail
                      refine (in_sg s[i] _).mono ?_
                      rintro e w3 ⟨rfl, rfl⟩
                      cases hsg : sgB s[i] with
                      | false =>
                        have HRR := Lib.hid (lx_sign_err HI.out.1 hil2 HWD.out HSP.out HNT.out HAR.out (by rw [← HX.out]; exact hsg))
                        clear hsg
                        have c2 := HI.out.2.1.cell
                        have f2 := HI.out.2.1.free
                        have c20 := c2 0
                        have c21 := c2 1
                        have c22 := c2 2
                        have f20 := f2 0
                        have f21 := f2 1
                        have f22 := f2 2
                        simp only [List.getElem?_cons_zero, List.getElem?_cons_succ] at c20 c21 c22
                        clear c2 f2
                        go_wp2_with fail
                        have hA := HI.out.2.1.set3 (.slice none 0 0) (.int .i64 6) (.int .i64 i)
                        refine bodyPost_ret (resr rfl hA rfl) rfl ?_
                        rw [HRR.out]
                        exact ⟨_, rfl, TokRow.nil _ _ _, below_set3 HI.out.2.2.2.2.1 (Nat.le_refl _) _ _ _⟩
                      | true =>
                        have HNX := Lib.hid (lx_sign HI.out.1 hil2 HWD.out HSP.out HNT.out HAR.out (by rw [← HX.out]; exact hsg))
                        clear hsg
                        have HTX : Hid (s.extract i (i + 1) = bstr [l.getD i 0]) := by
                          show _ = _
                          rw [ext_data, ← HL.out, drop_cons' hil2]
                          congr 1
                          rw [show i + 1 - i = 1 by omega]; rfl
                        have e1 : (i : Int) + 1 ≤ s.size := by omega
                        have e2 : (i : Int) ≤ (i : Int) + 1 := by omega
                        obtain ⟨t, ht⟩ : ∃ t, t = s.extract i (i + 1) := ⟨_, rfl⟩
                        rw [← ht] at HTX
                        have HTT := Lib.hid ht
                        clear ht
                        have c4 := HI.out.2.2.1.cell 0
                        simp only [List.getElem?_cons_zero] at c4
                        go_wp2_with fail
                        have HAC : Hid (acc.length + 1 ≤ 1000000) := by have := HI.out.1.2.1; have := HS.out; show _ ≤ _; omega
                        have HI1 : Hid (RX w v acc ((wr.alloc (.cells #[.int .i64 2, .string t, .int .i64 i] 107)).drew)) := HI.out.2.later (((Below.refl _ _).alloc (Nat.le_refl _) _).drew)
                        have HAB : Hid (Arr ((wr.alloc (.cells #[.int .i64 2, .string t, .int .i64 i] 107)).drew) 107 wr.heap.size (tkv (mkT 2 [l.getD i 0] i))) := by
                          show Arr (wr.alloc _) _ _ [.int .i64 2, .string (bstr [l.getD i 0]), .int .i64 i]
                          rw [← HTX.out]; exact Arr.new' _ _ _ _ rfl
                        have hw1 : IntKind.i64.wrap ((i : Int) + 1) = (i : Int) + 1 := IntWalk.i64_in _ (by omega)
                        have hw2 : (0 : Int) ≤ (i : Int) + 1 := by omega
                        have hw3 : ((i : Int) + 1).toNat = i + 1 := by omega
                        have htt := HTT.out.symm
                        have c5 : (wr.alloc (.cells #[.int .i64 2, .string t, .int .i64 i] 107)).cell? ⟨w.heap.size + 1, 0, none⟩ = some v := HI1.out.2.1.cell 0
                        go_region_law ((refine step_tokR rfl (.tmp 114) (.tmp 122) rfl rfl HI1.out.2.2.1 rfl HAB.out HAC.out HI1.out.2.2.2.2 ?_); intro v5 w6 h5 b5; have HI6 := Lib.hid (HI1.out.row h5 b5); obtain ⟨q5, c5, hv5, _⟩ := h5.form; rw [List.length_append, List.length_singleton] at hv5; subst hv5; have f4 := (HI1.out.2.1.below b5 (by omega)).free 0; have d4 := (HI1.out.2.1.below b5 (by omega)).cell 0; simp only [List.getElem?_cons_zero] at d4; clear h5 b5)
                        all_goals
                          clear hw1 hw2 hw3 htt c4
                          go_wp2_with fail
                          go_roundw
                          case rel => exact ⟨i + 1, _, _, by go_num, by omega, HNX.out, HI6.out⟩
                          case measure => simp [intOf]; omega
    · obtain ⟨hRR, hie⟩ := lx_end HI.out.1 (by have := HSZ.out; omega)
      have hie2 : i = s.size := by omega
      have i1 : ¬ (i : Int) < s.size := by omega
      have HRR : Hid (R = (acc ++ [mkT 3 [] i], 0, 0)) := by show _ = _; rw [hRR, hie]
      have HI1 := Lib.hid (HI.out.2.later (show Below wr.heap.size wr (wr.alloc (.cells #[.int .i64 3, .string ⟨#[]⟩, .int .i64 i] 107)) from (Below.refl _ _).alloc (Nat.le_refl _) _))
      have HAB : Hid (Arr (wr.alloc (.cells #[.int .i64 3, .string ⟨#[]⟩, .int .i64 i] 107)) 107 wr.heap.size (tkv (mkT 3 [] i))) := Arr.new' _ _ _ _ rfl
      have HAC : Hid (acc.length + 1 ≤ 1000000) := by have := HI.out.1.2.1; have := HS.out; show _ ≤ _; omega
      have c4 := HI.out.2.2.1.cell 0
      simp only [List.getElem?_cons_zero] at c4
      clear hRR hie hie2
      go_wp2_with (at_builtin; refine app_tokR rfl _ _ rfl rfl HI1.out.2.2.1 rfl HAB.out HAC.out HI1.out.2.2.2.2 ?_; intro v5 w6 h5 b5 g5; have HI6 := Lib.hid (HI1.out.row h5 b5); obtain ⟨q5, c5, hv5, _⟩ := h5.form; rw [List.length_append, List.length_singleton] at hv5; subst hv5; have f4 := (HI1.out.2.1.below b5 (by omega)).free 0; have d4 := (HI1.out.2.1.below b5 (by omega)).cell 0; have d40 := HI6.out.2.1.cell 0; have d41 := HI6.out.2.1.cell 1; have d42 := HI6.out.2.1.cell 2; have e0 := HI6.out.1.cell 0; have e1 := HI6.out.1.cell 1; have e2 := HI6.out.1.cell 2; have x0 := HI6.out.1.free 0; have x1 := HI6.out.1.free 1; have x2 := HI6.out.1.free 2; simp only [List.getElem?_cons_zero, List.getElem?_cons_succ] at d4 d40 d41 d42 e0 e1 e2; clear h5 b5 g5 c4)
      have hA := HI6.out.1.set3 (.slice q5 (acc.length + 1) c5) (.int .i64 0) (.int .i64 0)
      refine bodyPost_ret (resr rfl hA rfl) rfl ?_
      rw [HRR.out]
      refine ⟨_, rfl, ?_, below_set3 HI6.out.2.2.2.1 (Nat.le_refl _) _ _ _⟩
      exact ((((HI6.out.2.2.1).set (a := ⟨w.heap.size, 0, none⟩) (by simp) _).set (a := ⟨w.heap.size, 1, none⟩) (by simp) _).set (a := ⟨w.heap.size, 2, none⟩) (by simp) _).le (by omega)
end Go.Proofs.YteieimchleioaaaDoor
/-
  The reference's Allowed.
-/
namespace Go.Proofs.YteieimchleioaaaDoor
open Go.ChangeShapes Go.WideShapes Go.ChangeAt Go.RowKit
set_option linter.unusedVariables false

/-- What the reference hands back of a text. -/
def RefPost {α : Type} (val : Nat → α → World → Value → Prop) (zero : Value) (w : World) (r : RR α) (e : Ending) (w' : World) : Prop :=
  Below w.heap.size w w' ∧ ((∃ x v, r = .ok x ∧ e = .returned (.tuple #[v, .int .i64 0, .int .i64 0]) ∧ val w.heap.size x w' v) ∨ (∃ a b : Nat, a ≠ 0 ∧ r = .bad a b ∧ e = .returned (.tuple #[zero, .int .i64 (a : Nat), .int .i64 (b : Nat)])))
/-- The reference's tokens in memory, from the row that Tokens makes. -/
theorem rt_of {w : World} {base : Nat} {v : Value} {ts : List Tok} (ho : OkTs ts) (hl : ts.length ≤ 100000) (hr : TokRow base 107 w v ts) :
    ∃ tb c, v = .slice (some ⟨tb, 0, none⟩) ts.length c ∧ RT w tb ts := by
  have hp := okTs_pos ho
  have h1 := hr.1
  rcases hr.2 with ⟨h, hn⟩ | ⟨g, cap, cur, rfl, h0, hg, hcap, _, hcz, htk⟩
  · omega
  · have hgl := (Array.getElem?_eq_some_iff.1 hg).1
    refine ⟨g, cap, rfl, hgl, hl, fun i hi j hj => ?_⟩
    rw [cell_of_row w g _ cur _ (0, 0) hg, ← Array.getElem?_toList]
    have h2 := tks_at ts i j hi hj
    rw [show (0, [], 0) = tok0 from rfl] at h2
    rw [← h2, ← htk, List.getElem?_take, if_pos (by omega), Nat.mul_comm]
theorem offs_nat (l : List UInt8) (i : Nat) : offs (tokS l).1 i = ((offT (tokS l).1 i : Nat) : Int) := tokS_offs l i
set_option maxRecDepth 100000 in
set_option maxHeartbeats 4000000 in
theorem refA_any (s : ByteArray) (hs : s.size ≤ 65536) (w : World) : Calls Tryd.prog 14 #[.string s] w (RefPost VA (.slice none 0 0) w (readF typesR s.data.toList)) := by
  have HLX := Lib.hid (rlex_any s hs w)
  obtain ⟨l, hl⟩ : ∃ l, l = s.data.toList := ⟨_, rfl⟩
  have HLS : Hid (l.length ≤ 65536) := by show _ ≤ _; rw [hl, Array.length_toList]; exact hs
  rw [← hl] at HLX ⊢
  clear hl hs
  go_enter Tryd.func14, Tryd.ntmps14
  go_wp2_with fail
  refine HLX.out.mono ?_
  rintro r w1 ⟨v, rfl, r1, b1⟩
  have HB1 := Lib.hid b1
  by_cases h0 : (tokS l).2.1 = 0
  · have HE0 := Lib.hid h0
    have HE1 : Hid ((tokS l).2.2 = 0) := tokF_code _ _ _ h0
    have HOB := Lib.hid (tokS_okB h0 HLS.out)
    obtain ⟨tb, c, rfl, hrt⟩ := rt_of HOB.out.1 (Nat.le_trans (tokS_len l) (by have := HLS.out; omega)) r1
    rw [show ((tokS l).2.1 : Int) = 0 from by rw [h0]; rfl, show ((tokS l).2.2 : Int) = 0 from by rw [HE1.out]; rfl]
    have hb2 : Below w1.heap.size w1 (w1.alloc (.cells #[.slice (some ⟨tb, 0, none⟩) (tokS l).1.length c, .int .i64 0, .int .i64 0] 65)) := (Below.refl _ _).alloc (Nat.le_refl _) _
    have HX : Hid (Arr (w1.alloc (.cells #[.slice (some ⟨tb, 0, none⟩) (tokS l).1.length c, .int .i64 0, .int .i64 0] 65)) 65 w1.heap.size [.slice (some ⟨tb, 0, none⟩) (tokS l).1.length c, .int .i64 0, .int .i64 0]) := Arr.new' _ _ _ _ rfl
    have HT := Lib.hid (hrt.later hb2)
    have HB := Lib.hid (b1.trans (hb2.mono b1.size))
    have HSZ : Hid (w.heap.size ≤ (w1.alloc (.cells #[.slice (some ⟨tb, 0, none⟩) (tokS l).1.length c, .int .i64 0, .int .i64 0] 65)).heap.size) := HB.out.size
    clear h0 r1 b1 hb2 hrt HLX
    have HTY : Hid (Calls Tryd.prog 31 #[.agg #[.slice (some ⟨tb, 0, none⟩) (tokS l).1.length c, .int .i64 0, .int .i64 0, .int .i64 0, .int .i64 0]] (w1.alloc (.cells #[.slice (some ⟨tb, 0, none⟩) (tokS l).1.length c, .int .i64 0, .int .i64 0] 65)) fun e w' => ∃ i' k' x v, Go1 (tokS l).1 k' i' 0 0 x (st 0 0 (typesR (tokS l).1 ps0)) ∧ e = .returned (.tuple #[.agg #[.slice (some ⟨tb, 0, none⟩) (tokS l).1.length c, .int .i64 (i' : Nat), .int .i64 (k' : Nat), .int .i64 (0 : Nat), .int .i64 (0 : Nat)], v]) ∧ RdA (Bt (w1.alloc (.cells #[.slice (some ⟨tb, 0, none⟩) (tokS l).1.length c, .int .i64 0, .int .i64 0] 65)).heap.size w'.heap.size) w' x v ∧ Below (w1.alloc (.cells #[.slice (some ⟨tb, 0, none⟩) (tokS l).1.length c, .int .i64 0, .int .i64 0] 65)).heap.size (w1.alloc (.cells #[.slice (some ⟨tb, 0, none⟩) (tokS l).1.length c, .int .i64 0, .int .i64 0] 65)) w') :=
      rtypes_any (s := ps0) (k := 0) (c := c) HOB.out HT.out (okTs_pos HOB.out.1) ⟨by decide, fun _ => by decide⟩
    go_upto_region 2 with (fail)
    generalize w1.alloc (.cells #[.slice (some ⟨tb, 0, none⟩) (tokS l).1.length c, .int .i64 0, .int .i64 0] 65) = w2 at HX HT HB HTY HSZ ⊢
    obtain ⟨g, hg⟩ : ∃ g, g = w1.heap.size := ⟨_, rfl⟩
    rw [← hg] at HX ⊢
    clear hg
    have x0 := HX.out.cell 0
    have y0 := HX.out.free 0
    have x1 := HX.out.cell 1
    have y1 := HX.out.free 1
    have x2 := HX.out.cell 2
    have y2 := HX.out.free 2
    simp only [List.getElem?_cons_zero, List.getElem?_cons_succ] at x0 x1 x2
    go_wp2_with fail
    refine HTY.out.mono ?_
    rintro r w3 ⟨i6, k6, xs, v, hg6, rfl, hr3, b3⟩
    have HG := Lib.hid hg6
    have HV := Lib.hid hr3
    obtain ⟨q, cc, rfl, _⟩ := hr3
    have HB3 := Lib.hid (HB.out.trans (b3.mono HB.out.size))
    have HT3 := Lib.hid (HT.out.later b3)
    have hb4 : Below w3.heap.size w3 (w3.alloc (.cells #[.slice (some ⟨tb, 0, none⟩) (tokS l).1.length c, .int .i64 (i6 : Nat), .int .i64 (k6 : Nat), .int .i64 (0 : Nat), .int .i64 (0 : Nat)] 68)) := (Below.refl _ _).alloc (Nat.le_refl _) _
    have HP : Hid (Arr (w3.alloc (.cells #[.slice (some ⟨tb, 0, none⟩) (tokS l).1.length c, .int .i64 (i6 : Nat), .int .i64 (k6 : Nat), .int .i64 (0 : Nat), .int .i64 (0 : Nat)] 68)) 68 w3.heap.size [.slice (some ⟨tb, 0, none⟩) (tokS l).1.length c, .int .i64 (i6 : Nat), .int .i64 (k6 : Nat), .int .i64 (0 : Nat), .int .i64 (0 : Nat)]) := Arr.new' _ _ _ _ rfl
    have HT4 := Lib.hid (HT3.out.later hb4)
    have HB4 := Lib.hid (HB3.out.trans (hb4.mono HB3.out.size))
    have HV4 : Hid (VA w.heap.size xs (w3.alloc (.cells #[.slice (some ⟨tb, 0, none⟩) (tokS l).1.length c, .int .i64 (i6 : Nat), .int .i64 (k6 : Nat), .int .i64 (0 : Nat), .int .i64 (0 : Nat)] 68)) (.slice q xs.length cc)) := VA.low (VA.later (B := w2.heap.size) HV.out hb4) HSZ.out
    have HFN := Lib.hid (rfin_any (c := c) (k := k6) (s := ⟨i6, 0, 0⟩) HT4.out hg6.1)
    have hg7 : Go1 (tokS l).1 k6 i6 0 0 xs (typesR (tokS l).1 ps0) := by
      have h := hg6
      rw [st_0 rfl] at h
      exact h
    have HRF := Lib.hid (fin_read HE0.out hg7)
    clear hg6 hg7 b3 hb4 HB HT HT3 HB3 HTY HV
    clear x0 y0 x1 y1 x2 y2
    have HFO : Hid (finO (tokS l).1 k6 i6 = if finK (tokS l).1 k6 i6 = 0 then 0 else ((offT (tokS l).1 i6 : Nat) : Int)) := by
      show _ = _
      unfold finO
      rw [offs_nat]
    obtain ⟨kf, hkf⟩ : ∃ x, x = finK (tokS l).1 k6 i6 := ⟨_, rfl⟩
    obtain ⟨ko, hko⟩ : ∃ x, x = finO (tokS l).1 k6 i6 := ⟨_, rfl⟩
    have HFN : Hid (Calls Tryd.prog 23 #[.agg #[.slice (some ⟨tb, 0, none⟩) (tokS l).1.length c, .int .i64 (i6 : Nat), .int .i64 (k6 : Nat), .int .i64 (0 : Nat), .int .i64 (0 : Nat)]] (w3.alloc (.cells #[.slice (some ⟨tb, 0, none⟩) (tokS l).1.length c, .int .i64 (i6 : Nat), .int .i64 (k6 : Nat), .int .i64 (0 : Nat), .int .i64 (0 : Nat)] 68)) fun e w' => e = .returned (.tuple #[.int .i64 (kf : Nat), .int .i64 ko]) ∧ Below (w3.alloc (.cells #[.slice (some ⟨tb, 0, none⟩) (tokS l).1.length c, .int .i64 (i6 : Nat), .int .i64 (k6 : Nat), .int .i64 (0 : Nat), .int .i64 (0 : Nat)] 68)).heap.size (w3.alloc (.cells #[.slice (some ⟨tb, 0, none⟩) (tokS l).1.length c, .int .i64 (i6 : Nat), .int .i64 (k6 : Nat), .int .i64 (0 : Nat), .int .i64 (0 : Nat)] 68)) w') := by rw [hkf, hko]; exact HFN.out
    rw [← hkf] at HRF HFO
    rw [← hko] at HFO
    clear hkf hko
    have p0 := HP.out.cell 0
    have z0 := HP.out.free 0
    have p1 := HP.out.cell 1
    have z1 := HP.out.free 1
    have p2 := HP.out.cell 2
    have z2 := HP.out.free 2
    have p3 := HP.out.cell 3
    have z3 := HP.out.free 3
    have p4 := HP.out.cell 4
    have z4 := HP.out.free 4
    simp only [List.getElem?_cons_zero, List.getElem?_cons_succ] at p0 p1 p2 p3 p4
    go_wp2_with fail
    refine HFN.out.mono ?_
    rintro r w5 ⟨rfl, b5⟩
    have HB5 := Lib.hid (HB4.out.trans (b5.mono HB4.out.size))
    have HV5 := Lib.hid (HV4.out.later b5)
    clear b5 HFN
    clear p0 z0 p1 z1 p2 z2 p3 z3 p4 z4
    by_cases hK : kf = 0
    · have hk7 : ((kf : Int) != 0) = false := by rw [hK]; rfl
      have HRE : Hid (readF typesR l = .ok xs) := by
        have h := HRF.out
        rw [if_pos hK] at h
        exact h
      clear hK HRF HFO
      go_wp2_with fail
      refine bodyPost_ret (v := .tuple #[.slice q xs.length cc, .int .i64 0, .int .i64 0]) ?_ rfl ⟨HB5.out, .inl ⟨xs, _, HRE.out, rfl, HV5.out⟩⟩
      simp [results, Tryd.results14, go_sem]
    · have hk7 : ((kf : Int) != 0) = true := bne_iff_ne.2 (by omega)
      have HRE : Hid (readF typesR l = .bad kf (offT (tokS l).1 i6) ∧ kf ≠ 0 ∧ ko = ((offT (tokS l).1 i6 : Nat) : Int)) := by
        have h := HRF.out
        have h2 := HFO.out
        rw [if_neg hK] at h h2
        exact ⟨h, hK, h2⟩
      clear hK HRF HFO
      go_wp2_with fail
      refine bodyPost_ret (v := .tuple #[.slice none 0 0, .int .i64 (kf : Nat), .int .i64 ko]) ?_ rfl ⟨HB5.out, .inr ⟨kf, offT (tokS l).1 i6, HRE.out.2.1, HRE.out.1, by rw [HRE.out.2.2]⟩⟩
      simp [results, Tryd.results14, go_sem]
  · have HRE := Lib.hid (readF_lex (rule := typesR) h0)
    obtain ⟨q, c, rfl, _⟩ := r1.form
    have hb2 : Below w1.heap.size w1 (w1.alloc (.cells #[.slice q ((tokS l).1).length c, .int .i64 ((tokS l).2.1 : Nat), .int .i64 ((tokS l).2.2 : Nat)] 65)) := (Below.refl _ _).alloc (Nat.le_refl _) _
    have HX : Hid (Arr (w1.alloc (.cells #[.slice q ((tokS l).1).length c, .int .i64 ((tokS l).2.1 : Nat), .int .i64 ((tokS l).2.2 : Nat)] 65)) 65 w1.heap.size [.slice q ((tokS l).1).length c, .int .i64 ((tokS l).2.1 : Nat), .int .i64 ((tokS l).2.2 : Nat)]) := Arr.new' _ _ _ _ rfl
    have HB := Lib.hid (b1.trans (hb2.mono b1.size))
    have h0' : (((tokS l).2.1 : Int) != 0) = true := bne_iff_ne.2 (by omega)
    clear r1 b1 hb2 HLX
    go_upto_region 2 with (fail)
    generalize w1.alloc (.cells #[.slice q ((tokS l).1).length c, .int .i64 ((tokS l).2.1 : Nat), .int .i64 ((tokS l).2.2 : Nat)] 65) = w2 at HX HB ⊢
    obtain ⟨g, hg⟩ : ∃ g, g = w1.heap.size := ⟨_, rfl⟩
    rw [← hg] at HX ⊢
    clear hg
    have x0 := HX.out.cell 0
    have y0 := HX.out.free 0
    have x1 := HX.out.cell 1
    have y1 := HX.out.free 1
    have x2 := HX.out.cell 2
    have y2 := HX.out.free 2
    simp only [List.getElem?_cons_zero, List.getElem?_cons_succ] at x0 x1 x2
    go_upto_region 3 with (fail)
    clear x0 y0 x1 y1 x2 y2
    clear h0'
    refine wp_region_held_drew (S := fun W' => Arr W' 65 g [.slice q ((tokS l).1).length c, .int .i64 ((tokS l).2.1 : Nat), .int .i64 ((tokS l).2.2 : Nat)]) (by kernel_rfl) (HX.out.later (Below.refl _ _).drew) (fun hHeld => ?_)
    try simp only [Act.put]
    have HB := Lib.hid (HB.out.trans ((Below.refl w2.heap.size w2).drew.mono HB.out.size))
    generalize w2.drew = w3 at hHeld HB ⊢
    refine wpAnyH_take (i := 0) (oi := ⟨some 15, _, _, _, _, _⟩) (v := .pointer (some ⟨g, 1, none⟩)) rfl (by kernel_rfl) (by kernel_rfl) (by kernel_rfl) (fun _ _ _ h => h) (.inl ⟨by rfl, fun w' hSw => ?_⟩) hHeld ?_
    focus (skip; clear hHeld; go_simp)
    try simp only [Act.put, List.setIfInBounds_toArray, List.set_cons_zero, List.set_cons_succ]
    refine wpAnyH_take (i := 1) (oi := ⟨some 16, _, _, _, _, _⟩) (v := .int .i64 ((tokS l).2.1 : Nat)) rfl (by kernel_rfl) (by kernel_rfl) (by kernel_rfl) (fun _ _ _ h => h) (.inl ⟨by rfl, fun w' hSw => ?_⟩) hHeld ?_
    focus (have q := hSw; have q0 := q.cell 0; have q1 := q.cell 1; have q2 := q.cell 2; simp only [List.getElem?_cons_zero, List.getElem?_cons_succ] at q0 q1 q2; clear hHeld; go_simp)
    try simp only [Act.put, List.setIfInBounds_toArray, List.set_cons_zero, List.set_cons_succ]
    refine wpAnyH_take (i := 2) (oi := ⟨some 17, _, _, _, _, _⟩) (v := .pointer (some ⟨g, 2, none⟩)) rfl (by kernel_rfl) (by kernel_rfl) (by kernel_rfl) (fun _ _ _ h => h) (.inl ⟨by rfl, fun w' hSw => ?_⟩) hHeld ?_
    focus (skip; clear hHeld; go_simp)
    try simp only [Act.put, List.setIfInBounds_toArray, List.set_cons_zero, List.set_cons_succ]
    refine wpAnyH_take (i := 3) (oi := ⟨some 18, _, _, _, _, _⟩) (v := .int .i64 ((tokS l).2.2 : Nat)) rfl (by kernel_rfl) (by kernel_rfl) (by kernel_rfl) (fun _ _ _ h => h) (.inl ⟨by rfl, fun w' hSw => ?_⟩) hHeld ?_
    focus (have q := hSw; have q0 := q.cell 0; have q1 := q.cell 1; have q2 := q.cell 2; simp only [List.getElem?_cons_zero, List.getElem?_cons_succ] at q0 q1 q2; clear hHeld; go_simp)
    try simp only [Act.put, List.setIfInBounds_toArray, List.set_cons_zero, List.set_cons_succ]
    refine wpAnyH_take (i := 4) (oi := ⟨some 2, _, _, _, _, _⟩) (v := .slice none 0 0) rfl (by kernel_rfl) (by kernel_rfl) (by kernel_rfl) (fun _ _ _ h => h) (.inl ⟨by rfl, fun w' hSw => ?_⟩) hHeld ?_
    focus (skip; clear hHeld; go_simp)
    try simp only [Act.put, List.setIfInBounds_toArray, List.set_cons_zero, List.set_cons_succ]
    refine wpAnyH_take (i := 5) (oi := ⟨some 3, _, _, _, _, _⟩) (v := .int .i64 ((tokS l).2.1 : Nat)) rfl (by kernel_rfl) (by kernel_rfl) (by kernel_rfl) (fun _ _ _ h => h) (.inl ⟨by rfl, fun w' hSw => ?_⟩) hHeld ?_
    focus (skip; clear hHeld; go_simp)
    try simp only [Act.put, List.setIfInBounds_toArray, List.set_cons_zero, List.set_cons_succ]
    refine wpAnyH_take (i := 6) (oi := ⟨some 4, _, _, _, _, _⟩) (v := .int .i64 ((tokS l).2.2 : Nat)) rfl (by kernel_rfl) (by kernel_rfl) (by kernel_rfl) (fun _ _ _ h => h) (.inl ⟨by rfl, fun w' hSw => ?_⟩) hHeld ?_
    focus (skip; clear hHeld; go_simp)
    try simp only [Act.put, List.setIfInBounds_toArray, List.set_cons_zero, List.set_cons_succ]
    refine wpAnyH_done (by kernel_rfl) ?_ _
    go_wp2_with fail
    refine bodyPost_ret (v := .tuple #[.slice none 0 0, .int .i64 ((tokS l).2.1 : Nat), .int .i64 ((tokS l).2.2 : Nat)]) ?_ rfl ⟨HB.out, .inr ⟨_, _, h0, HRE.out, rfl⟩⟩
    simp [results, Tryd.results14, go_sem]
end Go.Proofs.YteieimchleioaaaDoor
/-
  slices.Equal of the same types; ParseTypes.
-/
namespace Go.Proofs.YteieimchleioaaaDoor
open errAs (ErrT)
open Go.ChangeShapes Go.WideShapes Go.ChangeAt Go.RowKit
set_option linter.unusedVariables false

theorem als_at : ∀ (l : List AlB) (i : Nat), i < l.length → (als l)[i * 2]? = some (.string (bstr (l.getD i ([], [])).1)) ∧ (als l)[i * 2 + 1]? = some (.string (bstr (l.getD i ([], [])).2))
  | [], i, h => by simp at h
  | a :: r, 0, _ => ⟨rfl, rfl⟩
  | a :: r, i + 1, h => by
    have ih := als_at r i (by simpa using h)
    have e : als (a :: r) = alv a ++ als r := rfl
    rw [e, List.getElem?_append_right (by simp [alv]; omega), List.getElem?_append_right (by simp [alv]; omega)]
    simp only [alv, List.length_cons, List.length_nil, List.getD_cons_succ]
    rw [show (i + 1) * 2 - (0 + 1 + 1) = i * 2 by omega, show (i + 1) * 2 + 1 - (0 + 1 + 1) = i * 2 + 1 by omega]
    exact ih
theorem typesF_small {ts : List Tok} : ∀ (n : Nat) (acc : List AlB) (s : PS) (l : List AlB) (s' : PS), typesF ts n acc s = .ok l s' → acc.length ≤ 32 → l.length ≤ 32 + 1
  | 0, acc, s, l, s', h, ha => by unfold typesF at h; cases h; omega
  | n + 1, acc, s, l, s', h, ha => by
    unfold typesF at h
    split at h
    · cases h
    · rename_i h32
      obtain ⟨a, s1, e1, e2⟩ := then_some h
      split at e2
      · exact typesF_small n _ _ _ _ e2 (by rw [List.length_append, List.length_singleton]; omega)
      · cases e2; rw [List.length_append, List.length_singleton]; omega
theorem types_small {l : List UInt8} {x : List AlB} (h : readF typesR l = .ok x) : x.length ≤ 33 := by
  unfold readF at h
  split at h
  · cases hr : typesR (tokS l).1 ps0 with
    | ok y s =>
      rw [hr] at h
      unfold endF at h
      rw [PR.then_ok] at h
      split at h
      · cases h; exact typesF_small _ _ _ _ _ hr (by simp)
      · cases h
    | bad k i => rw [hr] at h; cases h
  · cases h
theorem RdA.at {P : Nat → Prop} {w : World} {l : List AlB} {q : Option Addr} {n c : Nat} (h : RdA P w l (.slice q n c)) {i : Nat} (hi : i < l.length) : ∃ b o, q = some ⟨b, o, none⟩ ∧ P b ∧ w.cell? ⟨b, o + i * 2, none⟩ = some (.string (bstr (l.getD i ([], [])).1)) ∧ w.cell? ⟨b, o + i * 2 + 1, none⟩ = some (.string (bstr (l.getD i ([], [])).2)) := by
  obtain ⟨q', c', e, _, h3⟩ := h
  simp only [Value.slice.injEq] at e
  obtain ⟨rfl, _, rfl⟩ := e
  obtain ⟨b, o, rfl, hb, hx⟩ := h3 (by omega)
  have ha := als_at l i hi
  exact ⟨b, o, rfl, hb, hx _ _ ha.1, hx _ _ ha.2⟩
set_option maxRecDepth 100000 in
set_option maxHeartbeats 2000000 in
theorem eqAl_any (l : List AlB) (q1 q2 : Option Addr) (c1 c2 : Nat) (P Q : Nat → Prop) (w : World) (h1 : RdA P w l (.slice q1 l.length c1)) (h2 : RdA Q w l (.slice q2 l.length c2)) (hP : ∀ b, P b → b < w.heap.size) (hQ : ∀ b, Q b → b < w.heap.size) (hl : l.length ≤ 100000) :
    Calls Tryd.prog 15 #[.slice q1 l.length c1, .slice q2 l.length c2] w fun e w' => e = .returned (.bool true) ∧ Below w.heap.size w w' := by
  have H1 := Lib.hid h1
  have H2 := Lib.hid h2
  have HP := Lib.hid hP
  have HQ := Lib.hid hQ
  have hz : (l.length : Int) ≤ 100000 := by omega
  clear h1 h2 hP hQ hl
  go_enter Tryd.func15, Tryd.ntmps15
  go_wp2_with fail
  go_loopw [13] (fun iv wr => ∃ i : Nat, i ≤ l.length ∧ iv = .int .i64 i ∧ Hid (Below w.heap.size w wr)) (fun iv _ => l.length - (intOf iv).toNat)
  case atStart => exact ⟨0, Nat.zero_le _, rfl, Below.refl _ _⟩
  case round =>
    obtain ⟨i, hi, rfl, HB⟩ := hrel
    have hi0 : (0 : Int) ≤ i := by omega
    by_cases hlt : i < l.length
    · have hi1 : (i : Int) < l.length := by omega
      obtain ⟨b, o, rfl, hb, x0, x1⟩ := H1.out.at hlt
      obtain ⟨b2, o2, rfl, hb2, y0, y1⟩ := H2.out.at hlt
      obtain ⟨t0, ht0⟩ : ∃ t, t = bstr (l.getD i ([], [])).1 := ⟨_, rfl⟩
      obtain ⟨t1, ht1⟩ : ∃ t, t = bstr (l.getD i ([], [])).2 := ⟨_, rfl⟩
      rw [← ht0] at x0 y0
      rw [← ht1] at x1 y1
      have HCL : Hid (wr.cell? ⟨b, o + i * 2, none⟩ = some (.string t0) ∧ wr.cell? ⟨b, o + i * 2 + 1, none⟩ = some (.string t1) ∧ wr.cell? ⟨b2, o2 + i * 2, none⟩ = some (.string t0) ∧ wr.cell? ⟨b2, o2 + i * 2 + 1, none⟩ = some (.string t1)) :=
        ⟨(HB.out.cell (p := ⟨b, _, none⟩) (HP.out b hb)).trans x0, (HB.out.cell (p := ⟨b, _, none⟩) (HP.out b hb)).trans x1, (HB.out.cell (p := ⟨b2, _, none⟩) (HQ.out b2 hb2)).trans y0, (HB.out.cell (p := ⟨b2, _, none⟩) (HQ.out b2 hb2)).trans y1⟩
      clear x0 x1 y0 y1 hb hb2 ht0 ht1 hlt
      go_upto_region 6 with (fail)
      refine wp_region_held_drew (S := fun W' => W'.cell? ⟨b, o + i * 2, none⟩ = some (.string t0) ∧ W'.cell? ⟨b, o + i * 2 + 1, none⟩ = some (.string t1) ∧ W'.cell? ⟨b2, o2 + i * 2, none⟩ = some (.string t0) ∧ W'.cell? ⟨b2, o2 + i * 2 + 1, none⟩ = some (.string t1)) (by kernel_rfl) HCL.out (fun hHeld => ?_)
      try simp only [Act.put]
      have HB := Lib.hid (HB.out.trans ((Below.refl wr.heap.size wr).drew.mono HB.out.size))
      generalize wr.drew = w3 at hHeld HB ⊢
      refine wpAnyH_take (i := 0) (oi := ⟨some 16, _, _, _, _, _⟩) (v := .slice (some ⟨b, o, none⟩) l.length c1) rfl (by kernel_rfl) (by kernel_rfl) (by kernel_rfl) (fun _ _ _ h => h) (.inl ⟨by rfl, fun w' hSw => ?_⟩) hHeld ?_
      focus (skip; clear hHeld; go_simp)
      try simp only [Act.put, List.setIfInBounds_toArray, List.set_cons_zero, List.set_cons_succ]
      refine wpAnyH_take (i := 1) (oi := ⟨some 17, _, _, _, _, _⟩) (v := .int .i64 (i : Nat)) rfl (by kernel_rfl) (by kernel_rfl) (by kernel_rfl) (fun _ _ _ h => h) (.inl ⟨by rfl, fun w' hSw => ?_⟩) hHeld ?_
      focus (skip; clear hHeld; go_simp)
      try simp only [Act.put, List.setIfInBounds_toArray, List.set_cons_zero, List.set_cons_succ]
      refine wpAnyH_take (i := 2) (oi := ⟨some 18, _, _, _, _, _⟩) (v := .pointer (some ⟨b, o + i * 2, none⟩)) rfl (by kernel_rfl) (by kernel_rfl) (by kernel_rfl) (fun _ _ _ h => h) (.inl ⟨by rfl, fun w' hSw => ?_⟩) hHeld ?_
      focus (skip; clear hHeld; go_simp)
      try simp only [Act.put, List.setIfInBounds_toArray, List.set_cons_zero, List.set_cons_succ]
      refine wpAnyH_take (i := 3) (oi := ⟨some 19, _, _, _, _, _⟩) (v := .agg #[.string t0, .string t1]) rfl (by kernel_rfl) (by kernel_rfl) (by kernel_rfl) (fun _ _ _ h => h) (.inl ⟨by rfl, fun w' hSw => ?_⟩) hHeld ?_
      focus (obtain ⟨q0, q1, q2, q3⟩ := hSw; clear hHeld; go_simp)
      try simp only [Act.put, List.setIfInBounds_toArray, List.set_cons_zero, List.set_cons_succ]
      refine wpAnyH_take (i := 4) (oi := ⟨some 20, _, _, _, _, _⟩) (v := .slice (some ⟨b2, o2, none⟩) l.length c2) rfl (by kernel_rfl) (by kernel_rfl) (by kernel_rfl) (fun _ _ _ h => h) (.inl ⟨by rfl, fun w' hSw => ?_⟩) hHeld ?_
      focus (skip; clear hHeld; go_simp)
      try simp only [Act.put, List.setIfInBounds_toArray, List.set_cons_zero, List.set_cons_succ]
      refine wpAnyH_take (i := 5) (oi := ⟨some 21, _, _, _, _, _⟩) (v := .int .i64 (i : Nat)) rfl (by kernel_rfl) (by kernel_rfl) (by kernel_rfl) (fun _ _ _ h => h) (.inl ⟨by rfl, fun w' hSw => ?_⟩) hHeld ?_
      focus (skip; clear hHeld; go_simp)
      try simp only [Act.put, List.setIfInBounds_toArray, List.set_cons_zero, List.set_cons_succ]
      refine wpAnyH_take (i := 6) (oi := ⟨some 22, _, _, _, _, _⟩) (v := .pointer (some ⟨b2, o2 + i * 2, none⟩)) rfl (by kernel_rfl) (by kernel_rfl) (by kernel_rfl) (fun _ _ _ h => h) (.inl ⟨by rfl, fun w' hSw => ?_⟩) hHeld ?_
      focus (skip; clear hHeld; go_simp)
      try simp only [Act.put, List.setIfInBounds_toArray, List.set_cons_zero, List.set_cons_succ]
      refine wpAnyH_take (i := 7) (oi := ⟨some 23, _, _, _, _, _⟩) (v := .agg #[.string t0, .string t1]) rfl (by kernel_rfl) (by kernel_rfl) (by kernel_rfl) (fun _ _ _ h => h) (.inl ⟨by rfl, fun w' hSw => ?_⟩) hHeld ?_
      focus (obtain ⟨q0, q1, q2, q3⟩ := hSw; clear hHeld; go_simp)
      try simp only [Act.put, List.setIfInBounds_toArray, List.set_cons_zero, List.set_cons_succ]
      refine wpAnyH_take (i := 8) (oi := ⟨some 24, _, _, _, _, _⟩) (v := .bool false) rfl (by kernel_rfl) (by kernel_rfl) (by kernel_rfl) (fun _ _ _ h => h) (.inl ⟨by rfl, fun w' hSw => ?_⟩) hHeld ?_
      focus (skip; clear hHeld; go_simp)
      try simp only [Act.put, List.setIfInBounds_toArray, List.set_cons_zero, List.set_cons_succ]
      refine wpAnyH_done (by kernel_rfl) ?_ _
      go_wp2_with fail
      go_roundw
      case rel => exact ⟨i + 1, by omega, by go_num, HB.out⟩
      case measure => simp [intOf]; omega
    · have hi1 : ¬ (i : Int) < l.length := by omega
      go_wp2_with fail
      go_ret
      exact ⟨rfl, HB.out⟩
set_option maxRecDepth 100000 in
set_option maxHeartbeats 4000000 in
theorem types_law (s : ByteArray) (w : World) (hz : s.size ≤ maxLen) (h : Env w) : Calls Tryd.prog 4 #[.string s] w fun e w' => e = .returned (.bool true) ∧ Below w.heap.size w w' := by
  have HAW := Lib.hid (awake_any w h)
  have HE := Lib.hid h
  clear h hz
  by_cases hs : s.size ≤ 3000
  · have hs1 : ¬ (3000 : Int) < s.size := by omega
    have HSZ := Lib.hid hs
    clear hs
    go_enter Tryd.func4, Tryd.ntmps4
    go_wp2_with fail
    refine HAW.out.mono ?_
    rintro r w1 ⟨rfl, b1⟩
    have HE1 := Lib.hid (HE.out.below b1)
    have HB1 := Lib.hid b1
    have HPA := Lib.hid (parseA_any s (Nat.le_trans HSZ.out (by decide)) w1 HE1.out.1)
    clear b1 HAW
    go_wp2_with fail
    refine HPA.out.mono ?_
    rintro r w2 h2
    have HRA := Lib.hid (refA_any s (Nat.le_trans HSZ.out (by decide)) w2)
    have hb2 := h2.1
    have HE2 := Lib.hid (HE1.out.below hb2)
    have HB2 := Lib.hid (HB1.out.trans (hb2.mono HB1.out.size))
    obtain ⟨-, ⟨x, v, e, rfl, hv⟩ | ⟨a, b, ha, e, rfl⟩⟩ := h2
    · have HR := Lib.hid e
      have HV := Lib.hid hv
      obtain ⟨q, c, rfl, _⟩ := hv
      clear e hb2 HPA
      go_wp2_with fail
      refine HRA.out.mono ?_
      rintro r w3 ⟨b3, ⟨y, u, e, rfl, hu⟩ | ⟨a, b, ha, e, rfl⟩⟩
      · have hxy : x = y := by have h := HR.out.symm.trans e; cases h; rfl
        subst hxy
        have HU := Lib.hid hu
        obtain ⟨q2, c2, rfl, _⟩ := hu
        have HE3 := Lib.hid (HE2.out.below b3)
        have HB3 := Lib.hid (HB2.out.trans (b3.mono HB2.out.size))
        have HEQ := Lib.hid (eqAl_any x q q2 c c2 _ _ w3 (VA.later HV.out b3) HU.out (fun b hb => hb.2) (fun b hb => hb.2) (by have := types_small HR.out; omega))
        have HTN := fun w => Lib.hid (told_none 0 w)
        have HTN := Lib.hid HTN
        clear e b3 HRA
        go_wp2_with fail
        refine HEQ.out.mono ?_
        rintro r w4 ⟨rfl, b4⟩
        have HB4 := Lib.hid (HB3.out.trans (b4.mono HB3.out.size))
        clear b4
        go_wp2_with fail
        refine ((HTN.out w4).out).mono ?_
        rintro r w5 ⟨rfl, h5⟩
        obtain rfl := h5
        go_wp2_with fail
        go_ret
        exact ⟨rfl, HB4.out⟩
      · exact absurd (HR.out.symm.trans e) (by intro h; cases h)
    · have HR := Lib.hid e
      have HA := Lib.hid ha
      clear e hb2 HPA
      unfold faultN
      go_wp2_with fail
      refine HRA.out.mono ?_
      rintro r w3 ⟨b3, ⟨y, u, e, rfl, hu⟩ | ⟨a2, b2, ha2, e, rfl⟩⟩
      · exact absurd (HR.out.symm.trans e) (by intro h; cases h)
      · have hxy : a = a2 ∧ b = b2 := by have h := HR.out.symm.trans e; cases h; exact ⟨rfl, rfl⟩
        obtain ⟨rfl, rfl⟩ := hxy
        have HE3 := Lib.hid (HE2.out.below b3)
        have HB3 := Lib.hid (HB2.out.trans (b3.mono HB2.out.size))
        have HEQ : Hid (Calls Tryd.prog 15 #[.slice none 0 0, .slice none 0 0] w3 fun e w' => e = .returned (.bool true) ∧ Below w3.heap.size w3 w') := eqAl_any [] none none 0 0 (fun _ => False) (fun _ => False) w3 (RdA.nil _ _) (RdA.nil _ _) (fun b hb => hb.elim) (fun b hb => hb.elim) (by decide)
        have HTF := Lib.hid (fun w (hw : ErrT w) => told_fault a b HA.out w hw)
        unfold faultN at HTF
        clear e b3 HRA ha2
        go_wp2_with fail
        refine HEQ.out.mono ?_
        rintro r w4 ⟨rfl, b4⟩
        have HE4 := Lib.hid (HE3.out.below b4)
        have HB4 := Lib.hid (HB3.out.trans (b4.mono HB3.out.size))
        clear b4
        go_wp2_with fail
        refine (HTF.out w4 HE4.out.2).mono ?_
        rintro r w5 ⟨rfl, b5⟩
        have HB5 := Lib.hid (HB4.out.trans (b5.mono HB4.out.size))
        clear b5
        go_wp2_with fail
        go_ret
        exact ⟨rfl, HB5.out⟩
  · have hs1 : (3000 : Int) < s.size := by omega
    clear hs
    have HA2 := Lib.hid (fun w (hw : Env w) => awake_any w hw)
    go_enter Tryd.func4, Tryd.ntmps4
    go_wp2_with fail
    refine HAW.out.mono ?_
    rintro r w1 ⟨rfl, b1⟩
    have HE1 := Lib.hid (HE.out.below b1)
    have HB1 := Lib.hid b1
    clear b1 HAW
    go_wp2_with fail
    refine (HA2.out w1 HE1.out).mono ?_
    rintro r w2 ⟨rfl, b2⟩
    have HB2 := Lib.hid (HB1.out.trans (b2.mono HB1.out.size))
    clear b2
    go_wp2_with fail
    go_ret
    exact ⟨rfl, HB2.out⟩
end Go.Proofs.YteieimchleioaaaDoor
