/-
  vestrylaw23.MergeSets.
-/
import Derived.Test.YtebbbiikphfjcaaMgR
namespace Go.Proofs.Ytebbbiikphfjcaa
open Go.ChangeShapes Go.WideShapes Go.ChangeAt Go.RowKit
set_option linter.unusedVariables false

/-- A tuple in a block of its own. -/
def TBox (w : World) (g : Nat) (t : Tu) : Prop := g < w.heap.size ∧ TuAt w g t
theorem TBox.below {w w' : World} {g : Nat} {t : Tu} (h : TBox w g t) (hb : Below w.heap.size w w') : TBox w' g t := ⟨Nat.lt_of_lt_of_le h.1 hb.size, Arr.later h.2 hb⟩
theorem rangeT_len (l : List Tu) (o : ByteArray × ByteArray) : (rangeT l o).length ≤ l.length := List.length_filter_le _ _
set_option maxRecDepth 100000 in
set_option maxHeartbeats 4000000 in
theorem msets_any {w : World} {xv yv : Value} {x y : List Tu} {t : Tu} (hx : TuRd w xv x) (hy : TuRd w yv y) (hzx : ∀ t ∈ x, sizesT t 140737488355328) (hlx : x.length ≤ 140737488355328) (hzy : ∀ t ∈ y, sizesT t 140737488355328) (hly : y.length ≤ 140737488355328) (hzt : sizesT t 140737488355328) :
    Calls Try.prog 4 #[xv, yv, tuV t] w fun e w' => e = .returned (.bool true) ∧ Below w.heap.size w w' := by
  have HB0 := Lib.hid (Below.refl w.heap.size w)
  have HX0 := Lib.hid hx
  have HY0 := Lib.hid hy
  obtain ⟨px, cx, rfl, _⟩ := hx.form tc_length (by decide)
  obtain ⟨py, cy, rfl, _⟩ := hy.form tc_length (by decide)
  clear hx hy
  go_enter Try.func4, Try.ntmps4
  go_wp2_with fail
  have HT0 : Hid (TBox (w.alloc (.cells (tc t).toArray 34)) w.heap.size t) := ⟨by simp, tu_new w t⟩
  have b0 : Below w.heap.size w (w.alloc (.cells (tc t).toArray 34)) := (Below.refl _ _).alloc (Nat.le_refl _) _
  have HX1 := Lib.hid (HX0.out.below b0)
  have HY1 := Lib.hid (HY0.out.below b0)
  have HB1 := Lib.hid b0
  clear b0 HX0 HY0 HB0
  generalize (w.alloc (.cells (tc t).toArray 34)) = w0 at HT0 HX1 HY1 HB1 ⊢
  have HC2 := Lib.hid (mawake_any w0)
  refine HC2.out.mono ?_
  rintro e w2 ⟨rfl, b2⟩
  clear HC2
  have HB2 := Lib.hid (HB1.out.trans ((b2).mono HB1.out.size))
  have X_2 := Lib.hid (HX1.out.below (b2))
  have Y_2 := Lib.hid (HY1.out.below (b2))
  have T_2 := Lib.hid (HT0.out.below (b2))
  clear b2 HB1 HX1 HY1 HT0
  have HC3 := Lib.hid (few_any X_2.out hzx hlx)
  go_wp2_with fail
  refine HC3.out.mono ?_
  rintro e w3 ⟨rfl, b3⟩
  clear HC3
  have HB3 := Lib.hid (HB2.out.trans ((b3).mono HB2.out.size))
  have X_3 := Lib.hid (X_2.out.below (b3))
  have Y_3 := Lib.hid (Y_2.out.below (b3))
  have T_3 := Lib.hid (T_2.out.below (b3))
  clear b3 HB2 X_2 Y_2 T_2
  rcases hfx : fewT x with _ | _
  · have HC54 := Lib.hid (mawake_any w3)
    go_wp2_with fail
    refine HC54.out.mono ?_
    rintro e w54 ⟨rfl, b54⟩
    clear HC54
    have HB54 := Lib.hid (HB3.out.trans ((b54).mono HB3.out.size))
    have X_54 := Lib.hid (X_3.out.below (b54))
    have Y_54 := Lib.hid (Y_3.out.below (b54))
    have T_54 := Lib.hid (T_3.out.below (b54))
    clear b54 HB3 X_3 Y_3 T_3
    go_wp2_with fail
    go_ret
    exact ⟨rfl, HB54.out⟩
  have hfx' := fewT_out hfx
  have ZX : Hid (∀ t ∈ x, sizesT t 1000000) := fun t ht => (hfx'.1 t ht).mono (by decide)
  have LX : Hid (x.length ≤ 60) := hfx'.2
  clear hfx hfx'
  have HC4 := Lib.hid (few_any Y_3.out hzy hly)
  go_wp2_with fail
  refine HC4.out.mono ?_
  rintro e w4 ⟨rfl, b4⟩
  clear HC4
  have HB4 := Lib.hid (HB3.out.trans ((b4).mono HB3.out.size))
  have X_4 := Lib.hid (X_3.out.below (b4))
  have Y_4 := Lib.hid (Y_3.out.below (b4))
  have T_4 := Lib.hid (T_3.out.below (b4))
  clear b4 HB3 X_3 Y_3 T_3
  rcases hfy : fewT y with _ | _
  · have HC55 := Lib.hid (mawake_any w4)
    go_wp2_with fail
    refine HC55.out.mono ?_
    rintro e w55 ⟨rfl, b55⟩
    clear HC55
    have HB55 := Lib.hid (HB4.out.trans ((b55).mono HB4.out.size))
    have X_55 := Lib.hid (X_4.out.below (b55))
    have Y_55 := Lib.hid (Y_4.out.below (b55))
    have T_55 := Lib.hid (T_4.out.below (b55))
    clear b55 HB4 X_4 Y_4 T_4
    go_wp2_with fail
    go_ret
    exact ⟨rfl, HB55.out⟩
  have hfy' := fewT_out hfy
  have ZY : Hid (∀ t ∈ y, sizesT t 1000000) := fun t ht => (hfy'.1 t ht).mono (by decide)
  have LY : Hid (y.length ≤ 60) := hfy'.2
  clear hfy hfy'
  clear hzx hlx hzy hly
  have HC5 := Lib.hid (short_any t hzt w4)
  have HAR : Hid (Arr w4 34 w.heap.size (tc t)) := T_4.out.2
  go_wp2_with ((with_reducible refine loadX (x := .tmp 5) (o := ⟨some 24, _, _, _, _, _⟩) HAR.out ?_ ?_); exact ⟨by rfl, rfl, by rfl⟩)
  refine HC5.out.mono ?_
  rintro e w5 ⟨rfl, b5⟩
  clear HC5 HAR
  have HB5 := Lib.hid (HB4.out.trans ((b5).mono HB4.out.size))
  have X_5 := Lib.hid (X_4.out.below (b5))
  have Y_5 := Lib.hid (Y_4.out.below (b5))
  have T_5 := Lib.hid (T_4.out.below (b5))
  clear b5 HB4 X_4 Y_4 T_4
  rcases hft : shortT t with _ | _
  · have HC56 := Lib.hid (mawake_any w5)
    go_wp2_with fail
    refine HC56.out.mono ?_
    rintro e w56 ⟨rfl, b56⟩
    clear HC56
    have HB56 := Lib.hid (HB5.out.trans ((b56).mono HB5.out.size))
    have X_56 := Lib.hid (X_5.out.below (b56))
    have Y_56 := Lib.hid (Y_5.out.below (b56))
    have T_56 := Lib.hid (T_5.out.below (b56))
    clear b56 HB5 X_5 Y_5 T_5
    go_wp2_with fail
    go_ret
    exact ⟨rfl, HB56.out⟩
  clear hft hzt
  have HC6 := Lib.hid (rsorted_any X_5.out ZX.out (by have := LX.out; omega))
  go_wp2_with fail
  refine HC6.out.mono ?_
  rintro e w6 ⟨v6, rfl, b6, t6⟩
  clear HC6
  have A_6 : Hid (TuSl w6 v6 (sortedT x)) := t6
  have HB6 := Lib.hid (HB5.out.trans ((b6).mono HB5.out.size))
  have X_6 := Lib.hid (X_5.out.below (b6))
  have Y_6 := Lib.hid (Y_5.out.below (b6))
  have T_6 := Lib.hid (T_5.out.below (b6))
  clear b6 HB5 X_5 Y_5 T_5
  clear t6
  obtain ⟨a, ha⟩ : ∃ a, a = sortedT x := ⟨_, rfl⟩
  rw [← ha] at A_6
  have HEA := Lib.hid ha
  clear ha
  obtain ⟨qa, ma, rfl, _⟩ := A_6.out.src
  have HC7 := Lib.hid (rsorted_any Y_6.out ZY.out (by have := LY.out; omega))
  go_wp2_with fail
  refine HC7.out.mono ?_
  rintro e w7 ⟨v7, rfl, b7, t7⟩
  clear HC7
  have B_7 : Hid (TuSl w7 v7 (sortedT y)) := t7
  have HB7 := Lib.hid (HB6.out.trans ((b7).mono HB6.out.size))
  have X_7 := Lib.hid (X_6.out.below (b7))
  have Y_7 := Lib.hid (Y_6.out.below (b7))
  have T_7 := Lib.hid (T_6.out.below (b7))
  have A_7 := Lib.hid (A_6.out.below (b7))
  clear b7 HB6 X_6 Y_6 T_6 A_6
  clear t7
  obtain ⟨b, hb⟩ : ∃ b, b = sortedT y := ⟨_, rfl⟩
  rw [← hb] at B_7
  have HEB := Lib.hid hb
  clear hb
  obtain ⟨qb, mb, rfl, _⟩ := B_7.out.src
  have RA : Hid (Ris a) := by rw [HEA.out]; exact sorted_ris x
  have RB : Hid (Ris b) := by rw [HEB.out]; exact sorted_ris y
  have NA : Hid (a.length ≤ 60) := by rw [HEA.out]; exact Nat.le_trans (sorted_few x) LX.out
  have NB : Hid (b.length ≤ 60) := by rw [HEB.out]; exact Nat.le_trans (sorted_few y) LY.out
  obtain ⟨p, hp⟩ : ∃ p, p = minusT a b := ⟨_, rfl⟩
  obtain ⟨q, hq⟩ : ∃ q, q = minusT b a := ⟨_, rfl⟩
  have EP : Hid (minusT a b = p) := hp.symm
  have EQ : Hid (minusT b a = q) := hq.symm
  have EPG : Hid (minG a b = p) := (minG_eq a b RA.out RB.out).trans hp.symm
  have EQG : Hid (minG b a = q) := (minG_eq b a RB.out RA.out).trans hq.symm
  have NP : Hid (p.length ≤ 140737488355328) := by show _ ≤ _; rw [hp]; exact Nat.le_trans (List.length_filter_le _ _) (Nat.le_trans NA.out (by decide))
  have NQ : Hid (q.length ≤ 140737488355328) := by show _ ≤ _; rw [hq]; exact Nat.le_trans (List.length_filter_le _ _) (Nat.le_trans NB.out (by decide))
  obtain ⟨hb, hhb⟩ : ∃ c, c = hasT a t := ⟨_, rfl⟩
  have EH : Hid (hasT a t = hb) := hhb.symm
  obtain ⟨r, hr⟩ : ∃ r, r = rangeT a (t.ot, t.oi) := ⟨_, rfl⟩
  have ER : Hid (rangeT a (t.ot, t.oi) = r) := hr.symm
  have NR : Hid (r.length ≤ 140737488355328) := by show _ ≤ _; rw [hr]; exact Nat.le_trans (rangeT_len a _) (Nat.le_trans NA.out (by decide))
  obtain ⟨s, hs⟩ : ∃ s, s = risB x := ⟨_, rfl⟩
  have ES : Hid (risB x = s) := hs.symm
  clear HEA HEB hp hq hhb hr hs
  have HC8 := Lib.hid (diff_any A_7.out B_7.out (by have := NA.out; omega) (by have := NB.out; omega))
  go_wp2_with fail
  refine HC8.out.mono ?_
  rintro e w8 ⟨v18, v28, rfl, b8, t18, t28⟩
  clear HC8
  have D1_8 : Hid (TuSl w8 v18 q) := by rw [← EQG.out]; exact t18
  have D2_8 : Hid (TuSl w8 v28 p) := by rw [← EPG.out]; exact t28
  have HB8 := Lib.hid (HB7.out.trans ((b8).mono HB7.out.size))
  have X_8 := Lib.hid (X_7.out.below (b8))
  have Y_8 := Lib.hid (Y_7.out.below (b8))
  have T_8 := Lib.hid (T_7.out.below (b8))
  have A_8 := Lib.hid (A_7.out.below (b8))
  have B_8 := Lib.hid (B_7.out.below (b8))
  clear b8 HB7 X_7 Y_7 T_7 A_7 B_7
  clear t18 t28
  obtain ⟨q1, m1, rfl, _⟩ := D1_8.out.src
  obtain ⟨q2, m2, rfl, _⟩ := D2_8.out.src
  go_wp2_with fail
  have HTR : Hid (∀ w', Below w8.heap.size w8 w' → w'.rangeAt w.heap.size 0 (tc t)) := fun w' h => (T_8.out.below h).2.range
  have HTO : Hid (∀ w', Below w8.heap.size w8 w' → w'.rangeAt w.heap.size 0 [.string t.ot, .string t.oi]) := fun w' h j u hj => by
    refine HTR.out w' h j u ?_
    match j, hj with
    | 0, hj => exact hj
    | 1, hj => exact hj
    | j + 2, hj => simp at hj
  refine wp_region_noPanic ?_
  refine wp_region_held_drew (S := Below w8.heap.size w8) (by kernel_rfl) ((Below.refl _ _).drew) (fun hHeld => ?_)
  try simp only [Act.put]
  generalize w8.drew = wd at hHeld ⊢
  refine wpAnyH_take (i := 0) (oi := ⟨some 39, _, _, _, _, _⟩) (v := .slice qa a.length ma) rfl (by kernel_rfl) (by kernel_rfl) (by kernel_rfl) (fun _ _ _ h => h) (.inl ⟨by rfl, fun w' hSw => ?_⟩) hHeld ?_
  focus (skip; clear hHeld; go_simp)
  try simp only [Act.put, List.setIfInBounds_toArray, List.set_cons_zero, List.set_cons_succ]
  refine wpAnyH_take (i := 1) (oi := ⟨some 40, _, _, _, _, _⟩) (v := .slice qb b.length mb) rfl (by kernel_rfl) (by kernel_rfl) (by kernel_rfl) (fun _ _ _ h => h) (.inl ⟨by rfl, fun w' hSw => ?_⟩) hHeld ?_
  focus (skip; clear hHeld; go_simp)
  try simp only [Act.put, List.setIfInBounds_toArray, List.set_cons_zero, List.set_cons_succ]
  refine wpAnyH_take (i := 3) (oi := ⟨some 42, _, _, _, _, _⟩) (v := .slice qa a.length ma) rfl (by kernel_rfl) (by kernel_rfl) (by kernel_rfl) (fun _ _ _ h => h) (.inl ⟨by rfl, fun w' hSw => ?_⟩) hHeld ?_
  focus (skip; clear hHeld; go_simp)
  try simp only [Act.put, List.setIfInBounds_toArray, List.set_cons_zero, List.set_cons_succ]
  refine wpAnyH_take (i := 4) (oi := ⟨some 43, _, _, _, _, _⟩) (v := .slice qb b.length mb) rfl (by kernel_rfl) (by kernel_rfl) (by kernel_rfl) (fun _ _ _ h => h) (.inl ⟨by rfl, fun w' hSw => ?_⟩) hHeld ?_
  focus (skip; clear hHeld; go_simp)
  try simp only [Act.put, List.setIfInBounds_toArray, List.set_cons_zero, List.set_cons_succ]
  refine wpAnyH_ready (rs := [2]) (by kernel_rfl) (by simp) ?_
  refine AllReadyH.cons (o := ⟨some 41, _, _, _, _, _⟩) rfl (fun K' hK' => ?_) AllReadyH.nil
  refine stepw_call (R := fun v w'' => (TuSl w'' v p) ∧ Below w8.heap.size w8 w'') (by rfl) ?_ ((minus_any (A_8.out.below hHeld) (B_8.out.below hHeld) (by have := NA.out; omega) (by have := NB.out; omega)).mono fun e w'' ⟨v', h1, b1, h3⟩ => ⟨v', h1, by rw [← EPG.out]; exact h3, hHeld.trans (b1.mono hHeld.size)⟩) ?_
  focus go_simp
  rintro v41 w41 ⟨h41, hkn⟩
  refine hK'.out _ _ hkn (fun _ => ?_)
  clear hK' K' hHeld
  have hHeld := hkn
  clear hkn
  try simp only [Act.put, List.setIfInBounds_toArray, List.set_cons_zero, List.set_cons_succ]
  refine wpAnyH_ready (rs := [5]) (by kernel_rfl) (by simp) ?_
  refine AllReadyH.cons (o := ⟨some 44, _, _, _, _, _⟩) rfl (fun K' hK' => ?_) AllReadyH.nil
  refine stepw_call (R := fun v w'' => (TuSl w'' v p ∧ TuSl w'' v41 p) ∧ Below w8.heap.size w8 w'') (by rfl) ?_ ((rminus_any (A_8.out.below hHeld).rd (B_8.out.below hHeld).rd (by have := NA.out; omega) (by have := NB.out; omega)).mono fun e w'' ⟨v', h1, b1, h3⟩ => ⟨v', h1, ⟨by rw [← EP.out]; exact h3, h41.below b1⟩, hHeld.trans (b1.mono hHeld.size)⟩) ?_
  focus go_simp
  rintro v44 w44 ⟨⟨h44, h41⟩, hkn⟩
  refine hK'.out _ _ hkn (fun _ => ?_)
  clear hK' K' hHeld
  have hHeld := hkn
  clear hkn
  try simp only [Act.put, List.setIfInBounds_toArray, List.set_cons_zero, List.set_cons_succ]
  refine wpAnyH_ready (rs := [6]) (by kernel_rfl) (by simp) ?_
  refine AllReadyH.cons (o := ⟨some 45, _, _, _, _, _⟩) rfl (fun K' hK' => ?_) AllReadyH.nil
  refine stepw_call (R := fun v w'' => v = .bool true ∧ Below w8.heap.size w8 w'') (by rfl) ?_ ((samel_any h41.rd h44.rd NP.out NP.out).mono fun e w'' ⟨h1, b1⟩ => ⟨_, h1, by rw [same_self], hHeld.trans (b1.mono hHeld.size)⟩) ?_
  focus go_simp
  rintro v w45 ⟨rfl, hkn⟩
  refine hK'.out _ _ hkn (fun _ => ?_)
  clear hK' K' hHeld
  have hHeld := hkn
  clear hkn
  try simp only [Act.put, List.setIfInBounds_toArray, List.set_cons_zero, List.set_cons_succ]
  clear h41 h44
  refine wpAnyH_take (i := 7) (oi := ⟨some 46, _, _, _, _, _⟩) (v := .bool true) rfl (by kernel_rfl) (by kernel_rfl) (by kernel_rfl) (fun _ _ _ h => h) (.inl ⟨by rfl, fun w' hSw => ?_⟩) hHeld ?_
  focus (skip; clear hHeld; go_simp)
  try simp only [Act.put, List.setIfInBounds_toArray, List.set_cons_zero, List.set_cons_succ]
  refine wpAnyH_take (i := 8) (oi := ⟨some 47, _, _, _, _, _⟩) (v := .slice q1 q.length m1) rfl (by kernel_rfl) (by kernel_rfl) (by kernel_rfl) (fun _ _ _ h => h) (.inl ⟨by rfl, fun w' hSw => ?_⟩) hHeld ?_
  focus (skip; clear hHeld; go_simp)
  try simp only [Act.put, List.setIfInBounds_toArray, List.set_cons_zero, List.set_cons_succ]
  refine wpAnyH_take (i := 9) (oi := ⟨some 48, _, _, _, _, _⟩) (v := .slice qb b.length mb) rfl (by kernel_rfl) (by kernel_rfl) (by kernel_rfl) (fun _ _ _ h => h) (.inl ⟨by rfl, fun w' hSw => ?_⟩) hHeld ?_
  focus (skip; clear hHeld; go_simp)
  try simp only [Act.put, List.setIfInBounds_toArray, List.set_cons_zero, List.set_cons_succ]
  refine wpAnyH_take (i := 10) (oi := ⟨some 49, _, _, _, _, _⟩) (v := .slice qa a.length ma) rfl (by kernel_rfl) (by kernel_rfl) (by kernel_rfl) (fun _ _ _ h => h) (.inl ⟨by rfl, fun w' hSw => ?_⟩) hHeld ?_
  focus (skip; clear hHeld; go_simp)
  try simp only [Act.put, List.setIfInBounds_toArray, List.set_cons_zero, List.set_cons_succ]
  refine wpAnyH_ready (rs := [11]) (by kernel_rfl) (by simp) ?_
  refine AllReadyH.cons (o := ⟨some 50, _, _, _, _, _⟩) rfl (fun K' hK' => ?_) AllReadyH.nil
  refine stepw_call (R := fun v w'' => (TuSl w'' v q) ∧ Below w8.heap.size w8 w'') (by rfl) ?_ ((rminus_any (B_8.out.below hHeld).rd (A_8.out.below hHeld).rd (by have := NB.out; omega) (by have := NA.out; omega)).mono fun e w'' ⟨v', h1, b1, h3⟩ => ⟨v', h1, by rw [← EQ.out]; exact h3, hHeld.trans (b1.mono hHeld.size)⟩) ?_
  focus go_simp
  rintro v50 w50 ⟨h50, hkn⟩
  refine hK'.out _ _ hkn (fun _ => ?_)
  clear hK' K' hHeld
  have hHeld := hkn
  clear hkn
  try simp only [Act.put, List.setIfInBounds_toArray, List.set_cons_zero, List.set_cons_succ]
  refine wpAnyH_ready (rs := [12]) (by kernel_rfl) (by simp) ?_
  refine AllReadyH.cons (o := ⟨some 51, _, _, _, _, _⟩) rfl (fun K' hK' => ?_) AllReadyH.nil
  refine stepw_call (R := fun v w'' => v = .bool true ∧ Below w8.heap.size w8 w'') (by rfl) ?_ ((samel_any (D1_8.out.below hHeld).rd h50.rd NQ.out NQ.out).mono fun e w'' ⟨h1, b1⟩ => ⟨_, h1, by rw [same_self], hHeld.trans (b1.mono hHeld.size)⟩) ?_
  focus go_simp
  rintro v w51 ⟨rfl, hkn⟩
  refine hK'.out _ _ hkn (fun _ => ?_)
  clear hK' K' hHeld
  have hHeld := hkn
  clear hkn
  try simp only [Act.put, List.setIfInBounds_toArray, List.set_cons_zero, List.set_cons_succ]
  clear h50
  refine wpAnyH_take (i := 13) (oi := ⟨some 52, _, _, _, _, _⟩) (v := .bool true) rfl (by kernel_rfl) (by kernel_rfl) (by kernel_rfl) (fun _ _ _ h => h) (.inl ⟨by rfl, fun w' hSw => ?_⟩) hHeld ?_
  focus (skip; clear hHeld; go_simp)
  try simp only [Act.put, List.setIfInBounds_toArray, List.set_cons_zero, List.set_cons_succ]
  refine wpAnyH_take (i := 14) (oi := ⟨some 53, _, _, _, _, _⟩) (v := .bool true) rfl (by kernel_rfl) (by kernel_rfl) (by kernel_rfl) (fun _ _ _ h => h) (.inl ⟨by rfl, fun w' hSw => ?_⟩) hHeld ?_
  focus (skip; clear hHeld; go_simp)
  try simp only [Act.put, List.setIfInBounds_toArray, List.set_cons_zero, List.set_cons_succ]
  refine wpAnyH_take (i := 15) (oi := ⟨some 54, _, _, _, _, _⟩) (v := .slice q2 p.length m2) rfl (by kernel_rfl) (by kernel_rfl) (by kernel_rfl) (fun _ _ _ h => h) (.inl ⟨by rfl, fun w' hSw => ?_⟩) hHeld ?_
  focus (skip; clear hHeld; go_simp)
  try simp only [Act.put, List.setIfInBounds_toArray, List.set_cons_zero, List.set_cons_succ]
  refine wpAnyH_take (i := 16) (oi := ⟨some 55, _, _, _, _, _⟩) (v := .slice qa a.length ma) rfl (by kernel_rfl) (by kernel_rfl) (by kernel_rfl) (fun _ _ _ h => h) (.inl ⟨by rfl, fun w' hSw => ?_⟩) hHeld ?_
  focus (skip; clear hHeld; go_simp)
  try simp only [Act.put, List.setIfInBounds_toArray, List.set_cons_zero, List.set_cons_succ]
  refine wpAnyH_take (i := 17) (oi := ⟨some 56, _, _, _, _, _⟩) (v := .slice qb b.length mb) rfl (by kernel_rfl) (by kernel_rfl) (by kernel_rfl) (fun _ _ _ h => h) (.inl ⟨by rfl, fun w' hSw => ?_⟩) hHeld ?_
  focus (skip; clear hHeld; go_simp)
  try simp only [Act.put, List.setIfInBounds_toArray, List.set_cons_zero, List.set_cons_succ]
  refine wpAnyH_ready (rs := [18]) (by kernel_rfl) (by simp) ?_
  refine AllReadyH.cons (o := ⟨some 57, _, _, _, _, _⟩) rfl (fun K' hK' => ?_) AllReadyH.nil
  refine stepw_call (R := fun v w'' => (TuSl w'' v p) ∧ Below w8.heap.size w8 w'') (by rfl) ?_ ((rminus_any (A_8.out.below hHeld).rd (B_8.out.below hHeld).rd (by have := NA.out; omega) (by have := NB.out; omega)).mono fun e w'' ⟨v', h1, b1, h3⟩ => ⟨v', h1, by rw [← EP.out]; exact h3, hHeld.trans (b1.mono hHeld.size)⟩) ?_
  focus go_simp
  rintro v57 w57 ⟨h57, hkn⟩
  refine hK'.out _ _ hkn (fun _ => ?_)
  clear hK' K' hHeld
  have hHeld := hkn
  clear hkn
  try simp only [Act.put, List.setIfInBounds_toArray, List.set_cons_zero, List.set_cons_succ]
  refine wpAnyH_ready (rs := [19]) (by kernel_rfl) (by simp) ?_
  refine AllReadyH.cons (o := ⟨some 58, _, _, _, _, _⟩) rfl (fun K' hK' => ?_) AllReadyH.nil
  refine stepw_call (R := fun v w'' => v = .bool true ∧ Below w8.heap.size w8 w'') (by rfl) ?_ ((samel_any (D2_8.out.below hHeld).rd h57.rd NP.out NP.out).mono fun e w'' ⟨h1, b1⟩ => ⟨_, h1, by rw [same_self], hHeld.trans (b1.mono hHeld.size)⟩) ?_
  focus go_simp
  rintro v w58 ⟨rfl, hkn⟩
  refine hK'.out _ _ hkn (fun _ => ?_)
  clear hK' K' hHeld
  have hHeld := hkn
  clear hkn
  try simp only [Act.put, List.setIfInBounds_toArray, List.set_cons_zero, List.set_cons_succ]
  clear h57
  refine wpAnyH_take (i := 20) (oi := ⟨some 59, _, _, _, _, _⟩) (v := .bool true) rfl (by kernel_rfl) (by kernel_rfl) (by kernel_rfl) (fun _ _ _ h => h) (.inl ⟨by rfl, fun w' hSw => ?_⟩) hHeld ?_
  focus (skip; clear hHeld; go_simp)
  try simp only [Act.put, List.setIfInBounds_toArray, List.set_cons_zero, List.set_cons_succ]
  refine wpAnyH_take (i := 21) (oi := ⟨some 60, _, _, _, _, _⟩) (v := .bool true) rfl (by kernel_rfl) (by kernel_rfl) (by kernel_rfl) (fun _ _ _ h => h) (.inl ⟨by rfl, fun w' hSw => ?_⟩) hHeld ?_
  focus (skip; clear hHeld; go_simp)
  try simp only [Act.put, List.setIfInBounds_toArray, List.set_cons_zero, List.set_cons_succ]
  refine wpAnyH_take (i := 22) (oi := ⟨some 61, _, _, _, _, _⟩) (v := .slice qa a.length ma) rfl (by kernel_rfl) (by kernel_rfl) (by kernel_rfl) (fun _ _ _ h => h) (.inl ⟨by rfl, fun w' hSw => ?_⟩) hHeld ?_
  focus (skip; clear hHeld; go_simp)
  try simp only [Act.put, List.setIfInBounds_toArray, List.set_cons_zero, List.set_cons_succ]
  refine takeT (i := 23) (o := ⟨some 62, _, _, _, _, _⟩) (u := t) rfl (by kernel_rfl) (by kernel_rfl) (by kernel_rfl) (fun _ _ _ h => h) (by rfl) ⟨rfl, rfl⟩ HTR.out hHeld ?_
  try simp only [Act.put, List.setIfInBounds_toArray, List.set_cons_zero, List.set_cons_succ]
  refine wpAnyH_take (i := 25) (oi := ⟨some 64, _, _, _, _, _⟩) (v := .slice qa a.length ma) rfl (by kernel_rfl) (by kernel_rfl) (by kernel_rfl) (fun _ _ _ h => h) (.inl ⟨by rfl, fun w' hSw => ?_⟩) hHeld ?_
  focus (skip; clear hHeld; go_simp)
  try simp only [Act.put, List.setIfInBounds_toArray, List.set_cons_zero, List.set_cons_succ]
  refine takeT (i := 26) (o := ⟨some 65, _, _, _, _, _⟩) (u := t) rfl (by kernel_rfl) (by kernel_rfl) (by kernel_rfl) (fun _ _ _ h => h) (by rfl) ⟨rfl, rfl⟩ HTR.out hHeld ?_
  try simp only [Act.put, List.setIfInBounds_toArray, List.set_cons_zero, List.set_cons_succ]
  refine wpAnyH_ready (rs := [24]) (by kernel_rfl) (by simp) ?_
  refine AllReadyH.cons (o := ⟨some 63, _, _, _, _, _⟩) rfl (fun K' hK' => ?_) AllReadyH.nil
  refine stepw_call (R := fun v w'' => v = .bool hb ∧ Below w8.heap.size w8 w'') (by rfl) ?_ ((mhas_any t (A_8.out.below hHeld) RA.out (by have := NA.out; omega)).mono fun e w'' ⟨h1, b1⟩ => ⟨_, h1, by rw [EH.out], hHeld.trans (b1.mono hHeld.size)⟩) ?_
  focus go_simp
  rintro v w63 ⟨rfl, hkn⟩
  refine hK'.out _ _ hkn (fun _ => ?_)
  clear hK' K' hHeld
  have hHeld := hkn
  clear hkn
  try simp only [Act.put, List.setIfInBounds_toArray, List.set_cons_zero, List.set_cons_succ]
  refine wpAnyH_ready (rs := [27]) (by kernel_rfl) (by simp) ?_
  refine AllReadyH.cons (o := ⟨some 66, _, _, _, _, _⟩) rfl (fun K' hK' => ?_) AllReadyH.nil
  refine stepw_call (R := fun v w'' => v = .bool hb ∧ Below w8.heap.size w8 w'') (by rfl) ?_ ((rhas_any t (A_8.out.below hHeld).rd (by have := NA.out; omega)).mono fun e w'' ⟨h1, b1⟩ => ⟨_, h1, by rw [EH.out], hHeld.trans (b1.mono hHeld.size)⟩) ?_
  focus go_simp
  rintro v w66 ⟨rfl, hkn⟩
  refine hK'.out _ _ hkn (fun _ => ?_)
  clear hK' K' hHeld
  have hHeld := hkn
  clear hkn
  try simp only [Act.put, List.setIfInBounds_toArray, List.set_cons_zero, List.set_cons_succ]
  refine wpAnyH_take (i := 28) (oi := ⟨some 67, _, _, _, _, _⟩) (v := .bool true) rfl (by kernel_rfl) (by kernel_rfl) (by kernel_rfl) (fun _ _ _ h => h) (.inl ⟨by rfl, fun w' hSw => ?_⟩) hHeld ?_
  focus (have hq' : (hb == hb) = true := (by cases hb <;> rfl); clear hHeld; go_simp)
  try simp only [Act.put, List.setIfInBounds_toArray, List.set_cons_zero, List.set_cons_succ]
  refine wpAnyH_take (i := 29) (oi := ⟨some 68, _, _, _, _, _⟩) (v := .bool true) rfl (by kernel_rfl) (by kernel_rfl) (by kernel_rfl) (fun _ _ _ h => h) (.inl ⟨by rfl, fun w' hSw => ?_⟩) hHeld ?_
  focus (skip; clear hHeld; go_simp)
  try simp only [Act.put, List.setIfInBounds_toArray, List.set_cons_zero, List.set_cons_succ]
  refine wpAnyH_take (i := 30) (oi := ⟨some 69, _, _, _, _, _⟩) (v := .bool true) rfl (by kernel_rfl) (by kernel_rfl) (by kernel_rfl) (fun _ _ _ h => h) (.inl ⟨by rfl, fun w' hSw => ?_⟩) hHeld ?_
  focus (skip; clear hHeld; go_simp)
  try simp only [Act.put, List.setIfInBounds_toArray, List.set_cons_zero, List.set_cons_succ]
  refine wpAnyH_take (i := 31) (oi := ⟨some 70, _, _, _, _, _⟩) (v := .slice qa a.length ma) rfl (by kernel_rfl) (by kernel_rfl) (by kernel_rfl) (fun _ _ _ h => h) (.inl ⟨by rfl, fun w' hSw => ?_⟩) hHeld ?_
  focus (skip; clear hHeld; go_simp)
  try simp only [Act.put, List.setIfInBounds_toArray, List.set_cons_zero, List.set_cons_succ]
  refine wpAnyH_take (i := 32) (oi := ⟨some 71, _, _, _, _, _⟩) (v := .pointer (some ⟨w.heap.size, 0, none⟩)) rfl (by kernel_rfl) (by kernel_rfl) (by kernel_rfl) (fun _ _ _ h => h) (.inl ⟨by rfl, fun w' hSw => ?_⟩) hHeld ?_
  focus (skip; clear hHeld; go_simp)
  try simp only [Act.put, List.setIfInBounds_toArray, List.set_cons_zero, List.set_cons_succ]
  refine takeO (i := 33) (o := ⟨some 72, _, _, _, _, _⟩) (u := t.ot) (v := t.oi) rfl (by kernel_rfl) (by kernel_rfl) (by kernel_rfl) (fun _ _ _ h => h) (by rfl) ⟨rfl, rfl⟩ HTO.out hHeld ?_
  try simp only [Act.put, List.setIfInBounds_toArray, List.set_cons_zero, List.set_cons_succ]
  refine wpAnyH_take (i := 35) (oi := ⟨some 74, _, _, _, _, _⟩) (v := .slice qa a.length ma) rfl (by kernel_rfl) (by kernel_rfl) (by kernel_rfl) (fun _ _ _ h => h) (.inl ⟨by rfl, fun w' hSw => ?_⟩) hHeld ?_
  focus (skip; clear hHeld; go_simp)
  try simp only [Act.put, List.setIfInBounds_toArray, List.set_cons_zero, List.set_cons_succ]
  refine wpAnyH_take (i := 36) (oi := ⟨some 75, _, _, _, _, _⟩) (v := .pointer (some ⟨w.heap.size, 0, none⟩)) rfl (by kernel_rfl) (by kernel_rfl) (by kernel_rfl) (fun _ _ _ h => h) (.inl ⟨by rfl, fun w' hSw => ?_⟩) hHeld ?_
  focus (skip; clear hHeld; go_simp)
  try simp only [Act.put, List.setIfInBounds_toArray, List.set_cons_zero, List.set_cons_succ]
  refine takeO (i := 37) (o := ⟨some 76, _, _, _, _, _⟩) (u := t.ot) (v := t.oi) rfl (by kernel_rfl) (by kernel_rfl) (by kernel_rfl) (fun _ _ _ h => h) (by rfl) ⟨rfl, rfl⟩ HTO.out hHeld ?_
  try simp only [Act.put, List.setIfInBounds_toArray, List.set_cons_zero, List.set_cons_succ]
  refine wpAnyH_ready (rs := [34]) (by kernel_rfl) (by simp) ?_
  refine AllReadyH.cons (o := ⟨some 73, _, _, _, _, _⟩) rfl (fun K' hK' => ?_) AllReadyH.nil
  refine stepw_call (R := fun v w'' => (TuSl w'' v r) ∧ Below w8.heap.size w8 w'') (by rfl) ?_ ((mrange_any t.ot t.oi (A_8.out.below hHeld) RA.out (by have := NA.out; omega)).mono fun e w'' ⟨v', h1, b1, h3⟩ => ⟨v', h1, by rw [← ER.out]; exact h3, hHeld.trans (b1.mono hHeld.size)⟩) ?_
  focus go_simp
  rintro v73 w73 ⟨h73, hkn⟩
  refine hK'.out _ _ hkn (fun _ => ?_)
  clear hK' K' hHeld
  have hHeld := hkn
  clear hkn
  try simp only [Act.put, List.setIfInBounds_toArray, List.set_cons_zero, List.set_cons_succ]
  refine wpAnyH_ready (rs := [38]) (by kernel_rfl) (by simp) ?_
  refine AllReadyH.cons (o := ⟨some 77, _, _, _, _, _⟩) rfl (fun K' hK' => ?_) AllReadyH.nil
  refine stepw_call (R := fun v w'' => (TuSl w'' v r ∧ TuSl w'' v73 r) ∧ Below w8.heap.size w8 w'') (by rfl) ?_ ((rrange_any t.ot t.oi (A_8.out.below hHeld).rd (by have := NA.out; omega)).mono fun e w'' ⟨v', h1, b1, h3⟩ => ⟨v', h1, ⟨by rw [← ER.out]; exact h3, h73.below b1⟩, hHeld.trans (b1.mono hHeld.size)⟩) ?_
  focus go_simp
  rintro v77 w77 ⟨⟨h77, h73⟩, hkn⟩
  refine hK'.out _ _ hkn (fun _ => ?_)
  clear hK' K' hHeld
  have hHeld := hkn
  clear hkn
  try simp only [Act.put, List.setIfInBounds_toArray, List.set_cons_zero, List.set_cons_succ]
  refine wpAnyH_ready (rs := [39]) (by kernel_rfl) (by simp) ?_
  refine AllReadyH.cons (o := ⟨some 78, _, _, _, _, _⟩) rfl (fun K' hK' => ?_) AllReadyH.nil
  refine stepw_call (R := fun v w'' => v = .bool true ∧ Below w8.heap.size w8 w'') (by rfl) ?_ ((samel_any h73.rd h77.rd NR.out NR.out).mono fun e w'' ⟨h1, b1⟩ => ⟨_, h1, by rw [same_self], hHeld.trans (b1.mono hHeld.size)⟩) ?_
  focus go_simp
  rintro v w78 ⟨rfl, hkn⟩
  refine hK'.out _ _ hkn (fun _ => ?_)
  clear hK' K' hHeld
  have hHeld := hkn
  clear hkn
  try simp only [Act.put, List.setIfInBounds_toArray, List.set_cons_zero, List.set_cons_succ]
  clear h73 h77
  refine wpAnyH_take (i := 40) (oi := ⟨some 79, _, _, _, _, _⟩) (v := .bool true) rfl (by kernel_rfl) (by kernel_rfl) (by kernel_rfl) (fun _ _ _ h => h) (.inl ⟨by rfl, fun w' hSw => ?_⟩) hHeld ?_
  focus (skip; clear hHeld; go_simp)
  try simp only [Act.put, List.setIfInBounds_toArray, List.set_cons_zero, List.set_cons_succ]
  refine wpAnyH_take (i := 41) (oi := ⟨some 80, _, _, _, _, _⟩) (v := .bool true) rfl (by kernel_rfl) (by kernel_rfl) (by kernel_rfl) (fun _ _ _ h => h) (.inl ⟨by rfl, fun w' hSw => ?_⟩) hHeld ?_
  focus (skip; clear hHeld; go_simp)
  try simp only [Act.put, List.setIfInBounds_toArray, List.set_cons_zero, List.set_cons_succ]
  refine wpAnyH_take (i := 42) (oi := ⟨some 81, _, _, _, _, _⟩) (v := .slice px x.length cx) rfl (by kernel_rfl) (by kernel_rfl) (by kernel_rfl) (fun _ _ _ h => h) (.inl ⟨by rfl, fun w' hSw => ?_⟩) hHeld ?_
  focus (skip; clear hHeld; go_simp)
  try simp only [Act.put, List.setIfInBounds_toArray, List.set_cons_zero, List.set_cons_succ]
  refine wpAnyH_take (i := 44) (oi := ⟨some 83, _, _, _, _, _⟩) (v := .slice px x.length cx) rfl (by kernel_rfl) (by kernel_rfl) (by kernel_rfl) (fun _ _ _ h => h) (.inl ⟨by rfl, fun w' hSw => ?_⟩) hHeld ?_
  focus (skip; clear hHeld; go_simp)
  try simp only [Act.put, List.setIfInBounds_toArray, List.set_cons_zero, List.set_cons_succ]
  refine wpAnyH_ready (rs := [43]) (by kernel_rfl) (by simp) ?_
  refine AllReadyH.cons (o := ⟨some 82, _, _, _, _, _⟩) rfl (fun K' hK' => ?_) AllReadyH.nil
  refine stepw_call (R := fun v w'' => v = .bool s ∧ Below w8.heap.size w8 w'') (by rfl) ?_ ((msorted_any (X_8.out.below hHeld) (by have := LX.out; omega)).mono fun e w'' ⟨h1, b1⟩ => ⟨_, h1, by rw [ES.out], hHeld.trans (b1.mono hHeld.size)⟩) ?_
  focus go_simp
  rintro v w82 ⟨rfl, hkn⟩
  refine hK'.out _ _ hkn (fun _ => ?_)
  clear hK' K' hHeld
  have hHeld := hkn
  clear hkn
  try simp only [Act.put, List.setIfInBounds_toArray, List.set_cons_zero, List.set_cons_succ]
  refine wpAnyH_ready (rs := [45]) (by kernel_rfl) (by simp) ?_
  refine AllReadyH.cons (o := ⟨some 84, _, _, _, _, _⟩) rfl (fun K' hK' => ?_) AllReadyH.nil
  refine stepw_call (R := fun v w'' => v = .bool s ∧ Below w8.heap.size w8 w'') (by rfl) ?_ ((rsortedB_any (X_8.out.below hHeld) ZX.out (by have := LX.out; omega)).mono fun e w'' ⟨h1, b1⟩ => ⟨_, h1, by rw [ES.out], hHeld.trans (b1.mono hHeld.size)⟩) ?_
  focus go_simp
  rintro v w84 ⟨rfl, hkn⟩
  refine hK'.out _ _ hkn (fun _ => ?_)
  clear hK' K' hHeld
  have hHeld := hkn
  clear hkn
  try simp only [Act.put, List.setIfInBounds_toArray, List.set_cons_zero, List.set_cons_succ]
  refine wpAnyH_take (i := 46) (oi := ⟨some 85, _, _, _, _, _⟩) (v := .bool true) rfl (by kernel_rfl) (by kernel_rfl) (by kernel_rfl) (fun _ _ _ h => h) (.inl ⟨by rfl, fun w' hSw => ?_⟩) hHeld ?_
  focus (have hq' : (s == s) = true := (by cases s <;> rfl); clear hHeld; go_simp)
  try simp only [Act.put, List.setIfInBounds_toArray, List.set_cons_zero, List.set_cons_succ]
  refine wpAnyH_take (i := 47) (oi := ⟨some 86, _, _, _, _, _⟩) (v := .bool true) rfl (by kernel_rfl) (by kernel_rfl) (by kernel_rfl) (fun _ _ _ h => h) (.inl ⟨by rfl, fun w' hSw => ?_⟩) hHeld ?_
  focus (skip; clear hHeld; go_simp)
  try simp only [Act.put, List.setIfInBounds_toArray, List.set_cons_zero, List.set_cons_succ]
  refine wpAnyH_take (i := 48) (oi := ⟨some 6, _, _, _, _, _⟩) (v := .bool true) rfl (by kernel_rfl) (by kernel_rfl) (by kernel_rfl) (fun _ _ _ h => h) (.inl ⟨by rfl, fun w' hSw => ?_⟩) hHeld ?_
  focus (skip; clear hHeld; go_simp)
  try simp only [Act.put, List.setIfInBounds_toArray, List.set_cons_zero, List.set_cons_succ]
  refine wpAnyH_done (by kernel_rfl) ?_ _
  refine NoPanic.normal ?_
  have HBZ := Lib.hid (HB8.out.trans (hHeld.mono HB8.out.size))
  clear hHeld
  go_wp2_with fail
  go_ret
  exact ⟨rfl, HBZ.out⟩
end Go.Proofs.Ytebbbiikphfjcaa
