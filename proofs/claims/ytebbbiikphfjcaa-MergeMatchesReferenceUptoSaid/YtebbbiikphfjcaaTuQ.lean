/-
  cmp.Or, tuple.Compare.
-/
import Derived.Test.YtebbbiikphfjcaaTuB
import Derived.Test.YtebbbiikphfjcaaTuD
import Derived.Test.YtebbbiikphfjcaaTuL
import Derived.Sort.Grow
import Derived.RegionTactic
import Derived.BigRegion
namespace Go.Proofs.Ytebbbiikphfjcaa
open Go.ChangeShapes Go.WideShapes Go.ChangeAt Go.RowKit
set_option linter.unusedVariables false

/-- The first that is not zero. -/
def orL : List Int → Int
  | [] => 0
  | x :: r => if x = 0 then orL r else x
theorem orL_drop : ∀ {l : List Int} {i : Nat}, (∀ j, j < i → l.getD j 0 = 0) → orL l = orL (l.drop i)
  | l, 0, _ => rfl
  | [], i + 1, _ => rfl
  | x :: r, i + 1, h => by
    have h0 := h 0 (by omega)
    simp only [List.getD_cons_zero] at h0
    rw [List.drop_succ_cons, ← orL_drop (l := r) (i := i) (fun j hj => by have := h (j + 1) (by omega); simpa using this)]
    conv => lhs; unfold orL
    rw [if_pos h0]
theorem orL_at {l : List Int} {i : Nat} (hi : i < l.length) (h : ∀ j, j < i → l.getD j 0 = 0) (hx : ¬ l.getD i 0 = 0) : orL l = l.getD i 0 := by
  rw [orL_drop h, List.drop_eq_getElem_cons hi]
  have e : l.getD i 0 = l[i] := by rw [List.getD_eq_getElem?_getD, List.getElem?_eq_getElem hi]; rfl
  rw [e] at hx ⊢
  conv => lhs; unfold orL
  rw [if_neg hx]
set_option maxRecDepth 100000 in
set_option maxHeartbeats 1000000 in
theorem or_any (l : List Int) (hl : l.length ≤ 1000) (g : Nat) (w : World) (hA : Arr w 3 g (l.map fun x => .int .i64 x)) : Calls Try.prog 41 #[.slice (some ⟨g, 0, none⟩) l.length l.length] w fun r w' => r = .returned (.int .i64 (orL l)) ∧ w = w' := by
  have HA := Lib.hid hA
  clear hA
  go_enter Try.func41, Try.ntmps41
  go_wp2_with fail
  go_loop [8] (fun iv => ∃ i : Nat, i ≤ l.length ∧ iv = .int .i64 i ∧ Hid (∀ j, j < i → l.getD j 0 = 0)) (fun iv => l.length - (intOf iv).toNat)
  case atStart => exact ⟨0, Nat.zero_le _, rfl, fun j hj => absurd hj (Nat.not_lt_zero _)⟩
  case round =>
    obtain ⟨i, hi, rfl, HG⟩ := hrel
    have hi0 : (0 : Int) ≤ i := by omega
    by_cases hlt : i < l.length
    · have hi1 : (i : Int) < l.length := by omega
      have hx0 := HA.out.cell i
      rw [List.getElem?_map, List.getElem?_eq_getElem hlt] at hx0
      obtain ⟨x, hx⟩ : ∃ x, x = l.getD i 0 := ⟨_, rfl⟩
      have e : l.getD i 0 = l[i] := by rw [List.getD_eq_getElem?_getD, List.getElem?_eq_getElem hlt]; rfl
      have X0 : w.cell? ⟨g, i, none⟩ = some (.int .i64 x) := by rw [hx, e]; exact hx0
      have HX := Lib.hid hx
      have HLT : Hid (i < l.length) := hlt
      clear hx0 e hx
      by_cases hz : x = 0
      · have bz : (x != 0) = false := by rw [hz]; rfl
        have HZ := Lib.hid hz
        clear hz
        go_wp2_with fail
        go_round
        case rel =>
          refine ⟨i + 1, by omega, by go_num, fun j hj => ?_⟩
          by_cases e : j = i
          · subst e; rw [← HX.out]; exact HZ.out
          · exact HG.out j (by omega)
        case measure => simp [intOf]; omega
      · have bz : (x != 0) = true := by rw [bne_iff_ne]; exact hz
        have HR : Hid (orL l = x) := by show _ = _; rw [HX.out]; exact orL_at HLT.out HG.out (by rw [← HX.out]; exact hz)
        clear hz
        go_wp2_with fail
        go_ret
        exact ⟨by rw [HR.out]; rfl, rfl⟩
    · have hi1 : ¬ (i : Int) < l.length := by omega
      have HR : Hid (orL l = 0) := by
        show _ = _
        rw [orL_drop HG.out, List.drop_of_length_le (by omega)]; rfl
      go_wp2_with fail
      go_ret
      exact ⟨by rw [HR.out]; rfl, rfl⟩
theorem ordT_or (a b : Tu) : ordT a b = orL [ord a.ot b.ot, ord a.oi b.oi, ord a.re b.re, ord a.st b.st, ord a.si b.si, ord a.us b.us] := by
  unfold ordT Tu.l
  simp only [ordL, orL]
theorem or6 (x0 x1 x2 x3 x4 x5 : Int) (w : World) :
    Calls Try.prog 41 #[.slice (some ⟨w.heap.size, 0, none⟩) 6 6] (w.alloc (.cells #[.int .i64 x0, .int .i64 x1, .int .i64 x2, .int .i64 x3, .int .i64 x4, .int .i64 x5] 3)) fun e w' => e = .returned (.int .i64 (orL [x0, x1, x2, x3, x4, x5])) ∧ w.alloc (.cells #[.int .i64 x0, .int .i64 x1, .int .i64 x2, .int .i64 x3, .int .i64 x4, .int .i64 x5] 3) = w' :=
  or_any [x0, x1, x2, x3, x4, x5] (by simp) w.heap.size _ (Arr.new' w _ _ _ rfl)
set_option maxRecDepth 100000 in
set_option maxHeartbeats 2000000 in
theorem tcompare_any (a b : Tu) (w : World) : Calls Try.prog 32 #[tuV a, tuV b] w fun e w' => e = .returned (.int .i64 (ordT a b)) ∧ ∃ q os, w' = Go.Sort.grow (w.drewN q) os := by
  obtain ⟨w0, hw0⟩ : ∃ w0, w0 = (w.alloc (.cells (tc a).toArray 34)).alloc (.cells (tc b).toArray 34) := ⟨_, rfl⟩
  have h1 : TuAt w0 w.heap.size a := by rw [hw0]; exact (tu_new w a).alloc _
  have h2 : TuAt w0 (w.heap.size + 1) b := by rw [hw0]; exact Arr.new2 w _ _ _ _ rfl
  obtain ⟨a0, a1, a2, a3, a4, a5⟩ := TuAt.cells h1
  obtain ⟨b0, b1, b2, b3, b4, b5⟩ := TuAt.cells h2
  have HO := Lib.hid (ordT_or a b)
  have HW := Lib.hid hw0
  have H0 := Lib.hid (Try.strings_Compare a.ot b.ot)
  have H1 := Lib.hid (Try.strings_Compare a.oi b.oi)
  have H2 := Lib.hid (Try.strings_Compare a.re b.re)
  have H3 := Lib.hid (Try.strings_Compare a.st b.st)
  have H4 := Lib.hid (Try.strings_Compare a.si b.si)
  have H5 := Lib.hid (Try.strings_Compare a.us b.us)
  clear h1 h2 hw0
  go_enter Try.func32, Try.ntmps32
  go_wp2_with fail
  rw [show (w.alloc (.cells (tc a).toArray 34)).alloc (.cells (tc b).toArray 34) = w0 from HW.out.symm]
  refine wp_region_still_tail 38 (by kernel_rfl) (by kernel_rfl) ?_
  simp only [List.take_succ_cons, List.take_zero, List.drop_succ_cons, List.drop_zero]
  repeat first | still_step | still_call (H0.out _) | still_call (H1.out _) | still_call (H2.out _) | still_call (H3.out _) | still_call (H4.out _) | still_call (H5.out _)
  refine wpStill_nil ?_
  change wpList _ _ _ _ _ w0.drew
  have HG : Hid (w0.drew = Go.Sort.grow (w.drewN 1) #[.cells (tc a).toArray 34, .cells (tc b).toArray 34]) := by
    show _ = _
    rw [HW.out, Go.Sort.alloc_eq_grow, Go.Sort.alloc_eq_grow, Go.Sort.grow_grow]; rfl
  generalize w0.drew = w2 at HG ⊢
  rw [show Lib.compareBytes a.ot.data.toList b.ot.data.toList = ord a.ot b.ot from rfl]
  rw [show Lib.compareBytes a.oi.data.toList b.oi.data.toList = ord a.oi b.oi from rfl]
  rw [show Lib.compareBytes a.re.data.toList b.re.data.toList = ord a.re b.re from rfl]
  rw [show Lib.compareBytes a.st.data.toList b.st.data.toList = ord a.st b.st from rfl]
  rw [show Lib.compareBytes a.si.data.toList b.si.data.toList = ord a.si b.si from rfl]
  rw [show Lib.compareBytes a.us.data.toList b.us.data.toList = ord a.us b.us from rfl]
  obtain ⟨x0, hx0⟩ : ∃ x, ord a.ot b.ot = x := ⟨_, rfl⟩
  obtain ⟨x1, hx1⟩ : ∃ x, ord a.oi b.oi = x := ⟨_, rfl⟩
  obtain ⟨x2, hx2⟩ : ∃ x, ord a.re b.re = x := ⟨_, rfl⟩
  obtain ⟨x3, hx3⟩ : ∃ x, ord a.st b.st = x := ⟨_, rfl⟩
  obtain ⟨x4, hx4⟩ : ∃ x, ord a.si b.si = x := ⟨_, rfl⟩
  obtain ⟨x5, hx5⟩ : ∃ x, ord a.us b.us = x := ⟨_, rfl⟩
  rw [hx0, hx1, hx2, hx3, hx4, hx5] at HO ⊢
  clear hx0 H0 a0 b0 hx1 H1 a1 b1 hx2 H2 a2 b2 hx3 H3 a3 b3 hx4 H4 a4 b4 hx5 H5 a5 b5 HW
  go_wp2_with fail
  refine (or6 x0 x1 x2 x3 x4 x5 _).mono ?_
  rintro e w3 ⟨rfl, rfl⟩
  rw [← HO.out]
  go_wp2_with fail
  go_ret
  exact ⟨rfl, 1, _, by rw [Go.Sort.alloc_eq_grow, HG.out, Go.Sort.grow_grow]⟩
theorem grow_below {w : World} (q : Nat) (os : Array Obj) : Below w.heap.size w (Go.Sort.grow (w.drewN q) os) :=
  ⟨rfl, rfl, rfl, by show w.heap.size ≤ (w.heap ++ os).size; simp, fun b hb => by
    show (w.heap ++ os)[b]? = w.heap[b]?
    rw [Array.getElem?_append_left hb]⟩
theorem tcompare_below (a b : Tu) (w : World) : Calls Try.prog 32 #[tuV a, tuV b] w fun e w' => e = .returned (.int .i64 (ordT a b)) ∧ Below w.heap.size w w' :=
  (tcompare_any a b w).mono fun e w' ⟨h, q, os, hw⟩ => ⟨h, by rw [hw]; exact grow_below q os⟩
end Go.Proofs.Ytebbbiikphfjcaa
