/-
  The queue: add and next.
-/
import Derived.Test.YtebbbiikphfjcaaMgJ
namespace Go.Proofs.Ytebbbiikphfjcaa
open Go.ChangeShapes Go.WideShapes Go.ChangeAt Go.RowKit
set_option linter.unusedVariables false

def addS (ls : List (List Tu)) (l : List Tu) : List (List Tu) := if l = [] then ls else addL ls l
set_option maxRecDepth 100000 in
set_option maxHeartbeats 4000000 in
theorem qadd_any {F : List (Nat × Obj)} {w0 w : World} {g c : Nat} {p : Option Addr} {ls : List (List Tu)} {v : Value} {l : List Tu} (h : QS F w0 g p c ls w) (hv : TuSl w0 v l) (hne : ∀ l ∈ ls, l ≠ []) (hn : ls.length ≤ 10000) :
    Calls Try.prog 28 #[.pointer (some ⟨g, 0, none⟩), v] w fun e w' => e = .returned (.tuple #[]) ∧ ∃ p' c', QS F w0 g p' c' (addS ls l) w' := by
  have HQ := Lib.hid h
  by_cases hl : l = []
  · subst hl
    obtain ⟨q, m, rfl⟩ := hv.none_form
    have HE : Hid (addS ls [] = ls) := if_pos rfl
    clear h hv hne hn
    go_enter Try.func28, Try.ntmps28
    go_wp2_with fail
    go_end0
    exact ⟨rfl, _, _, by rw [HE.out]; exact HQ.out⟩
  · have HE : Hid (addS ls l = addL ls l) := if_neg hl
    have HC := Lib.hid (hpush_any h hv hne hl hn)
    obtain ⟨b, off, n, m, rfl, _, _⟩ := sl_cons hv hl
    obtain ⟨R, hR⟩ : ∃ R, R = addL ls l := ⟨_, rfl⟩
    rw [← hR] at HC HE
    clear h hv hne hn hl hR
    have hl0 : (0 : Int) < ((n + 1 : Nat) : Int) := by omega
    go_enter Try.func28, Try.ntmps28
    go_wp2_with fail
    refine HC.out.mono ?_
    rintro e w1 ⟨rfl, p1, c1, q1⟩
    have HQ1 := Lib.hid q1
    clear q1 HC
    go_wp2_with fail
    go_end0
    exact ⟨rfl, _, _, by rw [HE.out]; exact HQ1.out⟩
theorem sunk_ne {ls : List (List Tu)} (h : ∀ x ∈ ls, x ≠ []) (h0 : 0 < ls.length) : ∀ x ∈ sunk ls, x ≠ [] := by
  have key : ∀ (f : Nat) (l : List (List Tu)) (i n : Nat), n ≤ l.length → (∀ x ∈ l, x ≠ []) → ∀ x ∈ downL [] ltH f l i n, x ≠ [] := by
    intro f
    induction f with
    | zero => intro l i n _ h x hx; rw [downL] at hx; exact h x hx
    | succ f ih =>
      intro l i n hn h x hx
      rw [downL] at hx
      split at hx
      · exact h x hx
      · rename_i hc
        have hl := less_at (d := ([] : List Tu)) (lt := ltH) (l := l) (n := n) (i := i)
        have h1 : ¬ n ≤ 2 * i + 1 := fun e => hc (.inl e)
        have hcn : lessC [] ltH l n i < n := by rcases hl with e | ⟨e, e2⟩ <;> omega
        exact ih _ _ _ (by rw [swapL_len]; exact hn) (swap_ne (by omega) (by omega) h) x hx
  unfold sunk
  exact key _ _ _ _ (by rw [swapL_len]; omega) (swap_ne (by omega) (by omega) h)
theorem nextL_add (ls : List (List Tu)) : nextL ls = addS ((sunk ls).take (ls.length - 1)) (ls.getD 0 []).tail := rfl
theorem QS.away {F F2 : List (Nat × Obj)} {w0 w : World} {g c gb : Nat} {p : Option Addr} {ls : List (List Tu)} {o : Obj} (h : QS F2 w0 g p c ls w) (hF : F2 = (gb, o) :: F) (hgb : w0.heap.size ≤ gb) (hnf : ∀ x ∈ F, x.1 < gb) (cs : Array Value) : QS F w0 g p c ls (w.setRow gb cs) := by
  obtain ⟨h1, h2, h3, vs, h4, h5, h6⟩ := h
  obtain ⟨_, x2, x3⟩ := h6 (gb, o) (by rw [hF]; simp)
  refine ⟨below_row h1 hgb cs, h2, h3.row_other (fun e => x2 e.symm) cs, vs, ⟨h4.1, ?_⟩, h5, fun x hx => ?_⟩
  · rcases h4.2 with h | ⟨gr, cap, cur, hv, hb, hg, r⟩
    · exact .inl h
    · refine .inr ⟨gr, cap, cur, hv, hb, (setRow_other w gb gr cs ?_).trans hg, r⟩
      simp only [Value.slice.injEq, true_and] at hv
      exact fun e => x3 _ hv.1 e.symm
  · obtain ⟨f1, f2, f3⟩ := h6 x (by rw [hF]; exact List.mem_cons_of_mem _ hx)
    have := hnf x hx
    exact ⟨(setRow_other w gb x.1 cs (by omega)).trans f1, f2, f3⟩
theorem resT {fn : Func} {p : Tmp} (h : fn.results = #[.cell p 34]) {tmps : Array Value} {w : World} {g : Nat} {t : Tu} (hA : Arr w 34 g (tc t)) (hp : tmps.getD p undef = .pointer (some ⟨g, 0, none⟩)) :
    (results fn tmps).run Try.prog w = .ok (tuV t) w :=
  results_cell_row h tmps w g 34 (tc t).toArray (0, 0) _ hp hA Try.underlying34 rfl (by kernel_rfl)
set_option maxRecDepth 100000 in
set_option maxHeartbeats 4000000 in
theorem qnext_any {F : List (Nat × Obj)} {w0 w : World} {g c n : Nat} {p : Option Addr} {ls : List (List Tu)} (h : QS F w0 g p c ls w) (hl : ls.length = n + 1) (hne : ∀ l ∈ ls, l ≠ []) (hn : n ≤ 9000) :
    Calls Try.prog 30 #[.pointer (some ⟨g, 0, none⟩)] w fun e w' => e = .returned (tuV (hd (ls.getD 0 []))) ∧ ∃ p' c', QS F w0 g p' c' (nextL ls) w' := by
  have hta : ∀ v w, (Instr.typeAssert (.iface 24 v) 20 24 false).run Try.prog w = .ok v w := fun _ _ => by kernel_rfl
  have ba : Below w.heap.size w (w.alloc (.cells (tc t0).toArray 34)) := (Below.refl _ _).alloc (Nat.le_refl _) _
  obtain ⟨F2, hF2⟩ : ∃ F2, F2 = (w.heap.size, Obj.cells (tc t0).toArray 34 (0, 0)) :: F := ⟨_, rfl⟩
  have hq0 : QS F2 w0 g p c ls (w.alloc (.cells (tc t0).toArray 34)) := by
    obtain ⟨h1, h2, h3, vs, h4, h5, h6⟩ := h.later ba
    refine ⟨h1, h2, h3, vs, h4, h5, ?_⟩
    intro x hx
    rw [hF2] at hx
    rcases List.mem_cons.1 hx with rfl | hx
    · refine ⟨tu_new w t0, ?_, fun a ha => ?_⟩
      · have := h.2.2.1.lt; simp only [ne_eq]; omega
      · have := (h.apart a.block (by rw [ha]; rfl)).2.1; simp only [ne_eq]; omega
    · exact h6 x hx
  obtain ⟨gb, hgb⟩ : ∃ gb, gb = w.heap.size := ⟨_, rfl⟩
  have HFN : Hid (∀ x ∈ F, x.1 < gb) := by
    obtain ⟨_, _, _, _, _, _, h6⟩ := h
    intro x hx
    rw [hgb]; exact (Array.getElem?_eq_some_iff.1 (h6 x hx).1).1
  have HG0 : Hid (w0.heap.size ≤ gb) := by rw [hgb]; exact h.1.size
  have HF2 : Hid (F2 = (gb, Obj.cells (tc t0).toArray 34 (0, 0)) :: F) := by rw [hgb]; exact hF2
  have HNE0 : Hid (ls.getD 0 [] ≠ []) := by
    show _ ≠ _
    rw [List.getD_eq_getElem?_getD, List.getElem?_eq_getElem (by omega)]
    exact hne _ (List.getElem_mem (by omega))
  have HNX : Hid (nextL ls = addS ((sunk ls).take n) (ls.getD 0 []).tail) := by show _ = _; rw [nextL_add, hl, Nat.add_sub_cancel]
  have HP := Lib.hid (hpop_any hq0 hl hne (by omega))
  have HSN : Hid ((∀ x ∈ (sunk ls).take n, x ≠ []) ∧ ((sunk ls).take n).length ≤ 10000) := by
    have hs : (sunk ls).length = n + 1 := by unfold sunk; rw [down_heap_len, swapL_len, hl]
    refine ⟨fun x hx => ?_, by rw [List.length_take, hs]; omega⟩
    exact sunk_ne hne (by omega) x (List.mem_of_mem_take hx)
  obtain ⟨s, hs⟩ : ∃ s, s = (sunk ls).take n := ⟨_, rfl⟩
  rw [← hs] at HP HSN HNX
  obtain ⟨y, r, hyr⟩ : ∃ y r, ls.getD 0 [] = y :: r := by
    cases hc : ls.getD 0 [] with
    | nil => exact absurd hc HNE0.out
    | cons y r => exact ⟨y, r, rfl⟩
  rw [hyr] at HP HNX ⊢
  show Calls _ _ _ _ (fun e w' => e = .returned (tuV y) ∧ ∃ p' c', QS F w0 g p' c' (nextL ls) w')
  have HGB : Hid (w.heap.size = gb) := hgb.symm
  clear h hl hne hn ba hF2 hq0 hs hyr HNE0
  go_enter Try.func30, Try.ntmps30
  go_upto_region 1 with (fail)
  rw [show w.alloc (.cells #[.string ⟨#[]⟩, .string ⟨#[]⟩, .string ⟨#[]⟩, .string ⟨#[]⟩, .string ⟨#[]⟩, .string ⟨#[]⟩] 34) = w.alloc (.cells (tc t0).toArray 34) from rfl, HGB.out]
  clear hgb
  generalize w.alloc (.cells (tc t0).toArray 34) = w1 at HP ⊢
  go_wp2_with fail
  refine HP.out.mono ?_
  rintro e w2 ⟨v, rfl, hv, q2⟩
  obtain ⟨b, off, c', rfl, hc', hb', hy, ht⟩ := hv.cons
  have HQ2 := Lib.hid q2
  have HY : Hid (∀ W, Below w0.heap.size w0 W → W.rangeAt b off (tc y)) := fun W hB => range_below hy hb' hB
  have HBB := Lib.hid hb'
  have HTL := Lib.hid ht
  clear hv q2 HP hy hb' ht
  by_cases hc1 : c' = 1
  · have hr0 : r = [] := List.eq_nil_of_length_eq_zero (by omega)
    subst hc1 hr0
    have HAD := Lib.hid (qadd_any (v := .slice (some ⟨b, off, none⟩) 0 0) (l := []) HQ2.out (TuSl.zero HBB.out) HSN.out.1 HSN.out.2)
    clear hc' HTL
    go_wp2_with fail
    refine HAD.out.mono ?_
    rintro e w3 ⟨rfl, p3, c3, q3⟩
    have HQ3 := Lib.hid q3
    have HYR := Lib.hid (HY.out _ q3.1)
    have HBX : Hid (Arr w3 34 gb (tc t0)) := by
      obtain ⟨_, _, _, _, _, _, h6⟩ := q3
      exact (h6 (gb, _) (by rw [HF2.out]; simp)).1
    clear q3 HAD HQ2 HY
    go_wp2_with (first
      | ((with_reducible refine loadM (x := .tmp 13) (o := ⟨some 14, _, _, _, _, _⟩) HYR.out ?_ ?_); exact ⟨rfl, rfl, by go_simp⟩)
      | ((with_reducible refine storeT (x := .tmp 2) (y := .tmp 14) (u := y) (o := ⟨none, .store _ _ _, _, _, _, _⟩) HBX.out ?_ ?_); exact ⟨rfl, rfl, rfl, rfl⟩; intro w4 hw4))
    have HW4 := Lib.hid hw4
    clear hw4
    go_wp2_with fail
    refine bodyPost_ret (resT rfl (by rw [HW4.out]; exact Arr.row HBX.out (tc y)) rfl) rfl ⟨rfl, p3, c3, ?_⟩
    rw [HNX.out, HW4.out]
    exact HQ3.out.away HF2.out (by have := HG0.out; omega) HFN.out _
  · have hc2 : 1 < c' := by omega
    have HAD := Lib.hid (qadd_any HQ2.out HTL.out HSN.out.1 HSN.out.2)
    clear hc' HTL
    go_wp2_with fail
    refine HAD.out.mono ?_
    rintro e w3 ⟨rfl, p3, c3, q3⟩
    have HQ3 := Lib.hid q3
    have HYR := Lib.hid (HY.out _ q3.1)
    have HBX : Hid (Arr w3 34 gb (tc t0)) := by
      obtain ⟨_, _, _, _, _, _, h6⟩ := q3
      exact (h6 (gb, _) (by rw [HF2.out]; simp)).1
    clear q3 HAD HQ2 HY
    go_wp2_with (first
      | ((with_reducible refine loadM (x := .tmp 13) (o := ⟨some 14, _, _, _, _, _⟩) HYR.out ?_ ?_); exact ⟨rfl, rfl, by go_simp⟩)
      | ((with_reducible refine storeT (x := .tmp 2) (y := .tmp 14) (u := y) (o := ⟨none, .store _ _ _, _, _, _, _⟩) HBX.out ?_ ?_); exact ⟨rfl, rfl, rfl, rfl⟩; intro w4 hw4))
    have HW4 := Lib.hid hw4
    clear hw4
    go_wp2_with fail
    refine bodyPost_ret (resT rfl (by rw [HW4.out]; exact Arr.row HBX.out (tc y)) rfl) rfl ⟨rfl, p3, c3, ?_⟩
    rw [HNX.out, HW4.out]
    exact HQ3.out.away HF2.out (by have := HG0.out; omega) HFN.out _
end Go.Proofs.Ytebbbiikphfjcaa
