/-
  The queue of lists in memory: Len, Less, Swap, Push, Pop.
-/
import Derived.Test.YtebbbiikphfjcaaMgF
import Derived.WalkSmall
namespace Go.Proofs.Ytebbbiikphfjcaa
open Go.ChangeShapes Go.WideShapes Go.ChangeAt Go.RowKit
set_option linter.unusedVariables false

def AllSl (w0 : World) (vs : List Value) (ls : List (List Tu)) : Prop := vs.length = ls.length ∧ ∀ i v, vs[i]? = some v → TuSl w0 v (ls.getD i [])
/-- The blocks in F hold what they held, and are none of the queue's. -/
def Frm (F : List (Nat × Obj)) (g : Nat) (p : Option Addr) (w : World) : Prop := ∀ x ∈ F, w.heap[x.1]? = some x.2 ∧ x.1 ≠ g ∧ ∀ a, p = some a → x.1 ≠ a.block
/-- The queue at block g holds the lists ls, which lie below the memory of w0's end. -/
def QS (F : List (Nat × Obj)) (w0 : World) (g : Nat) (p : Option Addr) (c : Nat) (ls : List (List Tu)) (w : World) : Prop :=
  Below w0.heap.size w0 w ∧ w0.heap.size ≤ g ∧ Arr w 54 g [.slice p ls.length c] ∧ ∃ vs, w.ownsRow w0.heap.size 24 1 (.slice p ls.length c) ls.length vs ∧ AllSl w0 vs ls ∧ Frm F g p w
theorem own_keepG {w w' : World} {base e size n : Nat} {v : Value} {xs : List Value} (h : w.ownsRow base e size v n xs) (hb : Below w.heap.size w w') : w'.ownsRow base e size v n xs := by
  refine h.kept (row := none) (grown_of hb none) ?_
  by_cases e : v.ownBlock = none
  · exact .inl e
  · exact .inr e
section
variable {F : List (Nat × Obj)} {w0 w w' : World} {g c gr : Nat} {p : Option Addr} {ls : List (List Tu)}
theorem Frm.later {F : List (Nat × Obj)} {g : Nat} {p : Option Addr} {w w' : World} (h : Frm F g p w) (hb : Below w.heap.size w w') : Frm F g p w' := fun x hx => by
  obtain ⟨h1, h2⟩ := h x hx
  exact ⟨(hb.block x.1 (Array.getElem?_eq_some_iff.1 h1).1).trans h1, h2⟩
theorem QS.later (h : QS F w0 g p c ls w) (hb : Below w.heap.size w w') : QS F w0 g p c ls w' := by
  obtain ⟨h1, h2, h3, vs, h4, h5, h6⟩ := h
  exact ⟨h1.trans (hb.mono h1.size), h2, h3.later hb, vs, own_keepG h4 hb, h5, h6.later hb⟩
theorem QS.box (h : QS F w0 g p c ls w) : w.cell? ⟨g, 0, none⟩ = some (.slice p ls.length c) := h.2.2.1.cell 0
theorem QS.free (h : QS F w0 g p c ls w) : w.frozen? ⟨g, 0, none⟩ = false := h.2.2.1.free 0
/-- One of the lists. -/
theorem QS.at (h : QS F w0 g p c ls w) {i : Nat} (hi : i < ls.length) : ∃ gr v, p = some ⟨gr, 0, none⟩ ∧ w0.heap.size ≤ gr ∧ gr < w.heap.size ∧ gr ≠ g ∧ w.cell? ⟨gr, i, none⟩ = some v ∧ (∀ j, w.frozen? ⟨gr, j, none⟩ = false) ∧ TuSl w0 v (ls.getD i []) := by
  obtain ⟨h1, h2, h3, vs, h4, h5, h6⟩ := h
  have h4' := h4
  rcases h4.2 with ⟨_, h0⟩ | ⟨gr, cap, cur, hv, hb, hg, _⟩
  · omega
  · simp only [Value.slice.injEq, true_and] at hv
    obtain ⟨rfl, rfl⟩ := hv
    have hiv : i < vs.length := by rw [h5.1]; exact hi
    refine ⟨gr, vs[i], rfl, hb, (Array.getElem?_eq_some_iff.1 hg).1, ?_, ?_, fun j => h4'.frozenAt j, h5.2 i _ (List.getElem?_eq_getElem hiv)⟩
    · intro e
      subst e
      have := h3.symm.trans hg
      simp only [Option.some.injEq, Obj.cells.injEq] at this
      exact absurd this.2.1 (by decide)
    · rw [h4'.cellAt i (by omega), List.getElem?_eq_getElem hiv]
theorem QS.swap (h : QS F w0 g (some ⟨gr, 0, none⟩) c ls w) {i k : Nat} (hi : i < ls.length) (hk : k < ls.length) {vi vk : Value} (ci : w.cell? ⟨gr, i, none⟩ = some vi) (ck : w.cell? ⟨gr, k, none⟩ = some vk) : QS F w0 g (some ⟨gr, 0, none⟩) c (swapL [] ls i k) ((w.setCell ⟨gr, i, none⟩ vk).setCell ⟨gr, k, none⟩ vi) := by
  obtain ⟨gr', _, e, hb, _, hne, _⟩ := h.at hi
  simp only [Option.some.injEq, Addr.mk.injEq, and_true] at e
  subst e
  obtain ⟨h1, h2, h3, vs, h4, h5, h6⟩ := h
  have hiv : i < vs.length := by rw [h5.1]; exact hi
  have hkv : k < vs.length := by rw [h5.1]; exact hk
  rw [h4.cellAt i (by omega), List.getElem?_eq_getElem hiv, Option.some.injEq] at ci
  rw [h4.cellAt k (by omega), List.getElem?_eq_getElem hkv, Option.some.injEq] at ck
  have ti := h5.2 i _ (List.getElem?_eq_getElem hiv)
  have tk := h5.2 k _ (List.getElem?_eq_getElem hkv)
  rw [ci] at ti
  rw [ck] at tk
  have g1 := (h4.stored i vk).1
  have g2 := (g1.stored k vi).1
  have hl : (swapL [] ls i k).length = ls.length := swapL_len ls i k
  refine ⟨?_, h2, ?_, (vs.set i vk).set k vi, by rw [hl]; exact g2, ⟨by simp [hl, h5.1], fun j v hj => ?_⟩, fun x hx => ?_⟩
  · exact (h1.setCell (p := ⟨gr, i, none⟩) hb vk).setCell (p := ⟨gr, k, none⟩) hb vi
  · rw [hl]; exact (h3.setCell (a := ⟨gr, i, none⟩) hne.symm vk).setCell (a := ⟨gr, k, none⟩) hne.symm vi
  · rw [swapL_get hi hk]
    by_cases e1 : j = k
    · subst e1
      rw [if_pos rfl]
      rw [List.getElem?_set_self (by simpa using hkv), Option.some.injEq] at hj
      rw [← hj]; exact ti
    · rw [if_neg e1]
      rw [List.getElem?_set_ne (fun e => e1 e.symm)] at hj
      by_cases e2 : j = i
      · subst e2
        rw [if_pos rfl]
        rw [List.getElem?_set_self hiv, Option.some.injEq] at hj
        rw [← hj]; exact tk
      · rw [if_neg e2]
        rw [List.getElem?_set_ne (fun e => e2 e.symm)] at hj
        exact h5.2 j v hj
  · obtain ⟨f1, f2, f3⟩ := h6 x hx
    have f4 : x.1 ≠ gr := f3 _ rfl
    exact ⟨((Below.heap_setCell _ ⟨gr, k, none⟩ vi x.1 f4).trans (Below.heap_setCell _ ⟨gr, i, none⟩ vk x.1 f4)).trans f1, f2, f3⟩
end
/-- The cell k of block gr may be stored into. -/
def StOk (w : World) (gr k : Nat) : Prop := (∃ u, w.cell? ⟨gr, k, none⟩ = some u) ∧ w.frozen? ⟨gr, k, none⟩ = false
theorem store_ok {w : World} {B e gr n c i k : Nat} {xs : List Value} (h : w.ownsRow B e 1 (.slice (some ⟨gr, 0, none⟩) n c) n xs) (hk : k < n) (v : Value) : StOk (w.setCell ⟨gr, i, none⟩ v) gr k := by
  have g1 := (h.stored i v).1
  have hl := h.1
  refine ⟨?_, g1.frozenAt k⟩
  rw [g1.cellAt k (by omega), List.getElem?_eq_getElem (by simp; omega)]
  exact ⟨_, rfl⟩
theorem llen_any (p : Option Addr) (n c : Nat) (w : World) : Calls Try.prog 29 #[.slice p n c] w fun e w' => e = .returned (.int .i64 n) ∧ w = w' := by
  go_enter Try.func29, Try.ntmps29
  go_wp2_with fail
  go_ret
  exact ⟨rfl, rfl⟩
theorem sl_cons {w : World} {v : Value} {l : List Tu} (h : TuSl w v l) (hl : l ≠ []) : ∃ b off n c, v = .slice (some ⟨b, off, none⟩) (n + 1) c ∧ b < w.heap.size ∧ w.rangeAt b off (tc (hd l)) := by
  cases l with
  | nil => exact absurd rfl hl
  | cons y r =>
    obtain ⟨b, off, c, h1, _, h3, h4, _⟩ := h.cons
    exact ⟨b, off, r.length, c, h1, h3, h4⟩
set_option maxRecDepth 100000 in
set_option maxHeartbeats 4000000 in
theorem lless_any {F : List (Nat × Obj)} {w0 w : World} {g c : Nat} {p : Option Addr} {ls : List (List Tu)} (h : QS F w0 g p c ls w) {i k : Nat} (hi : i < ls.length) (hk : k < ls.length) (hne : ∀ l ∈ ls, l ≠ []) :
    Calls Try.prog 83 #[.slice p ls.length c, .int .i64 i, .int .i64 k] w fun e w' => e = .returned (.bool (ltH (ls.getD i []) (ls.getD k []))) ∧ Below w.heap.size w w' := by
  have hdd : Below w.heap.size w w.drew := (Below.refl _ _).drew
  obtain ⟨gr, vi, rfl, hb, hlt, _, ci, _, ti⟩ := h.at hi
  obtain ⟨gr', vk, e, _, _, _, ck, _, tk⟩ := h.at hk
  simp only [Option.some.injEq, Addr.mk.injEq, and_true] at e
  subst e
  have ne : ∀ j, j < ls.length → ls.getD j [] ≠ [] := fun j hj => by
    rw [List.getD_eq_getElem?_getD, List.getElem?_eq_getElem hj]
    exact hne _ (List.getElem_mem hj)
  obtain ⟨b1, o1, n1, c1, rfl, hb1, r1⟩ := sl_cons ti (ne i hi)
  obtain ⟨b2, o2, n2, c2, rfl, hb2, r2⟩ := sl_cons tk (ne k hk)
  obtain ⟨x, hx⟩ : ∃ x, x = hd (ls.getD i []) := ⟨_, rfl⟩
  obtain ⟨y, hy⟩ : ∃ y, y = hd (ls.getD k []) := ⟨_, rfl⟩
  rw [← hx] at r1
  rw [← hy] at r2
  have HLT : Hid (ltH (ls.getD i []) (ls.getD k []) = decide (ordT x y < 0)) := by show _ = _; unfold ltH; rw [← hx, ← hy]
  have HB := Lib.hid hdd
  have hB0 := h.1.trans (hdd.mono h.1.size)
  have HR1 : Hid ((w.drew).rangeAt b1 o1 (tc x)) := range_below r1 hb1 hB0
  have HR2 : Hid ((w.drew).rangeAt b2 o2 (tc y)) := range_below r2 hb2 hB0
  have hi' : (i : Int) < ls.length := by omega
  have hk' : (k : Int) < ls.length := by omega
  have HCM := Lib.hid (tcompare_below x y w.drew)
  clear h hb hlt ti tk ne hne r1 r2 hx hy hdd hB0 hb1 hb2
  go_enter Try.func83, Try.ntmps83
  go_wp2_with fail
  refine region_tail 12 (by kernel_rfl) (by kernel_rfl) ?_
  simp only [List.take_succ_cons, List.take_zero, List.drop_succ_cons, List.drop_zero]
  repeat first
    | still_step
    | ((with_reducible refine stillG (x := .tmp 11) (o := ⟨some 12, _, _, _, _, _⟩) HR1.out ?_ ?_); exact ⟨rfl, rfl, by go_simp⟩)
    | ((with_reducible refine stillG (x := .tmp 17) (o := ⟨some 18, _, _, _, _, _⟩) HR2.out ?_ ?_); exact ⟨rfl, rfl, by go_simp⟩)
  refine wpStill_nil ?_
  clear HR1 HR2 ci ck
  generalize w.drew = wd at HB HCM ⊢
  go_wp2_with fail
  refine HCM.out.mono ?_
  rintro e w2 ⟨rfl, b2⟩
  have HB2 := Lib.hid (HB.out.trans (b2.mono HB.out.size))
  clear b2 HCM HB
  go_wp2_with fail
  go_ret
  exact ⟨by rw [HLT.out]; rfl, HB2.out⟩
set_option maxRecDepth 100000 in
set_option maxHeartbeats 4000000 in
theorem lswap_any {F : List (Nat × Obj)} {w0 w : World} {g c : Nat} {p : Option Addr} {ls : List (List Tu)} (h : QS F w0 g p c ls w) {i k : Nat} (hi : i < ls.length) (hk : k < ls.length) :
    Calls Try.prog 86 #[.slice p ls.length c, .int .i64 i, .int .i64 k] w fun e w' => e = .returned (.tuple #[]) ∧ QS F w0 g p c (swapL [] ls i k) w' := by
  have hdd : Below w.heap.size w w.drew := (Below.refl _ _).drew
  obtain ⟨gr, vi, rfl, hb, hlt, _, ci, fr, ti⟩ := h.at hi
  obtain ⟨gr', vk, e, _, _, _, ck, _, tk⟩ := h.at hk
  simp only [Option.some.injEq, Addr.mk.injEq, and_true] at e
  subst e
  have ci' : (w.drew).cell? ⟨gr, i, none⟩ = some vi := ci
  have ck' : (w.drew).cell? ⟨gr, k, none⟩ = some vk := ck
  have HQ := Lib.hid ((h.later hdd).swap hi hk ci' ck')
  have HST : Hid (StOk ((w.drew).setCell ⟨gr, i, none⟩ vk) gr k) := by
    obtain ⟨_, _, _, vs, h4, _⟩ := h.later hdd
    exact store_ok h4 hk vk
  have fi : (w.drew).frozen? ⟨gr, i, none⟩ = false := fr i
  have fk : (w.drew).frozen? ⟨gr, k, none⟩ = false := fr k
  have hi' : (i : Int) < ls.length := by omega
  have hk' : (k : Int) < ls.length := by omega
  obtain ⟨q1, n1, m1, rfl⟩ : ∃ q n m, vi = .slice q n m := by obtain ⟨a, b, e, _⟩ := ti.src; exact ⟨_, _, _, e⟩
  obtain ⟨q2, n2, m2, rfl⟩ : ∃ q n m, vk = .slice q n m := by obtain ⟨a, b, e, _⟩ := tk.src; exact ⟨_, _, _, e⟩
  clear h hb hlt ci ck fr ti tk hdd
  go_enter Try.func86, Try.ntmps86
  go_wp2_with fail
  refine wp_region_noPanic ?_
  refine wp_region_held_drew (S := fun _ => True) (by kernel_rfl) trivial (fun hHeld => ?_)
  try simp only [Act.put]
  generalize w.drew = wd at ci' ck' fi fk HQ HST ⊢
  refine wpAnyH_take (i := 0) (oi := ⟨some 6, _, _, _, _, _⟩) (v := .slice (some ⟨gr, 0, none⟩) ls.length c) rfl (by kernel_rfl) (by kernel_rfl) (by kernel_rfl) (fun _ _ _ h => h) (.inl ⟨by rfl, fun w' hSw => ?_⟩) hHeld ?_
  focus (skip; clear hHeld; go_simp)
  try simp only [Act.put, List.setIfInBounds_toArray, List.set_cons_zero, List.set_cons_succ]
  refine wpAnyH_take (i := 1) (oi := ⟨some 7, _, _, _, _, _⟩) (v := .int .i64 i) rfl (by kernel_rfl) (by kernel_rfl) (by kernel_rfl) (fun _ _ _ h => h) (.inl ⟨by rfl, fun w' hSw => ?_⟩) hHeld ?_
  focus (skip; clear hHeld; go_simp)
  try simp only [Act.put, List.setIfInBounds_toArray, List.set_cons_zero, List.set_cons_succ]
  refine wpAnyH_take (i := 2) (oi := ⟨some 8, _, _, _, _, _⟩) (v := .slice (some ⟨gr, 0, none⟩) ls.length c) rfl (by kernel_rfl) (by kernel_rfl) (by kernel_rfl) (fun _ _ _ h => h) (.inl ⟨by rfl, fun w' hSw => ?_⟩) hHeld ?_
  focus (skip; clear hHeld; go_simp)
  try simp only [Act.put, List.setIfInBounds_toArray, List.set_cons_zero, List.set_cons_succ]
  refine wpAnyH_take (i := 3) (oi := ⟨some 9, _, _, _, _, _⟩) (v := .int .i64 k) rfl (by kernel_rfl) (by kernel_rfl) (by kernel_rfl) (fun _ _ _ h => h) (.inl ⟨by rfl, fun w' hSw => ?_⟩) hHeld ?_
  focus (skip; clear hHeld; go_simp)
  try simp only [Act.put, List.setIfInBounds_toArray, List.set_cons_zero, List.set_cons_succ]
  refine wpAnyH_take (i := 4) (oi := ⟨some 10, _, _, _, _, _⟩) (v := .slice (some ⟨gr, 0, none⟩) ls.length c) rfl (by kernel_rfl) (by kernel_rfl) (by kernel_rfl) (fun _ _ _ h => h) (.inl ⟨by rfl, fun w' hSw => ?_⟩) hHeld ?_
  focus (skip; clear hHeld; go_simp)
  try simp only [Act.put, List.setIfInBounds_toArray, List.set_cons_zero, List.set_cons_succ]
  refine wpAnyH_take (i := 5) (oi := ⟨some 11, _, _, _, _, _⟩) (v := .int .i64 k) rfl (by kernel_rfl) (by kernel_rfl) (by kernel_rfl) (fun _ _ _ h => h) (.inl ⟨by rfl, fun w' hSw => ?_⟩) hHeld ?_
  focus (skip; clear hHeld; go_simp)
  try simp only [Act.put, List.setIfInBounds_toArray, List.set_cons_zero, List.set_cons_succ]
  refine wpAnyH_take (i := 6) (oi := ⟨some 12, _, _, _, _, _⟩) (v := .pointer (some ⟨gr, k, none⟩)) rfl (by kernel_rfl) (by kernel_rfl) (by kernel_rfl) (fun _ _ _ h => h) (.inl ⟨by rfl, fun w' hSw => ?_⟩) hHeld ?_
  focus (skip; clear hHeld; go_simp)
  try simp only [Act.put, List.setIfInBounds_toArray, List.set_cons_zero, List.set_cons_succ]
  refine wpAnyH_take (i := 8) (oi := ⟨some 14, _, _, _, _, _⟩) (v := .slice (some ⟨gr, 0, none⟩) ls.length c) rfl (by kernel_rfl) (by kernel_rfl) (by kernel_rfl) (fun _ _ _ h => h) (.inl ⟨by rfl, fun w' hSw => ?_⟩) hHeld ?_
  focus (skip; clear hHeld; go_simp)
  try simp only [Act.put, List.setIfInBounds_toArray, List.set_cons_zero, List.set_cons_succ]
  refine wpAnyH_take (i := 9) (oi := ⟨some 15, _, _, _, _, _⟩) (v := .int .i64 i) rfl (by kernel_rfl) (by kernel_rfl) (by kernel_rfl) (fun _ _ _ h => h) (.inl ⟨by rfl, fun w' hSw => ?_⟩) hHeld ?_
  focus (skip; clear hHeld; go_simp)
  try simp only [Act.put, List.setIfInBounds_toArray, List.set_cons_zero, List.set_cons_succ]
  refine wpAnyH_take (i := 10) (oi := ⟨some 16, _, _, _, _, _⟩) (v := .pointer (some ⟨gr, i, none⟩)) rfl (by kernel_rfl) (by kernel_rfl) (by kernel_rfl) (fun _ _ _ h => h) (.inl ⟨by rfl, fun w' hSw => ?_⟩) hHeld ?_
  focus (skip; clear hHeld; go_simp)
  try simp only [Act.put, List.setIfInBounds_toArray, List.set_cons_zero, List.set_cons_succ]
  refine wpAnyH_ready (rs := [7, 11]) (by kernel_rfl) (by simp) ?_
  refine AllReadyH.cons (o := ⟨some 13, _, _, _, _, _⟩) rfl (fun K' hK' => ?_) (AllReadyH.cons (o := ⟨some 17, _, _, _, _, _⟩) rfl (fun K' hK' => ?_) AllReadyH.nil)
  · go_simp
    refine hK'.out _ _ trivial (fun _ => ?_)
    clear hK' K'
    try simp only [Act.put, List.setIfInBounds_toArray, List.set_cons_zero, List.set_cons_succ]
    refine wpAnyH_ready (rs := [11]) (by kernel_rfl) (by simp) ?_
    refine AllReadyH.cons (o := ⟨some 17, _, _, _, _, _⟩) rfl (fun K' hK' => ?_) AllReadyH.nil
    go_simp
    refine hK'.out _ _ trivial (fun _ => ?_)
    clear hK' K'
    try simp only [Act.put, List.setIfInBounds_toArray, List.set_cons_zero, List.set_cons_succ]
    refine wpAnyH_take (i := 12) (oi := ⟨some 18, _, _, _, _, _⟩) (v := .pointer (some ⟨gr, i, none⟩)) rfl (by kernel_rfl) (by kernel_rfl) (by kernel_rfl) (fun _ _ _ h => h) (.inl ⟨by rfl, fun w' hSw => ?_⟩) hHeld ?_
    focus (skip; clear hHeld; go_simp)
    try simp only [Act.put, List.setIfInBounds_toArray, List.set_cons_zero, List.set_cons_succ]
    refine wpAnyH_ready (rs := [13]) (by kernel_rfl) (by simp) ?_
    refine AllReadyH.cons (o := ⟨none, _, _, _, _, _⟩) rfl (fun K' hK' => ?_) AllReadyH.nil
    go_simp
    refine hK'.out _ _ trivial (fun _ => ?_)
    clear hK' K'
    try simp only [Act.put, List.setIfInBounds_toArray, List.set_cons_zero, List.set_cons_succ]
    clear ci' ck' fi fk
    generalize wd.setCell ⟨gr, i, none⟩ (.slice q2 n2 m2) = w1 at HQ HST ⊢
    obtain ⟨⟨u, hu⟩, f2⟩ := HST.out
    clear HST
    refine wpAnyH_take (i := 14) (oi := ⟨some 19, _, _, _, _, _⟩) (v := .pointer (some ⟨gr, k, none⟩)) rfl (by kernel_rfl) (by kernel_rfl) (by kernel_rfl) (fun _ _ _ h => h) (.inl ⟨by rfl, fun w' hSw => ?_⟩) hHeld ?_
    focus (skip; clear hHeld; go_simp)
    try simp only [Act.put, List.setIfInBounds_toArray, List.set_cons_zero, List.set_cons_succ]
    refine wpAnyH_ready (rs := [15]) (by kernel_rfl) (by simp) ?_
    refine AllReadyH.cons (o := ⟨none, _, _, _, _, _⟩) rfl (fun K' hK' => ?_) AllReadyH.nil
    go_simp
    refine hK'.out _ _ trivial (fun _ => ?_)
    clear hK' K'
    try simp only [Act.put, List.setIfInBounds_toArray, List.set_cons_zero, List.set_cons_succ]
    refine wpAnyH_done (by kernel_rfl) ?_ _
    refine NoPanic.normal ?_
    go_wp2_with fail
    go_end0
    exact ⟨rfl, HQ.out⟩
  · go_simp
    refine hK'.out _ _ trivial (fun _ => ?_)
    clear hK' K'
    try simp only [Act.put, List.setIfInBounds_toArray, List.set_cons_zero, List.set_cons_succ]
    refine wpAnyH_ready (rs := [7]) (by kernel_rfl) (by simp) ?_
    refine AllReadyH.cons (o := ⟨some 13, _, _, _, _, _⟩) rfl (fun K' hK' => ?_) AllReadyH.nil
    go_simp
    refine hK'.out _ _ trivial (fun _ => ?_)
    clear hK' K'
    try simp only [Act.put, List.setIfInBounds_toArray, List.set_cons_zero, List.set_cons_succ]
    refine wpAnyH_take (i := 12) (oi := ⟨some 18, _, _, _, _, _⟩) (v := .pointer (some ⟨gr, i, none⟩)) rfl (by kernel_rfl) (by kernel_rfl) (by kernel_rfl) (fun _ _ _ h => h) (.inl ⟨by rfl, fun w' hSw => ?_⟩) hHeld ?_
    focus (skip; clear hHeld; go_simp)
    try simp only [Act.put, List.setIfInBounds_toArray, List.set_cons_zero, List.set_cons_succ]
    refine wpAnyH_ready (rs := [13]) (by kernel_rfl) (by simp) ?_
    refine AllReadyH.cons (o := ⟨none, _, _, _, _, _⟩) rfl (fun K' hK' => ?_) AllReadyH.nil
    go_simp
    refine hK'.out _ _ trivial (fun _ => ?_)
    clear hK' K'
    try simp only [Act.put, List.setIfInBounds_toArray, List.set_cons_zero, List.set_cons_succ]
    clear ci' ck' fi fk
    generalize wd.setCell ⟨gr, i, none⟩ (.slice q2 n2 m2) = w1 at HQ HST ⊢
    obtain ⟨⟨u, hu⟩, f2⟩ := HST.out
    clear HST
    refine wpAnyH_take (i := 14) (oi := ⟨some 19, _, _, _, _, _⟩) (v := .pointer (some ⟨gr, k, none⟩)) rfl (by kernel_rfl) (by kernel_rfl) (by kernel_rfl) (fun _ _ _ h => h) (.inl ⟨by rfl, fun w' hSw => ?_⟩) hHeld ?_
    focus (skip; clear hHeld; go_simp)
    try simp only [Act.put, List.setIfInBounds_toArray, List.set_cons_zero, List.set_cons_succ]
    refine wpAnyH_ready (rs := [15]) (by kernel_rfl) (by simp) ?_
    refine AllReadyH.cons (o := ⟨none, _, _, _, _, _⟩) rfl (fun K' hK' => ?_) AllReadyH.nil
    go_simp
    refine hK'.out _ _ trivial (fun _ => ?_)
    clear hK' K'
    try simp only [Act.put, List.setIfInBounds_toArray, List.set_cons_zero, List.set_cons_succ]
    refine wpAnyH_done (by kernel_rfl) ?_ _
    refine NoPanic.normal ?_
    go_wp2_with fail
    go_end0
    exact ⟨rfl, HQ.out⟩
end Go.Proofs.Ytebbbiikphfjcaa
