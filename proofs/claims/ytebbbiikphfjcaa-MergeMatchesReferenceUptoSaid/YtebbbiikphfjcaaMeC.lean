/-
  The union of sorted lists by a heap; no program is spoken of.
-/
import Derived.Test.YtebbbiikphfjcaaMeA
import Derived.Test.YtebbbiikphfjcaaMeB
namespace Go.Proofs.Ytebbbiikphfjcaa
set_option linter.unusedVariables false

def hd (l : List Tu) : Tu := l.headD t0
/-- A list is less if its first tuple is. -/
def ltH (a b : List Tu) : Bool := decide (ordT (hd a) (hd b) < 0)
theorem ltH_law : LtL ltH where
  asym a b h := by
    unfold ltH at h ⊢
    have h := of_decide_eq_true h
    have := ordT_flip (hd a) (hd b)
    exact decide_eq_false (by omega)
  neg a b c h1 h2 := by
    unfold ltH at h1 h2 ⊢
    have h1 := of_decide_eq_false h1
    have h2 := of_decide_eq_false h2
    have f1 := ordT_flip (hd a) (hd b)
    have f2 := ordT_flip (hd b) (hd c)
    have f3 := ordT_flip (hd a) (hd c)
    have := ordT_le (a := hd c) (b := hd b) (c := hd a) (by omega) (by omega)
    exact decide_eq_false (by omega)
/-- A list that is not empty is added. -/
def addL (ls : List (List Tu)) (l : List Tu) : List (List Tu) := upL [] ltH (ls.length + 1) (ls ++ [l]) ls.length
theorem add_ok {ls : List (List Tu)} (h : HeapL [] ltH ls ls.length) (l : List Tu) : HeapL [] ltH (addL ls l) (addL ls l).length ∧ (addL ls l).Perm (ls ++ [l]) ∧ (addL ls l).length = ls.length + 1 := by
  obtain ⟨h1, h2⟩ := up_heap (d := ([] : List Tu)) ltH_law ls.length (l := ls ++ [l]) (n := ls.length + 1) (j := ls.length) (Nat.le_refl _) (by omega) (by simp) (up_new h l rfl)
  have hl : (addL ls l).length = ls.length + 1 := by have := h2.length_eq; simpa [addL] using this
  exact ⟨by rw [hl]; exact h1, h2, hl⟩
/-- What lies in the list when the first one was brought to the end. -/
def sunk (ls : List (List Tu)) : List (List Tu) := downL [] ltH (ls.length - 1 + 1) (swapL [] ls 0 (ls.length - 1)) 0 (ls.length - 1)
theorem sunk_ok {ls : List (List Tu)} (h : HeapL [] ltH ls ls.length) (h0 : 0 < ls.length) : (sunk ls).length = ls.length ∧ (sunk ls).getD (ls.length - 1) [] = ls.getD 0 [] ∧ HeapL [] ltH ((sunk ls).take (ls.length - 1)) ((sunk ls).take (ls.length - 1)).length ∧ (((sunk ls).take (ls.length - 1)) ++ [ls.getD 0 []]).Perm ls := by
  obtain ⟨n, hn⟩ : ∃ n, n = ls.length - 1 := ⟨_, rfl⟩
  have hn1 : ls.length = n + 1 := by omega
  have hd0 := down_new (d := ([] : List Tu)) ltH_law (l := ls) (n := n) (by rw [← hn1]; exact h) (by omega)
  obtain ⟨h1, h2, h3⟩ := down_heap (d := ([] : List Tu)) ltH_law n (l := swapL [] ls 0 n) (n := n) (i := 0) (by omega) (by rw [swapL_len]; omega) hd0
  have e : sunk ls = downL [] ltH (n + 1) (swapL [] ls 0 n) 0 n := by unfold sunk; rw [← hn]
  rw [← e] at h1 h2 h3
  have hp := h2.trans (swapL_perm (d := ([] : List Tu)) (l := ls) (i := 0) (j := n) (by omega) (by omega))
  have hl : (sunk ls).length = n + 1 := by rw [hp.length_eq, hn1]
  have hlast : (sunk ls).getD n [] = ls.getD 0 [] := by rw [h3 n (Nat.le_refl _), swapL_get (by omega) (by omega), if_pos rfl]
  rw [← hn]
  have htl : ((sunk ls).take n).length = n := by rw [List.length_take]; omega
  refine ⟨by omega, hlast, ?_, ?_⟩
  · rw [htl]
    intro k hk0 hk
    have g : ∀ j, j < n → ((sunk ls).take n).getD j [] = (sunk ls).getD j [] := fun j hj => by
      rw [List.getD_eq_getElem?_getD, List.getD_eq_getElem?_getD, List.getElem?_take_of_lt hj]
    rw [g k hk, g _ (by omega)]
    exact h1 k hk0 hk
  · have : (sunk ls).take n ++ [ls.getD 0 []] = sunk ls := by
      conv => rhs; rw [← List.take_append_drop n (sunk ls)]
      congr 1
      rw [← hlast, List.getD_eq_getElem?_getD, List.getElem?_eq_getElem (by omega)]
      have hdl : ((sunk ls).drop n).length = 1 := by rw [List.length_drop]; omega
      rw [List.drop_eq_getElem_cons (by omega), List.drop_eq_nil_of_le (by omega)]; rfl
    rw [this]; exact hp
/-- What Union keeps: the heap, the tuples taken so far, and all tuples. -/
structure UI (ls : List (List Tu)) (acc all : List Tu) : Prop where
  heap : HeapL [] ltH ls ls.length
  ris : ∀ l ∈ ls, l ≠ [] ∧ Ris l
  asc : acc.Pairwise fun a b => ¬ 0 < ordT a b
  low : ∀ a ∈ acc, ∀ l ∈ ls, ∀ x ∈ l, ¬ 0 < ordT a x
  mem : ∀ x, x ∈ all ↔ x ∈ acc ∨ ∃ l ∈ ls, x ∈ l
  len : acc.length + (ls.map List.length).sum = all.length
theorem UI.start : UI [] [] [] where
  heap k _ hk := by simp at hk
  ris l h := by simp at h
  asc := List.Pairwise.nil
  low a h := by simp at h
  mem x := by simp
  len := rfl
theorem UI.add {ls : List (List Tu)} {all : List Tu} (h : UI ls [] all) {l : List Tu} (hl : l ≠ []) (hr : Ris l) : UI (addL ls l) [] (all ++ l) := by
  obtain ⟨a1, a2, a3⟩ := add_ok h.heap l
  refine ⟨a1, ?_, List.Pairwise.nil, fun a ha => by simp at ha, ?_, ?_⟩
  · intro x hx
    rcases List.mem_append.1 (a2.mem_iff.1 hx) with hx | hx
    · exact h.ris x hx
    · rw [List.mem_singleton] at hx; subst hx; exact ⟨hl, hr⟩
  · intro x
    rw [List.mem_append, h.mem x]
    constructor
    · rintro ((hx | ⟨m, hm, hx⟩) | hx)
      · simp at hx
      · exact .inr ⟨m, a2.mem_iff.2 (List.mem_append_left _ hm), hx⟩
      · exact .inr ⟨l, a2.mem_iff.2 (by simp), hx⟩
    · rintro (hx | ⟨m, hm, hx⟩)
      · simp at hx
      · rcases List.mem_append.1 (a2.mem_iff.1 hm) with hm | hm
        · exact .inl (.inr ⟨m, hm, hx⟩)
        · rw [List.mem_singleton] at hm; subst hm; exact .inr hx
  · have h1 := (a2.map List.length).sum_nat
    have h2 := h.len
    rw [List.map_append, List.sum_append] at h1
    simp only [List.map_cons, List.map_nil, List.sum_cons, List.sum_nil, List.length_nil] at h1 h2
    rw [List.length_append, List.length_nil]; omega
/-- The lists after the first tuple was taken. -/
def nextL (ls : List (List Tu)) : List (List Tu) := if (ls.getD 0 []).tail = [] then (sunk ls).take (ls.length - 1) else addL ((sunk ls).take (ls.length - 1)) (ls.getD 0 []).tail
theorem head_min {ls : List (List Tu)} (h : HeapL [] ltH ls ls.length) (hr : ∀ l ∈ ls, l ≠ [] ∧ Ris l) : ∀ l ∈ ls, ∀ x ∈ l, ¬ 0 < ordT (hd (ls.getD 0 [])) x := by
  intro l hl x hx
  obtain ⟨k, hk, rfl⟩ := List.getElem_of_mem hl
  have h1 := heap_min ltH_law h k k (Nat.le_refl _) hk
  unfold ltH at h1
  have h1 := of_decide_eq_false h1
  rw [List.getD_eq_getElem?_getD, List.getElem?_eq_getElem hk] at h1
  have h2 : ¬ 0 < ordT (hd ls[k]) x := by
    obtain ⟨hne, hri⟩ := hr _ hl
    match hlk : ls[k], hne with
    | y :: r, _ =>
      rw [hlk] at hx hri
      show ¬ 0 < ordT y x
      rcases List.mem_cons.1 hx with rfl | hx
      · rw [ordT_self]; decide
      · have := (List.pairwise_cons.1 hri).1 x hx; omega
  have f := ordT_flip (hd (ls.getD 0 [])) (hd ls[k])
  simp only [Option.getD_some] at h1
  exact ordT_le (by omega) h2
theorem UI.next {ls : List (List Tu)} {acc all : List Tu} (h : UI ls acc all) (h0 : 0 < ls.length) : UI (nextL ls) (acc ++ [hd (ls.getD 0 [])]) all := by
  obtain ⟨s1, s2, s3, s4⟩ := sunk_ok h.heap h0
  have hmin := head_min h.heap h.ris
  obtain ⟨F, hF⟩ : ∃ F, F = ls.getD 0 [] := ⟨_, rfl⟩
  have hFm : F ∈ ls := by rw [hF, List.getD_eq_getElem?_getD, List.getElem?_eq_getElem h0]; exact List.getElem_mem h0
  obtain ⟨T, hT⟩ : ∃ T, T = (sunk ls).take (ls.length - 1) := ⟨_, rfl⟩
  rw [← hT, ← hF] at s4
  rw [← hT] at s3
  rw [← hF] at hmin ⊢
  have hsub : ∀ l ∈ T, l ∈ ls := fun l hl => s4.mem_iff.1 (List.mem_append_left _ hl)
  obtain ⟨hFne, hFr⟩ := h.ris F hFm
  obtain ⟨y, r, hyr⟩ : ∃ y r, F = y :: r := by
    cases F with
    | nil => exact absurd rfl hFne
    | cons y r => exact ⟨y, r, rfl⟩
  have hhd : hd F = y := by rw [hyr]; rfl
  have htl : F.tail = r := by rw [hyr]; rfl
  have hsum := (s4.map List.length).sum_nat
  rw [List.map_append, List.sum_append] at hsum
  simp only [List.map_cons, List.map_nil, List.sum_cons, List.sum_nil] at hsum
  have hlenF : F.length = r.length + 1 := by rw [hyr]; rfl
  have hlen := h.len
  rw [hhd] at hmin ⊢
  have hasc : (acc ++ [y]).Pairwise fun a b => ¬ 0 < ordT a b := by
    rw [List.pairwise_append]
    refine ⟨h.asc, List.pairwise_singleton _ _, fun a ha b hb => ?_⟩
    rw [List.mem_singleton] at hb; subst hb
    exact h.low a ha F hFm b (by rw [hyr]; simp)
  have hr : Ris r := by rw [hyr] at hFr; exact (List.pairwise_cons.1 hFr).2
  have key : ∀ N : List (List Tu), HeapL [] ltH N N.length → (∀ l, l ∈ N → l ∈ T ∨ l = r ∧ r ≠ []) → (∀ x, (∃ l ∈ N, x ∈ l) ↔ (∃ l ∈ T, x ∈ l) ∨ x ∈ r) → (N.map List.length).sum = (T.map List.length).sum + r.length → UI N (acc ++ [y]) all := by
    intro N n1 n2 n3 n4
    have inN : ∀ l, l ∈ N → ∀ x ∈ l, ∃ m ∈ ls, x ∈ m := fun l hl x hx => by
      rcases n2 l hl with h | ⟨h, _⟩
      · exact ⟨l, hsub l h, hx⟩
      · subst h; exact ⟨F, hFm, by rw [hyr]; exact List.mem_cons_of_mem _ hx⟩
    refine ⟨n1, fun l hl => ?_, hasc, fun a ha l hl x hx => ?_, fun x => ?_, ?_⟩
    · rcases n2 l hl with h2 | ⟨rfl, h2⟩
      · exact h.ris l (hsub l h2)
      · exact ⟨h2, hr⟩
    · obtain ⟨m, hm, hxm⟩ := inN l hl x hx
      rcases List.mem_append.1 ha with ha | ha
      · exact h.low a ha m hm x hxm
      · rw [List.mem_singleton] at ha; subst ha; exact hmin m hm x hxm
    · rw [h.mem x, n3, List.mem_append, List.mem_singleton]
      constructor
      · rintro (hx | ⟨m, hm, hx⟩)
        · exact .inl (.inl hx)
        · rcases List.mem_append.1 (s4.mem_iff.2 hm) with hm | hm
          · exact .inr (.inl ⟨m, hm, hx⟩)
          · rw [List.mem_singleton] at hm; subst hm
            rw [hyr] at hx
            rcases List.mem_cons.1 hx with rfl | hx
            · exact .inl (.inr rfl)
            · exact .inr (.inr hx)
      · rintro ((hx | rfl) | ⟨m, hm, hx⟩ | hx)
        · exact .inl hx
        · exact .inr ⟨F, hFm, by rw [hyr]; simp⟩
        · exact .inr ⟨m, hsub m hm, hx⟩
        · exact .inr ⟨F, hFm, by rw [hyr]; exact List.mem_cons_of_mem _ hx⟩
    · rw [n4, List.length_append, List.length_singleton]; omega
  unfold nextL
  rw [← hF, ← hT, htl]
  by_cases hre : r = []
  · rw [if_pos hre]
    refine key T s3 (fun l hl => .inl hl) (fun x => ?_) (by rw [hre]; simp)
    rw [hre]; simp
  · rw [if_neg hre]
    obtain ⟨a1, a2, a3⟩ := add_ok s3 r
    refine key _ a1 (fun l hl => ?_) (fun x => ?_) ?_
    · rcases List.mem_append.1 (a2.mem_iff.1 hl) with h | h
      · exact .inl h
      · rw [List.mem_singleton] at h; exact .inr ⟨h, hre⟩
    · constructor
      · rintro ⟨l, hl, hx⟩
        rcases List.mem_append.1 (a2.mem_iff.1 hl) with h | h
        · exact .inl ⟨l, h, hx⟩
        · rw [List.mem_singleton] at h; subst h; exact .inr hx
      · rintro (⟨l, hl, hx⟩ | hx)
        · exact ⟨l, a2.mem_iff.2 (List.mem_append_left _ hl), hx⟩
        · exact ⟨r, a2.mem_iff.2 (by simp), hx⟩
    · have := (a2.map List.length).sum_nat
      rw [List.map_append, List.sum_append] at this
      simpa using this
theorem UI.done {acc all : List Tu} (h : UI [] acc all) : cmpct acc = sortedT all :=
  cmpct_sorted h.asc fun x => by rw [h.mem x]; simp
end Go.Proofs.Ytebbbiikphfjcaa
