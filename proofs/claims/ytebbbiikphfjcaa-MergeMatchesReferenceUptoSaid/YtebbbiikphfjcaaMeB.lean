/-
  A heap in a list, as container/heap keeps it: up and down; no program is spoken of.
-/
import Derived.Test.YtebbbiikphfjcaaPlain
namespace Go.Proofs.Ytebbbiikphfjcaa
set_option linter.unusedVariables false
section
variable {α : Type} {d : α} {lt : α → α → Bool}
/-- What a comparison must keep: it is asymmetric, and what is not less is not less through a third. -/
structure LtL (lt : α → α → Bool) : Prop where
  asym : ∀ a b, lt a b = true → lt b a = false
  neg : ∀ a b c, lt a b = false → lt b c = false → lt a c = false
def swapL (d : α) (l : List α) (i j : Nat) : List α := (l.set i (l.getD j d)).set j (l.getD i d)
theorem swapL_len (l : List α) (i j : Nat) : (swapL d l i j).length = l.length := by simp [swapL]
theorem swapL_perm {l : List α} {i j : Nat} (hi : i < l.length) (hj : j < l.length) : (swapL d l i j).Perm l := by
  unfold swapL
  rw [List.getD_eq_getElem?_getD, List.getElem?_eq_getElem hj, List.getD_eq_getElem?_getD, List.getElem?_eq_getElem hi]
  exact List.set_set_perm hi hj
theorem swapL_get {l : List α} {i j : Nat} (hi : i < l.length) (hj : j < l.length) (k : Nat) : (swapL d l i j).getD k d = if k = j then l.getD i d else if k = i then l.getD j d else l.getD k d := by
  unfold swapL
  rw [List.getD_eq_getElem?_getD, List.getElem?_set, List.length_set]
  by_cases h1 : j = k
  · subst h1; rw [if_pos rfl, if_pos rfl, if_pos hj]; rfl
  · rw [if_neg h1, if_neg (fun h => h1 h.symm), List.getElem?_set]
    by_cases h2 : i = k
    · subst h2; rw [if_pos rfl, if_pos rfl, if_pos hi]; rfl
    · rw [if_neg h2, if_neg (fun h => h2 h.symm), List.getD_eq_getElem?_getD]
/-- No element is less than the one above it. -/
def HeapL (d : α) (lt : α → α → Bool) (l : List α) (n : Nat) : Prop := ∀ k, 0 < k → k < n → lt (l.getD k d) (l.getD ((k - 1) / 2) d) = false
theorem heap_min (H : LtL lt) {l : List α} {n : Nat} (h : HeapL d lt l n) : ∀ (m k : Nat), k ≤ m → k < n → lt (l.getD k d) (l.getD 0 d) = false
  | m, 0, _, _ => by
    cases e : lt (l.getD 0 d) (l.getD 0 d) with
    | false => rfl
    | true => rw [H.asym _ _ e] at e; cases e
  | m + 1, k + 1, hm, hk => H.neg _ _ _ (h (k + 1) (by omega) hk) (heap_min H h m ((k + 1 - 1) / 2) (by omega) (by omega))
/-! ### up -/
def upL (d : α) (lt : α → α → Bool) : Nat → List α → Nat → List α
  | 0, l, j => l
  | f + 1, l, j => if (j - 1) / 2 = j ∨ lt (l.getD j d) (l.getD ((j - 1) / 2) d) = false then l else upL d lt f (swapL d l ((j - 1) / 2) j) ((j - 1) / 2)
def UpI (d : α) (lt : α → α → Bool) (l : List α) (n j : Nat) : Prop := (∀ k, 0 < k → k < n → k ≠ j → lt (l.getD k d) (l.getD ((k - 1) / 2) d) = false) ∧ (∀ k, 0 < k → k < n → (k - 1) / 2 = j → 0 < j → lt (l.getD k d) (l.getD ((j - 1) / 2) d) = false)
theorem up_stop {l : List α} {n j : Nat} (h : UpI d lt l n j) (hs : (j - 1) / 2 = j ∨ lt (l.getD j d) (l.getD ((j - 1) / 2) d) = false) : HeapL d lt l n := by
  intro k h0 hk
  by_cases hkj : k = j
  · subst hkj
    rcases hs with hs | hs
    · omega
    · exact hs
  · exact h.1 k h0 hk hkj
theorem up_step (H : LtL lt) {l : List α} {n j : Nat} (hj : j < n) (hn : n ≤ l.length) (h : UpI d lt l n j) (hs : ¬ ((j - 1) / 2 = j ∨ lt (l.getD j d) (l.getD ((j - 1) / 2) d) = false)) : UpI d lt (swapL d l ((j - 1) / 2) j) n ((j - 1) / 2) := by
  have hij : (j - 1) / 2 ≠ j := fun e => hs (.inl e)
  have hlt : lt (l.getD j d) (l.getD ((j - 1) / 2) d) = true := by
    cases e : lt (l.getD j d) (l.getD ((j - 1) / 2) d) with
    | true => rfl
    | false => exact absurd (.inr e) hs
  obtain ⟨i, hi⟩ : ∃ i, i = (j - 1) / 2 := ⟨_, rfl⟩
  rw [← hi] at hij hlt ⊢
  have g := fun k => swapL_get (d := d) (l := l) (i := i) (j := j) (by omega) (by omega) k
  have gi : (swapL d l i j).getD i d = l.getD j d := by rw [g, if_neg hij, if_pos rfl]
  have gj : (swapL d l i j).getD j d = l.getD i d := by rw [g, if_pos rfl]
  have go : ∀ k, k ≠ i → k ≠ j → (swapL d l i j).getD k d = l.getD k d := fun k h1 h2 => by rw [g, if_neg h2, if_neg h1]
  have hasym := H.asym _ _ hlt
  constructor
  · intro k h0 hk hki
    by_cases hkj : k = j
    · subst hkj; rw [← hi, gj, gi]; exact hasym
    · rw [go k hki hkj]
      by_cases p1 : (k - 1) / 2 = j
      · rw [p1, gj, hi]; exact h.2 k h0 hk p1 (by omega)
      · by_cases p2 : (k - 1) / 2 = i
        · rw [p2, gi]
          have h1 := h.1 k h0 hk hkj
          rw [p2] at h1
          exact H.neg _ _ _ h1 hasym
        · rw [go _ p2 p1]; exact h.1 k h0 hk hkj
  · intro k h0 hk hp h0i
    rw [go ((i - 1) / 2) (by omega) (by omega)]
    have hpi := h.1 i h0i (by omega) hij
    by_cases hkj : k = j
    · subst hkj; rw [gj]; exact hpi
    · rw [go k (by omega) hkj]
      have h1 := h.1 k h0 hk hkj
      rw [hp] at h1
      exact H.neg _ _ _ h1 hpi
theorem up_heap (H : LtL lt) : ∀ (f : Nat) {l : List α} {n j : Nat}, j ≤ f → j < n → n ≤ l.length → UpI d lt l n j → HeapL d lt (upL d lt (f + 1) l j) n ∧ (upL d lt (f + 1) l j).Perm l
  | 0, l, n, j, hf, hj, hn, h => by
    have hs : (j - 1) / 2 = j ∨ lt (l.getD j d) (l.getD ((j - 1) / 2) d) = false := .inl (by omega)
    unfold upL
    rw [if_pos hs]
    exact ⟨up_stop h hs, List.Perm.refl _⟩
  | f + 1, l, n, j, hf, hj, hn, h => by
    unfold upL
    by_cases hs : (j - 1) / 2 = j ∨ lt (l.getD j d) (l.getD ((j - 1) / 2) d) = false
    · rw [if_pos hs]; exact ⟨up_stop h hs, List.Perm.refl _⟩
    · rw [if_neg hs]
      obtain ⟨h1, h2⟩ := up_heap H f (l := swapL d l ((j - 1) / 2) j) (n := n) (j := (j - 1) / 2) (by omega) (by omega) (by rw [swapL_len]; exact hn) (up_step H hj hn h hs)
      exact ⟨h1, h2.trans (swapL_perm (by omega) (by omega))⟩
/-- A new element at the end of a heap. -/
theorem up_new {l : List α} {n : Nat} (h : HeapL d lt l n) (x : α) (hl : l.length = n) : UpI d lt (l ++ [x]) (n + 1) n := by
  have g : ∀ k, k < n → (l ++ [x]).getD k d = l.getD k d := fun k hk => by
    rw [List.getD_eq_getElem?_getD, List.getD_eq_getElem?_getD, List.getElem?_append_left (by omega)]
  constructor
  · intro k h0 hk hkn
    rw [g k (by omega), g _ (by omega)]
    exact h k h0 (by omega)
  · intro k h0 hk hp _
    omega
/-! ### down -/
/-- The lesser one of the two below i, if there are two. -/
def lessC (d : α) (lt : α → α → Bool) (l : List α) (n i : Nat) : Nat := if 2 * i + 2 < n ∧ lt (l.getD (2 * i + 2) d) (l.getD (2 * i + 1) d) = true then 2 * i + 2 else 2 * i + 1
def downL (d : α) (lt : α → α → Bool) : Nat → List α → Nat → Nat → List α
  | 0, l, i, n => l
  | f + 1, l, i, n => if n ≤ 2 * i + 1 ∨ lt (l.getD (lessC d lt l n i) d) (l.getD i d) = false then l else downL d lt f (swapL d l i (lessC d lt l n i)) (lessC d lt l n i) n
def DownI (d : α) (lt : α → α → Bool) (l : List α) (n i : Nat) : Prop := (∀ k, 0 < k → k < n → (k - 1) / 2 ≠ i → lt (l.getD k d) (l.getD ((k - 1) / 2) d) = false) ∧ (∀ k, 0 < k → k < n → (k - 1) / 2 = i → 0 < i → lt (l.getD k d) (l.getD ((i - 1) / 2) d) = false)
theorem less_at {l : List α} {n i : Nat} : lessC d lt l n i = 2 * i + 1 ∨ lessC d lt l n i = 2 * i + 2 ∧ 2 * i + 2 < n := by
  unfold lessC
  split
  · rename_i h; exact .inr ⟨rfl, h.1⟩
  · exact .inl rfl
theorem less_min (H : LtL lt) {l : List α} {n i k : Nat} (h0 : 0 < k) (hk : k < n) (hp : (k - 1) / 2 = i) : lt (l.getD k d) (l.getD (lessC d lt l n i) d) = false := by
  have irr : ∀ a, lt a a = false := fun a => by
    cases e : lt a a with
    | false => rfl
    | true => rw [H.asym _ _ e] at e; cases e
  have hkk : k = 2 * i + 1 ∨ k = 2 * i + 2 := by omega
  unfold lessC
  split
  · rename_i h
    rcases hkk with rfl | rfl
    · exact H.asym _ _ h.2
    · exact irr _
  · rename_i h
    rcases hkk with rfl | rfl
    · exact irr _
    · cases e : lt (l.getD (2 * i + 2) d) (l.getD (2 * i + 1) d) with
      | false => rfl
      | true => exact absurd ⟨hk, e⟩ h
theorem down_stop (H : LtL lt) {l : List α} {n i : Nat} (h : DownI d lt l n i) (hs : n ≤ 2 * i + 1 ∨ lt (l.getD (lessC d lt l n i) d) (l.getD i d) = false) : HeapL d lt l n := by
  intro k h0 hk
  by_cases hp : (k - 1) / 2 = i
  · rcases hs with hs | hs
    · omega
    · rw [hp]; exact H.neg _ _ _ (less_min H h0 hk hp) hs
  · exact h.1 k h0 hk hp
theorem down_step (H : LtL lt) {l : List α} {n i : Nat} (hn : n ≤ l.length) (h : DownI d lt l n i) (hs : ¬ (n ≤ 2 * i + 1 ∨ lt (l.getD (lessC d lt l n i) d) (l.getD i d) = false)) : lessC d lt l n i < n ∧ i < n ∧ DownI d lt (swapL d l i (lessC d lt l n i)) n (lessC d lt l n i) := by
  have hin : ¬ n ≤ 2 * i + 1 := fun e => hs (.inl e)
  have hlt : lt (l.getD (lessC d lt l n i) d) (l.getD i d) = true := by
    cases e : lt (l.getD (lessC d lt l n i) d) (l.getD i d) with
    | true => rfl
    | false => exact absurd (.inr e) hs
  have hmin := fun k h0 hk hp => less_min H (d := d) (l := l) (n := n) (i := i) (k := k) h0 hk hp
  have hat := less_at (d := d) (lt := lt) (l := l) (n := n) (i := i)
  obtain ⟨j, hj⟩ : ∃ j, j = lessC d lt l n i := ⟨_, rfl⟩
  rw [← hj] at hlt hmin hat ⊢
  have hjn : j < n := by omega
  have hpj : (j - 1) / 2 = i := by omega
  have g := fun k => swapL_get (d := d) (l := l) (i := i) (j := j) (by omega) (by omega) k
  have gi : (swapL d l i j).getD i d = l.getD j d := by rw [g, if_neg (by omega), if_pos rfl]
  have gj : (swapL d l i j).getD j d = l.getD i d := by rw [g, if_pos rfl]
  have go : ∀ k, k ≠ i → k ≠ j → (swapL d l i j).getD k d = l.getD k d := fun k h1 h2 => by rw [g, if_neg h2, if_neg h1]
  have hasym := H.asym _ _ hlt
  refine ⟨hjn, by omega, ?_, ?_⟩
  · intro k h0 hk hp
    by_cases hki : k = i
    · subst hki
      rw [gi, go ((k - 1) / 2) (by omega) (by omega)]
      exact h.2 j (by omega) hjn hpj h0
    · by_cases hkj : k = j
      · subst hkj; rw [gj, hpj, gi]; exact hasym
      · rw [go k hki hkj]
        by_cases p2 : (k - 1) / 2 = i
        · rw [p2, gi]; exact hmin k h0 hk p2
        · rw [go _ p2 hp]; exact h.1 k h0 hk p2
  · intro k h0 hk hp _
    rw [hpj, gi, go k (by omega) (by omega)]
    have h1 := h.1 k h0 hk (by omega)
    rw [hp] at h1
    exact h1
theorem down_heap (H : LtL lt) : ∀ (f : Nat) {l : List α} {n i : Nat}, n ≤ f + i → n ≤ l.length → DownI d lt l n i → HeapL d lt (downL d lt (f + 1) l i n) n ∧ (downL d lt (f + 1) l i n).Perm l ∧ ∀ k, n ≤ k → (downL d lt (f + 1) l i n).getD k d = l.getD k d
  | 0, l, n, i, hf, hn, h => by
    have hs : n ≤ 2 * i + 1 ∨ lt (l.getD (lessC d lt l n i) d) (l.getD i d) = false := .inl (by omega)
    unfold downL
    rw [if_pos hs]
    exact ⟨down_stop H h hs, List.Perm.refl _, fun _ _ => rfl⟩
  | f + 1, l, n, i, hf, hn, h => by
    unfold downL
    by_cases hs : n ≤ 2 * i + 1 ∨ lt (l.getD (lessC d lt l n i) d) (l.getD i d) = false
    · rw [if_pos hs]; exact ⟨down_stop H h hs, List.Perm.refl _, fun _ _ => rfl⟩
    · rw [if_neg hs]
      obtain ⟨a1, a2, a3⟩ := down_step H hn h hs
      have hat := less_at (d := d) (lt := lt) (l := l) (n := n) (i := i)
      obtain ⟨h1, h2, h3⟩ := down_heap H f (l := swapL d l i (lessC d lt l n i)) (n := n) (i := lessC d lt l n i) (by omega) (by rw [swapL_len]; exact hn) a3
      refine ⟨h1, h2.trans (swapL_perm (by omega) (by omega)), fun k hk => ?_⟩
      rw [h3 k hk, swapL_get (by omega) (by omega), if_neg (by omega), if_neg (by omega)]
/-- The first of a heap goes to its end: all others are as before, but for the first. -/
theorem down_new (H : LtL lt) {l : List α} {n : Nat} (h : HeapL d lt l (n + 1)) (hl : n + 1 ≤ l.length) : DownI d lt (swapL d l 0 n) n 0 := by
  constructor
  · intro k h0 hk hp
    rw [swapL_get (by omega) (by omega), if_neg (by omega), if_neg (by omega), swapL_get (by omega) (by omega), if_neg (by omega), if_neg (by omega)]
    exact h k h0 (by omega)
  · intro k _ _ _ h0
    omega
end
end Go.Proofs.Ytebbbiikphfjcaa
