/-
  Comments and spaces in front of a text and after it change nothing but offsets.
-/
import Derived.Test.YtnhfcggecmncmaaDoorLexP
namespace Go.Proofs.YtnhfcggecmncmaaDoor
set_option linter.unusedVariables false

theorem tw_stop {p : UInt8 → Bool} : ∀ {a b : List UInt8}, (∀ c ∈ b.head?, p c = false) → (a ++ b).takeWhile p = a.takeWhile p
  | [], [], _ => rfl
  | [], d :: b, h => by rw [List.nil_append, List.takeWhile_cons, if_neg (by rw [h d rfl]; simp)]; rfl
  | x :: a, b, h => by
    rw [List.cons_append, List.takeWhile_cons, List.takeWhile_cons, tw_stop h]
theorem tkA_spaces : ∀ (bl x : List UInt8) (i : Nat), (∀ c ∈ bl, spB c = true) → tkA i (bl ++ x) = tkA (i + bl.length) x
  | [], x, i, _ => rfl
  | c :: bl, x, i, h => by
    rw [List.cons_append, tkA_space i c _ (h c (List.mem_cons_self)), tkA_spaces bl x (i + 1) (fun y hy => h y (List.mem_cons_of_mem _ hy)), List.length_cons]
    congr 1
    omega
theorem ln_all {c : List UInt8} (hc : ∀ x ∈ c, x ≠ 10) : ∀ x ∈ 47 :: 47 :: c, lnB x = true := by
  intro x hx
  rcases List.mem_cons.1 hx with rfl | hx
  · decide
  · rcases List.mem_cons.1 hx with rfl | hx
    · decide
    · have := hc x hx
      unfold lnB
      simpa using this
theorem tkA_line (i : Nat) (c x : List UInt8) (hc : ∀ y ∈ c, y ≠ 10) : tkA i (47 :: 47 :: (c ++ 10 :: x)) = tkA (i + (2 + c.length + 1)) x := by
  have e : (47 :: 47 :: (c ++ 10 :: x)).takeWhile lnB = 47 :: 47 :: c := by
    have := tw_app (p := lnB) (a := 47 :: 47 :: c) (b := 10 :: x) (fun y hy => by obtain rfl := Option.some.inj hy; decide) (ln_all hc)
    simpa using this
  rw [tkA_comment i _ rfl, e]
  have e2 : (47 :: 47 :: (c ++ 10 :: x)).drop (47 :: 47 :: c).length = 10 :: x := by
    have : 47 :: 47 :: (c ++ 10 :: x) = (47 :: 47 :: c) ++ (10 :: x) := by simp
    rw [this, List.drop_left]
  rw [e2, tkA_space _ 10 x (by decide)]
  congr 1
  simp only [List.length_cons]
  omega
theorem tkA_front (i : Nat) (bl c x : List UInt8) (hb : ∀ y ∈ bl, spB y = true) (hc : ∀ y ∈ c, y ≠ 10) : tkA i (bl ++ 47 :: 47 :: (c ++ 10 :: x)) = tkA (i + (bl.length + (2 + c.length + 1))) x := by
  rw [tkA_spaces bl _ i hb, tkA_line _ c x hc]
  congr 1
  omega
theorem tkA_blank (i : Nat) (bl : List UInt8) (hb : ∀ y ∈ bl, spB y = true) : tkA i bl = ([mkT 3 [] (i + bl.length)], 0, 0) := by
  have := tkA_spaces bl [] i hb
  rw [List.append_nil] at this
  rw [this, tkA_nil]
theorem tkA_back (i : Nat) (bl c : List UInt8) (hb : ∀ y ∈ bl, spB y = true) (hc : ∀ y ∈ c, y ≠ 10) : ∃ e : Nat, tkA i (10 :: 47 :: 47 :: (c ++ bl)) = ([mkT 3 [] e], 0, 0) := by
  have e : (47 :: 47 :: (c ++ bl)).takeWhile lnB = 47 :: 47 :: (c ++ bl.takeWhile lnB) := by
    have h1 : 47 :: 47 :: (c ++ bl) = (47 :: 47 :: (c ++ bl.takeWhile lnB)) ++ bl.dropWhile lnB := by simp [List.takeWhile_append_dropWhile]
    conv => lhs; rw [h1]
    refine tw_app (fun y hy => ?_) (ln_all (fun y hy => ?_))
    · have := List.head?_dropWhile_not lnB bl
      rw [Option.mem_def] at hy
      rw [hy] at this
      simpa using this
    · rcases List.mem_append.1 hy with hy | hy
      · exact hc y hy
      · have := List.all_eq_true.1 List.all_takeWhile y hy
        unfold lnB at this
        simpa using this
  have e2 : (47 :: 47 :: (c ++ bl)).drop (47 :: 47 :: (c ++ bl.takeWhile lnB)).length = bl.drop (bl.takeWhile lnB).length := by
    have h1 : 47 :: 47 :: (c ++ bl) = (47 :: 47 :: c) ++ bl := by simp
    have h2 : (47 :: 47 :: (c ++ bl.takeWhile lnB)).length = (47 :: 47 :: c).length + (bl.takeWhile lnB).length := by simp; omega
    rw [h1, h2, ← List.drop_drop, List.drop_left]
  rw [tkA_space _ 10 _ (by decide), tkA_comment _ _ rfl, e, e2, tkA_blank _ _ (fun y hy => hb y (List.mem_of_mem_drop hy))]
  exact ⟨_, rfl⟩
/-- The same but for the offsets. -/
def Rel (i j : Nat) (A B : Toks) : Prop := A.2.1 = B.2.1 ∧ (B.2.1 = 0 → A.1.map kt = B.1.map kt) ∧ (B.2.1 ≠ 0 → A.2.2 + j = B.2.2 + i)
theorem Rel.cons {i j k m : Nat} {t : List UInt8} {A B : Toks} (h : Rel (i + m) (j + m) A B) : Rel i j (consT (mkT k t i) A) (consT (mkT k t j) B) := by
  obtain ⟨h1, h2, h3⟩ := h
  unfold consT
  by_cases hc : B.2.1 = 0
  · rw [if_pos hc, if_pos (h1.trans hc)]
    exact ⟨rfl, fun _ => by rw [List.map_cons, List.map_cons, h2 hc]; rfl, fun h => absurd rfl h⟩
  · rw [if_neg hc, if_neg (by rw [h1]; exact hc)]
    exact ⟨h1, fun h => absurd h hc, fun _ => by have := h3 hc; show A.2.2 + j = B.2.2 + i; omega⟩
theorem Rel.err (i j c : Nat) (hc : c ≠ 0) : Rel i j ([], c, i) ([], c, j) := ⟨rfl, fun h => absurd h hc, fun _ => Nat.add_comm i j⟩
theorem Rel.later {i j m : Nat} {A B : Toks} (h : Rel (i + m) (j + m) A B) : Rel i j A B := ⟨h.1, h.2.1, fun hc => by have := h.2.2 hc; omega⟩
theorem head_app {r suf : List UInt8} {x : UInt8} (h : r.head? = some x) : (r ++ suf).head? = some x := by
  cases r with
  | nil => cases h
  | cons y r => exact h
theorem head_not {r suf : List UInt8} {x : UInt8} (hx : x ≠ 10) (h : ¬ r.head? = some x) : ¬ (r ++ 10 :: suf).head? = some x := by
  cases r with
  | nil => intro e; exact hx (Option.some.inj e).symm
  | cons y r => exact h
theorem tkA_rel (suf : List UInt8) (hF : ∀ i, ∃ e : Nat, tkA i (10 :: suf) = ([mkT 3 [] e], 0, 0)) : ∀ (n : Nat) (l : List UInt8), l.length ≤ n → ∀ i j, Rel i j (tkA i (l ++ 10 :: suf)) (tkA j l)
  | n, [], _, i, j => by
    obtain ⟨e, he⟩ := hF i
    rw [List.nil_append, he, tkA_nil]
    exact ⟨rfl, fun _ => rfl, fun h => absurd rfl h⟩
  | 0, c :: r, h, _, _ => by simp at h
  | n + 1, c :: r, h, i, j => by
    simp only [List.length_cons] at h
    by_cases hw : wdB c = true
    · have e : (c :: (r ++ 10 :: suf)).takeWhile wdB = (c :: r).takeWhile wdB := tw_stop (a := c :: r) (b := 10 :: suf) (fun y hy => by obtain rfl := Option.some.inj hy; decide)
      have h1 := wd_len c r hw
      have h2 := tw_le wdB (c :: r)
      rw [List.cons_append, tkA_word i c _ hw, tkA_word j c r hw, e]
      by_cases ho : okW ((c :: r).takeWhile wdB) = true
      · rw [if_pos ho, if_pos ho]
        refine Rel.cons (m := ((c :: r).takeWhile wdB).length) ?_
        have e2 : (c :: (r ++ 10 :: suf)).drop ((c :: r).takeWhile wdB).length = (c :: r).drop ((c :: r).takeWhile wdB).length ++ 10 :: suf := by
          rw [← List.cons_append, List.drop_append_of_le_length h2]
        rw [e2]
        exact tkA_rel suf hF n _ (by rw [List.length_drop, List.length_cons]; omega) _ _
      · rw [if_neg ho, if_neg ho]
        exact Rel.err i j 5 (by decide)
    · by_cases hs : spB c = true
      · rw [List.cons_append, tkA_space i c _ hs, tkA_space j c r hs]
        exact (tkA_rel suf hF n r (by omega) (i + 1) (j + 1)).later (m := 1)
      · by_cases hc : c = 47 ∧ r.head? = some 47
        · obtain ⟨rfl, hr⟩ := hc
          have e : (47 :: (r ++ 10 :: suf)).takeWhile lnB = (47 :: r).takeWhile lnB := tw_stop (a := 47 :: r) (b := 10 :: suf) (fun y hy => by obtain rfl := Option.some.inj hy; decide)
          have h1 := ln_len 47 r rfl
          have h2 := tw_le lnB (47 :: r)
          have e2 : (47 :: (r ++ 10 :: suf)).drop ((47 :: r).takeWhile lnB).length = (47 :: r).drop ((47 :: r).takeWhile lnB).length ++ 10 :: suf := by
            rw [← List.cons_append, List.drop_append_of_le_length h2]
          rw [List.cons_append, tkA_comment i _ (head_app hr), tkA_comment j r hr, e, e2]
          exact (tkA_rel suf hF n _ (by rw [List.length_drop, List.length_cons]; omega) _ _).later (m := ((47 :: r).takeWhile lnB).length)
        · by_cases ha : c = 45 ∧ r.head? = some 62
          · obtain ⟨rfl, hr⟩ := ha
            cases r with
            | nil => cases hr
            | cons y r =>
              obtain rfl : y = 62 := Option.some.inj hr
              rw [List.cons_append, List.cons_append, tkA_arrow, tkA_arrow]
              refine Rel.cons (m := 2) ?_
              exact tkA_rel suf hF n r (by simp at h; omega) _ _
          · have hw' : wdB c = false := by simpa using hw
            have hs' : spB c = false := by simpa using hs
            have hc' : ¬ (c = 47 ∧ (r ++ 10 :: suf).head? = some 47) := fun h => head_not (by decide) (fun h2 => hc ⟨h.1, h2⟩) h.2
            have ha' : ¬ (c = 45 ∧ (r ++ 10 :: suf).head? = some 62) := fun h => head_not (by decide) (fun h2 => ha ⟨h.1, h2⟩) h.2
            rw [List.cons_append, tkA_sign i c _ hw' hs' hc' ha', tkA_sign j c r hw' hs' hc ha]
            by_cases hg : sgB c = true
            · rw [if_pos hg, if_pos hg]
              exact Rel.cons (m := 1) (tkA_rel suf hF n r (by omega) _ _)
            · rw [if_neg hg, if_neg hg]
              exact Rel.err i j 6 (by decide)
def frontL (bl c : List UInt8) : List UInt8 := bl ++ 47 :: 47 :: (c ++ [10])
theorem frontL_len (bl c : List UInt8) : (frontL bl c).length = bl.length + (2 + c.length + 1) := by unfold frontL; simp; omega
def fullL (bl c l : List UInt8) : List UInt8 := frontL bl c ++ (l ++ 10 :: 47 :: 47 :: (c ++ bl))
theorem commented (bl c l : List UInt8) (hb : ∀ y ∈ bl, spB y = true) (hc : ∀ y ∈ c, y ≠ 10) :
    (tokS (fullL bl c l)).2.1 = (tokS l).2.1 ∧ ((tokS l).2.1 = 0 → sameT (tokS (fullL bl c l)).1 (tokS l).1 = true) ∧ ((tokS l).2.1 ≠ 0 → (tokS (fullL bl c l)).2.2 = (tokS l).2.2 + (frontL bl c).length) := by
  have e : tokS (fullL bl c l) = tkA (frontL bl c).length (l ++ 10 :: 47 :: 47 :: (c ++ bl)) := by
    rw [tokS_tkA, frontL_len]
    have h : fullL bl c l = bl ++ 47 :: 47 :: (c ++ 10 :: (l ++ 10 :: 47 :: 47 :: (c ++ bl))) := by unfold fullL frontL; simp
    rw [h, tkA_front 0 bl c _ hb hc, Nat.zero_add]
  obtain ⟨h1, h2, h3⟩ := tkA_rel (47 :: 47 :: (c ++ bl)) (fun i => tkA_back i bl c hb hc) l.length l (Nat.le_refl _) (frontL bl c).length 0
  rw [e, tokS_tkA l]
  exact ⟨h1, fun h => decide_eq_true (h2 h), fun h => by have := h3 h; omega⟩
end Go.Proofs.YtnhfcggecmncmaaDoor
