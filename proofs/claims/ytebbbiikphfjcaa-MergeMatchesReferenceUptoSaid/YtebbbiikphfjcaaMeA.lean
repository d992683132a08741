/-
  Sets of tuples as sorted lists: differences, ranges, folds; no program is spoken of.
-/
import Derived.Test.YtebbbiikphfjcaaTuD
namespace Go.Proofs.Ytebbbiikphfjcaa
open Go.ChangeShapes Go.WideShapes Go.ChangeAt Go.RowKit
set_option linter.unusedVariables false

def hasT (l : List Tu) (t : Tu) : Bool := l.any fun x => eqT x t
theorem hasT_iff (l : List Tu) (t : Tu) : hasT l t = true ↔ t ∈ l := by
  unfold hasT
  rw [List.any_eq_true]
  constructor
  · rintro ⟨x, hx, h⟩; rw [eqT_iff] at h; subst h; exact hx
  · intro h; exact ⟨t, h, (eqT_iff t t).2 rfl⟩
def minusT (a b : List Tu) : List Tu := a.filter fun x => !hasT b x
theorem minusT_mem (a b : List Tu) (x : Tu) : x ∈ minusT a b ↔ x ∈ a ∧ x ∉ b := by
  unfold minusT
  rw [List.mem_filter, Bool.not_eq_true', ← hasT_iff b x, Bool.not_eq_true]
theorem minusT_ris {a : List Tu} (h : Ris a) (b : List Tu) : Ris (minusT a b) := List.Pairwise.sublist List.filter_sublist h
theorem minusT_nil (a : List Tu) : minusT a [] = a := by unfold minusT; exact List.filter_eq_self.2 fun x _ => rfl
theorem minusT_self (a : List Tu) : minusT a a = [] := by
  unfold minusT
  rw [List.filter_eq_nil_iff]
  intro x hx
  rw [(hasT_iff a x).2 hx]; simp
theorem minusT_snoc (a b : List Tu) (t : Tu) : minusT (a ++ [t]) b = minusT a b ++ (if hasT b t = true then [] else [t]) := by
  unfold minusT
  rw [List.filter_append]
  congr 1
  by_cases h : hasT b t = true
  · rw [if_pos h]; simp [h]
  · rw [if_neg h]; simp [h]
/-! ### the walk along both lists -/
def dropLt (t : Tu) : List Tu → List Tu
  | [] => []
  | y :: r => if ordT y t < 0 then dropLt t r else y :: r
theorem dropLt_lt {t y : Tu} {r : List Tu} (h : ordT y t < 0) : dropLt t (y :: r) = dropLt t r := by rw [dropLt, if_pos h]
theorem dropLt_ge {t y : Tu} {r : List Tu} (h : ¬ ordT y t < 0) : dropLt t (y :: r) = y :: r := by rw [dropLt, if_neg h]
theorem dropLt_mem (t : Tu) : ∀ (b : List Tu), Ris b → ∀ x, x ∈ dropLt t b ↔ x ∈ b ∧ ¬ ordT x t < 0
  | [], _, x => by simp [dropLt]
  | y :: r, h, x => by
    have hr := (List.pairwise_cons.1 h).2
    by_cases hy : ordT y t < 0
    · rw [dropLt_lt hy, dropLt_mem t r hr x, List.mem_cons]
      constructor
      · rintro ⟨h1, h2⟩; exact ⟨.inr h1, h2⟩
      · rintro ⟨rfl | h1, h2⟩
        · exact absurd hy h2
        · exact ⟨h1, h2⟩
    · rw [dropLt_ge hy]
      constructor
      · intro hx
        refine ⟨hx, ?_⟩
        rcases List.mem_cons.1 hx with rfl | hx
        · exact hy
        · intro hlt
          exact hy (ordT_up ((List.pairwise_cons.1 h).1 x hx) hlt)
      · exact fun h => h.1
theorem dropLt_ris (t : Tu) : ∀ {b : List Tu}, Ris b → Ris (dropLt t b)
  | [], h => h
  | y :: r, h => by
    by_cases hy : ordT y t < 0
    · rw [dropLt_lt hy]; exact dropLt_ris t (List.pairwise_cons.1 h).2
    · rw [dropLt_ge hy]; exact h
theorem dropLt_len (t : Tu) : ∀ (b : List Tu), (dropLt t b).length ≤ b.length
  | [] => Nat.le_refl _
  | y :: r => by
    rw [dropLt]
    split
    · have := dropLt_len t r; simp only [List.length_cons]; omega
    · exact Nat.le_refl _
/-- What is left is a tail of the list. -/
theorem dropLt_tail (t : Tu) : ∀ (b : List Tu), ∃ k, k ≤ b.length ∧ dropLt t b = b.drop k
  | [] => ⟨0, Nat.le_refl _, rfl⟩
  | y :: r => by
    by_cases hy : ordT y t < 0
    · obtain ⟨k, hk, h⟩ := dropLt_tail t r
      exact ⟨k + 1, by simp; omega, by rw [dropLt_lt hy, h]; rfl⟩
    · exact ⟨0, Nat.zero_le _, by rw [dropLt_ge hy]; rfl⟩
def heads (b : List Tu) (t : Tu) : Bool := match b with
  | [] => false
  | y :: _ => eqT y t
def minG : List Tu → List Tu → List Tu
  | [], _ => []
  | t :: a, b => (if heads (dropLt t b) t = true then [] else [t]) ++ minG a (dropLt t b)
theorem heads_has {t : Tu} {b : List Tu} (h : Ris b) : heads (dropLt t b) t = hasT b t := by
  have hm := dropLt_mem t b h
  cases hd : dropLt t b with
  | nil =>
    rw [hd] at hm
    refine (Bool.eq_false_iff.2 fun hh => ?_).symm
    have := (hm t).2 ⟨(hasT_iff b t).1 hh, by rw [ordT_self]; decide⟩
    cases this
  | cons y r =>
    rw [hd] at hm
    show eqT y t = _
    by_cases he : y = t
    · subst he
      rw [(eqT_iff y y).2 rfl, (hasT_iff b y).2 ((hm y).1 (List.mem_cons_self)).1]
    · have h1 : eqT y t = false := Bool.eq_false_iff.2 fun hh => he ((eqT_iff y t).1 hh)
      rw [h1]
      refine (Bool.eq_false_iff.2 fun hh => ?_).symm
      have ht := (hm t).2 ⟨(hasT_iff b t).1 hh, by rw [ordT_self]; decide⟩
      have hr : Ris (y :: r) := hd ▸ dropLt_ris t h
      rcases List.mem_cons.1 ht with ht | ht
      · exact he ht.symm
      · exact ((hm y).1 List.mem_cons_self).2 ((List.pairwise_cons.1 hr).1 t ht)
theorem minG_eq : ∀ (a b : List Tu), Ris a → Ris b → minG a b = minusT a b
  | [], b, _, _ => rfl
  | t :: a, b, ha, hb => by
    have ha2 := (List.pairwise_cons.1 ha).2
    rw [minG, minG_eq a _ ha2 (dropLt_ris t hb), heads_has hb]
    have e : minusT a (dropLt t b) = minusT a b := by
      unfold minusT
      refine List.filter_congr fun x hx => ?_
      have hlt := (List.pairwise_cons.1 ha).1 x hx
      congr 1
      rw [Bool.eq_iff_iff, hasT_iff, hasT_iff, dropLt_mem t b hb]
      constructor
      · exact fun h => h.1
      · refine fun h => ⟨h, fun h2 => ?_⟩
        have := ordT_up hlt h2
        rw [ordT_self] at this
        exact absurd this (by decide)
    rw [e]
    unfold minusT
    rw [List.filter_cons]
    by_cases h : hasT b t = true
    · simp [h]
    · simp [h]
/-! ### unions -/
def unionT (ls : List (List Tu)) : List Tu := sortedT ls.flatten
theorem unionT_ris (ls : List (List Tu)) : Ris (unionT ls) := sorted_ris _
theorem unionT_mem (ls : List (List Tu)) (x : Tu) : x ∈ unionT ls ↔ ∃ l ∈ ls, x ∈ l := by
  unfold unionT; rw [sorted_mem, List.mem_flatten]
theorem unionT_ext {ls : List (List Tu)} {m : List Tu} (h : ∀ x, (∃ l ∈ ls, x ∈ l) ↔ x ∈ m) : unionT ls = sortedT m :=
  ris_ext (sorted_ris _) (sorted_ris _) fun x => by rw [sorted_mem, ← h x]; exact unionT_mem ls x
theorem unionT_two (a b : List Tu) (x : Tu) : x ∈ unionT [a, b] ↔ x ∈ a ∨ x ∈ b := by
  rw [unionT_mem]
  simp
theorem union_minus (a b : List Tu) : unionT [minusT a b, b] = unionT [a, b] :=
  ris_ext (unionT_ris _) (unionT_ris _) fun x => by
    rw [unionT_two, unionT_two, minusT_mem]
    by_cases h : x ∈ b
    · simp [h]
    · simp [h]
theorem union_app (x y : List Tu) : unionT [sortedT x, sortedT y] = sortedT (x ++ y) :=
  ris_ext (unionT_ris _) (sorted_ris _) fun t => by rw [unionT_two, sorted_mem, sorted_mem, sorted_mem, List.mem_append]
/-! ### folds -/
/-- A change: whether it deletes, and its tuple. -/
abbrev Cg := Bool × Tu
/-- What the last change of a tuple says. -/
def lastC (x : Tu) : List Cg → Option Bool
  | [] => none
  | c :: r => match lastC x r with
    | some d => some d
    | none => if eqT c.2 x = true then some c.1 else none
def step1 (out : List Tu) (c : Cg) : List Tu := if c.1 = true then minusT out [c.2] else put1 c.2 out
def foldC (l : List Tu) (c : List Cg) : List Tu := c.foldl step1 l
theorem step1_ris {out : List Tu} (h : Ris out) (c : Cg) : Ris (step1 out c) := by
  unfold step1
  split
  · exact minusT_ris h _
  · exact put1_ris _ _ h
theorem step1_mem (out : List Tu) (c : Cg) (x : Tu) : x ∈ step1 out c ↔ (x = c.2 ∧ c.1 = false ∨ ¬ x = c.2 ∧ x ∈ out) := by
  unfold step1
  split
  · rename_i h
    rw [minusT_mem, List.mem_singleton]
    by_cases hx : x = c.2
    · simp [hx, h]
    · simp [hx]
  · rename_i h
    rw [put1_mem]
    by_cases hx : x = c.2
    · simp [hx, h]
    · simp [hx]
theorem foldC_ris : ∀ (c : List Cg) {l : List Tu}, Ris l → Ris (foldC l c)
  | [], l, h => h
  | c :: r, l, h => foldC_ris r (step1_ris h c)
theorem foldC_mem : ∀ (c : List Cg) (l : List Tu) (x : Tu), x ∈ foldC l c ↔ (lastC x c = some false ∨ (lastC x c = none ∧ x ∈ l))
  | [], l, x => by simp [foldC, lastC]
  | c :: r, l, x => by
    show x ∈ foldC (step1 l c) r ↔ _
    rw [foldC_mem r (step1 l c) x, step1_mem, lastC]
    cases h : lastC x r with
    | some d => simp
    | none =>
      by_cases hx : x = c.2
      · have he : eqT c.2 x = true := (eqT_iff _ _).2 hx.symm
        simp [hx, eqT_iff]
      · have he : ¬ eqT c.2 x = true := fun hh => hx ((eqT_iff _ _).1 hh).symm
        simp [hx, he]
theorem lastC_snoc (x : Tu) : ∀ (c : List Cg) (d : Cg), lastC x (c ++ [d]) = if eqT d.2 x = true then some d.1 else lastC x c
  | [], d => by simp [lastC]
  | a :: r, d => by
    rw [List.cons_append, lastC, lastC_snoc x r d, lastC]
    by_cases h : eqT d.2 x = true
    · rw [if_pos h, if_pos h]
    · rw [if_neg h, if_neg h]
/-- What Fold makes of its map, in whatever order its two lists are. -/
theorem fold_eq {l : List Tu} (hl : Ris l) (c : List Cg) {del tou : List Tu} (hd : ∀ x, x ∈ del ↔ lastC x c = some true) (ht : ∀ x, x ∈ tou ↔ lastC x c = some false) :
    unionT [minusT l (sortedT del), sortedT tou] = foldC l c :=
  ris_ext (unionT_ris _) (foldC_ris c hl) fun x => by
    rw [unionT_two, minusT_mem, sorted_mem, sorted_mem, foldC_mem, hd, ht]
    cases h : lastC x c with
    | none => simp
    | some d => cases d <;> simp
/-- The changes of a difference. -/
def diffC (a b : List Tu) : List Cg := (minusT b a).map (fun t => (false, t)) ++ (minusT a b).map fun t => (true, t)
theorem lastC_map (d : Bool) (x : Tu) : ∀ (l : List Tu), lastC x (l.map fun t => (d, t)) = if hasT l x = true then some d else none
  | [] => by simp [lastC, hasT]
  | t :: r => by
    rw [List.map_cons, lastC, lastC_map d x r]
    have e : hasT (t :: r) x = (eqT t x || hasT r x) := by simp [hasT]
    rw [e]
    cases h1 : hasT r x <;> cases h2 : eqT t x <;> simp
theorem lastC_app (x : Tu) : ∀ (c e : List Cg), lastC x (c ++ e) = match lastC x e with
    | some d => some d
    | none => lastC x c
  | [], e => by rw [List.nil_append]; cases h : lastC x e <;> simp [lastC]
  | a :: r, e => by
    rw [List.cons_append, lastC, lastC_app x r e]
    cases h : lastC x e with
    | some d => simp
    | none => simp [lastC]
theorem diff_last (a b : List Tu) (x : Tu) : (lastC x (diffC a b) = some false ↔ x ∈ b ∧ x ∉ a) ∧ (lastC x (diffC a b) = none ↔ ¬ (x ∈ a ∧ x ∉ b) ∧ ¬ (x ∈ b ∧ x ∉ a)) := by
  unfold diffC
  rw [lastC_app, lastC_map, lastC_map]
  by_cases h1 : x ∈ a ∧ x ∉ b
  · rw [if_pos ((hasT_iff _ _).2 ((minusT_mem a b x).2 h1))]
    simp [h1]
  · rw [if_neg (fun h => h1 ((minusT_mem a b x).1 ((hasT_iff _ _).1 h)))]
    simp only []
    by_cases h2 : x ∈ b ∧ x ∉ a
    · rw [if_pos ((hasT_iff _ _).2 ((minusT_mem b a x).2 h2))]
      simp [h2]
    · rw [if_neg (fun h => h2 ((minusT_mem b a x).1 ((hasT_iff _ _).1 h)))]
      exact ⟨⟨fun h => (by cases h), fun h => absurd h h2⟩, ⟨fun _ => ⟨h1, h2⟩, fun _ => rfl⟩⟩
theorem fold_back {a b f : List Tu} (hf : Ris f) (hb : Ris b) (h : ∀ x, x ∈ f → x ∈ a ∨ x ∈ b) (h2 : ∀ x, x ∈ a → x ∈ b → x ∈ f) : foldC f (diffC a b) = b :=
  ris_ext (foldC_ris _ hf) hb fun x => by
    rw [foldC_mem, (diff_last a b x).1, (diff_last a b x).2]
    by_cases ha : x ∈ a <;> by_cases hb : x ∈ b
    · simp [ha, hb, h2 x ha hb]
    · simp [ha, hb]
    · simp [ha, hb]
    · have : x ∉ f := fun hx => (h x hx).elim ha hb
      simp [ha, hb, this]
/-! ### ranges -/
def objT (t : Tu) : ByteArray × ByteArray := (t.ot, t.oi)
def ordO (a b : ByteArray × ByteArray) : Int := ordL [a.1, a.2] [b.1, b.2]
def rangeT (l : List Tu) (o : ByteArray × ByteArray) : List Tu := l.filter fun t => decide (ordO (objT t) o = 0)
theorem ordO_eq {a b : ByteArray × ByteArray} (h : ordO a b = 0) : a = b := by
  obtain ⟨a1, a2⟩ := a
  obtain ⟨b1, b2⟩ := b
  have := ordL_eq [a1, a2] [b1, b2] rfl h
  cases this; rfl
end Go.Proofs.Ytebbbiikphfjcaa
