/-
  The order of tuples; sorted lists of tuples, each one once; no program is spoken of.
-/
import Derived.Test.YtebbbiikphfjcaaTuA
import Derived.Test.YtebbbiikphfjcaaOrd
namespace Go.Proofs.Ytebbbiikphfjcaa
open Go.RowKit
set_option linter.unusedVariables false

def Tu.l (t : Tu) : List ByteArray := [t.ot, t.oi, t.re, t.st, t.si, t.us]
theorem Tu.l_inj {a b : Tu} (h : a.l = b.l) : a = b := by
  cases a; cases b
  simp only [Tu.l, List.cons.injEq, and_true] at h
  simp [h]
def ordL : List ByteArray → List ByteArray → Int
  | a :: xs, b :: ys => if ord a b = 0 then ordL xs ys else ord a b
  | _, _ => 0
def ordT (a b : Tu) : Int := ordL a.l b.l
theorem ordL_three : ∀ (a b : List ByteArray), ordL a b = -1 ∨ ordL a b = 0 ∨ ordL a b = 1
  | [], _ => .inr (.inl (by unfold ordL; rfl))
  | _ :: _, [] => .inr (.inl (by unfold ordL; rfl))
  | a :: xs, b :: ys => by
    unfold ordL
    split
    · exact ordL_three xs ys
    · exact ord_three a b
theorem ordL_self : ∀ (a : List ByteArray), ordL a a = 0
  | [] => by unfold ordL; rfl
  | a :: xs => by unfold ordL; rw [if_pos (ord_self a)]; exact ordL_self xs
theorem ordL_flip : ∀ (a b : List ByteArray), ordL b a = - ordL a b
  | [], [] => by unfold ordL; rfl
  | [], _ :: _ => by unfold ordL; rfl
  | _ :: _, [] => by unfold ordL; rfl
  | a :: xs, b :: ys => by
    unfold ordL
    have h := ord_flip a b
    by_cases hz : ord a b = 0
    · rw [if_pos hz, if_pos (by omega)]; exact ordL_flip xs ys
    · rw [if_neg hz, if_neg (by omega)]; exact h
theorem ordL_eq : ∀ (a b : List ByteArray), a.length = b.length → ordL a b = 0 → a = b
  | [], [], _, _ => rfl
  | [], _ :: _, h, _ => by simp at h
  | _ :: _, [], h, _ => by simp at h
  | a :: xs, b :: ys, h, h2 => by
    unfold ordL at h2
    split at h2
    · rename_i hz
      rw [ord_eq hz, ordL_eq xs ys (by simpa using h) h2]
    · rename_i hz; exact absurd h2 hz
theorem ordL_up : ∀ (a b c : List ByteArray), a.length = b.length → b.length = c.length → ordL a b < 0 → ordL b c < 0 → ordL a c < 0
  | [], [], _, _, _, h, _ => by unfold ordL at h; omega
  | [], _ :: _, _, h, _, _, _ => by simp at h
  | _ :: _, [], _, h, _, _, _ => by simp at h
  | _ :: _, _ :: _, [], _, h, _, _ => by simp at h
  | a :: xs, b :: ys, c :: zs, hl1, hl2, h1, h2 => by
    unfold ordL at h1 h2 ⊢
    by_cases x : ord a b = 0
    · rw [if_pos x] at h1
      obtain rfl := ord_eq x
      by_cases y : ord a c = 0
      · rw [if_pos y] at h2 ⊢
        exact ordL_up xs ys zs (by simpa using hl1) (by simpa using hl2) h1 h2
      · rw [if_neg y] at h2 ⊢; exact h2
    · rw [if_neg x] at h1
      by_cases y : ord b c = 0
      · obtain rfl := ord_eq y
        rw [if_neg x]; exact h1
      · rw [if_neg y] at h2
        have := ord_up h1 h2
        rw [if_neg (by omega)]; exact this
theorem ordT_three (a b : Tu) : ordT a b = -1 ∨ ordT a b = 0 ∨ ordT a b = 1 := ordL_three _ _
theorem ordT_self (a : Tu) : ordT a a = 0 := ordL_self _
theorem ordT_flip (a b : Tu) : ordT b a = - ordT a b := ordL_flip _ _
theorem ordT_eq {a b : Tu} (h : ordT a b = 0) : a = b := Tu.l_inj (ordL_eq _ _ rfl h)
theorem ordT_zero (a b : Tu) : ordT a b = 0 ↔ a = b := ⟨ordT_eq, fun h => by subst h; exact ordT_self a⟩
theorem ordT_up {a b c : Tu} (h1 : ordT a b < 0) (h2 : ordT b c < 0) : ordT a c < 0 := ordL_up a.l b.l c.l rfl rfl h1 h2
theorem ordT_le {a b c : Tu} (h1 : ¬ 0 < ordT a b) (h2 : ¬ 0 < ordT b c) : ¬ 0 < ordT a c := by
  by_cases x : ordT a b = 0
  · obtain rfl := ordT_eq x; exact h2
  · by_cases y : ordT b c = 0
    · obtain rfl := ordT_eq y; exact h1
    · have := ordT_up (a := a) (b := b) (c := c) (by omega) (by omega)
      omega
/-- A list whose tuples rise. -/
def Ris (l : List Tu) : Prop := l.Pairwise fun a b => ordT a b < 0
/-- A tuple is put in its place, unless it is there. -/
def put1 (t : Tu) : List Tu → List Tu
  | [] => [t]
  | a :: l => if ordT a t < 0 then a :: put1 t l else if ordT a t = 0 then a :: l else t :: a :: l
theorem put1_mem (t : Tu) : ∀ (l : List Tu) (x : Tu), x ∈ put1 t l ↔ x = t ∨ x ∈ l
  | [], x => by simp [put1]
  | a :: l, x => by
    unfold put1
    split
    · rw [List.mem_cons, put1_mem t l x, List.mem_cons]
      constructor
      · rintro (h | h | h)
        · exact .inr (.inl h)
        · exact .inl h
        · exact .inr (.inr h)
      · rintro (h | h | h)
        · exact .inr (.inl h)
        · exact .inl h
        · exact .inr (.inr h)
    · split
      · rename_i h
        obtain rfl := ordT_eq h
        simp
      · simp
theorem put1_ris (t : Tu) : ∀ (l : List Tu), Ris l → Ris (put1 t l)
  | [], _ => by simp [put1, Ris]
  | a :: l, h => by
    obtain ⟨h1, h2⟩ := List.pairwise_cons.1 h
    unfold put1
    split
    · rename_i hlt
      refine List.pairwise_cons.2 ⟨fun x hx => ?_, put1_ris t l h2⟩
      rcases (put1_mem t l x).1 hx with rfl | hx
      · exact hlt
      · exact h1 x hx
    · rename_i hlt
      split
      · exact h
      · rename_i hne
        have hta : ordT t a < 0 := by have := ordT_flip a t; omega
        refine List.pairwise_cons.2 ⟨fun x hx => ?_, h⟩
        rcases List.mem_cons.1 hx with rfl | hx
        · exact hta
        · exact ordT_up hta (h1 x hx)
/-- The tuples of a list in their order, each one once. -/
def srt : List Tu → List Tu → List Tu
  | out, [] => out
  | out, t :: l => srt (put1 t out) l
def sortedT (l : List Tu) : List Tu := srt [] l
theorem srt_ris : ∀ (l out : List Tu), Ris out → Ris (srt out l)
  | [], out, h => h
  | t :: l, out, h => srt_ris l _ (put1_ris t out h)
theorem srt_mem : ∀ (l out : List Tu) (x : Tu), x ∈ srt out l ↔ x ∈ out ∨ x ∈ l
  | [], out, x => by simp [srt]
  | t :: l, out, x => by
    show x ∈ srt (put1 t out) l ↔ _
    rw [srt_mem l _ x, put1_mem, List.mem_cons]
    constructor
    · rintro ((h | h) | h)
      · exact .inr (.inl h)
      · exact .inl h
      · exact .inr (.inr h)
    · rintro (h | h | h)
      · exact .inl (.inr h)
      · exact .inl (.inl h)
      · exact .inr h
theorem sorted_ris (l : List Tu) : Ris (sortedT l) := srt_ris l [] List.Pairwise.nil
theorem sorted_mem (l : List Tu) (x : Tu) : x ∈ sortedT l ↔ x ∈ l := by
  unfold sortedT
  rw [srt_mem]; simp
/-- Rising lists with the same tuples are the same. -/
theorem ris_ext : ∀ {l m : List Tu}, Ris l → Ris m → (∀ x, x ∈ l ↔ x ∈ m) → l = m
  | [], [], _, _, _ => rfl
  | [], b :: m, _, _, h => absurd ((h b).2 List.mem_cons_self) (by simp)
  | a :: l, [], _, _, h => absurd ((h a).1 List.mem_cons_self) (by simp)
  | a :: l, b :: m, h1, h2, h => by
    obtain ⟨a1, a2⟩ := List.pairwise_cons.1 h1
    obtain ⟨b1, b2⟩ := List.pairwise_cons.1 h2
    have hab : a = b := by
      rcases List.mem_cons.1 ((h a).1 List.mem_cons_self) with e | e
      · exact e
      · rcases List.mem_cons.1 ((h b).2 List.mem_cons_self) with e2 | e2
        · exact e2.symm
        · have x1 := b1 a e
          have x2 := a1 b e2
          have := ordT_flip a b
          omega
    subst hab
    have : l = m := ris_ext a2 b2 fun x => by
      constructor
      · intro hx
        rcases List.mem_cons.1 ((h x).1 (List.mem_cons_of_mem _ hx)) with e | e
        · subst e; have := a1 x hx; rw [ordT_self] at this; omega
        · exact e
      · intro hx
        rcases List.mem_cons.1 ((h x).2 (List.mem_cons_of_mem _ hx)) with e | e
        · subst e; have := b1 x hx; rw [ordT_self] at this; omega
        · exact e
    rw [this]
theorem sorted_of_ris {l : List Tu} (h : Ris l) : sortedT l = l := ris_ext (sorted_ris l) h (sorted_mem l)
/-- Neighbours that are the same are left out. -/
def cmpct : List Tu → List Tu
  | [] => []
  | [a] => [a]
  | a :: b :: l => if ordT a b = 0 then cmpct (b :: l) else a :: cmpct (b :: l)
theorem cmpct_mem : ∀ (l : List Tu) (x : Tu), x ∈ cmpct l ↔ x ∈ l
  | [], x => by simp [cmpct]
  | [a], x => by simp [cmpct]
  | a :: b :: l, x => by
    have ih := cmpct_mem (b :: l) x
    unfold cmpct
    split
    · rename_i h
      obtain rfl := ordT_eq h
      rw [ih]; simp
    · rw [List.mem_cons, ih]; simp
theorem cmpct_ris : ∀ {l : List Tu}, l.Pairwise (fun a b => ¬ 0 < ordT a b) → Ris (cmpct l)
  | [], _ => List.Pairwise.nil
  | [a], _ => by simp [cmpct, Ris]
  | a :: b :: l, h => by
    obtain ⟨h1, h2⟩ := List.pairwise_cons.1 h
    have ih := cmpct_ris h2
    unfold cmpct
    split
    · exact ih
    · rename_i hne
      refine List.pairwise_cons.2 ⟨fun x hx => ?_, ih⟩
      have hab := h1 b List.mem_cons_self
      have hx' := (cmpct_mem (b :: l) x).1 hx
      rcases List.mem_cons.1 hx' with rfl | hxl
      · omega
      · have hbx := (List.pairwise_cons.1 h2).1 x hxl
        by_cases e : ordT b x = 0
        · obtain rfl := ordT_eq e; omega
        · exact ordT_up (b := b) (by omega) (by omega)
theorem cmpct_sorted {l m : List Tu} (h : m.Pairwise (fun a b => ¬ 0 < ordT a b)) (hm : ∀ x, x ∈ m ↔ x ∈ l) : cmpct m = sortedT l :=
  ris_ext (cmpct_ris h) (sorted_ris l) fun x => by rw [cmpct_mem, sorted_mem, hm]
theorem cmpct_len : ∀ (l : List Tu), (cmpct l).length ≤ l.length
  | [] => Nat.le_refl _
  | [a] => Nat.le_refl _
  | a :: b :: l => by
    have ih := cmpct_len (b :: l)
    unfold cmpct
    split
    · simp only [List.length_cons] at ih ⊢; omega
    · simp only [List.length_cons] at ih ⊢; omega
end Go.Proofs.Ytebbbiikphfjcaa
