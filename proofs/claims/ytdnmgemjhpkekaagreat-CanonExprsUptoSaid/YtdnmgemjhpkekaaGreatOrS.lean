/-
  Sorted lists over any order: what is put in its place, each element once; no program is spoken of. (By tools/gen_ors.py from TuD.)
-/
import Derived.Test.YtdnmgemjhpkekaaGreatPlain
namespace Go.Proofs.YtdnmgemjhpkekaaGreat
set_option linter.unusedVariables false
structure OrdL {α : Type} (o : α → α → Int) : Prop where
  eq' : ∀ a b, o a b = 0 → a = b
  self : ∀ a, o a a = 0
  flip : ∀ a b, o b a = - o a b
  up' : ∀ a b c, o a b < 0 → o b c < 0 → o a c < 0
section
variable {α : Type} {o : α → α → Int}
theorem OrdL.eq (H : OrdL o) {a b : α} (h : o a b = 0) : a = b := H.eq' a b h
theorem OrdL.up (H : OrdL o) {a b c : α} (h1 : o a b < 0) (h2 : o b c < 0) : o a c < 0 := H.up' a b c h1 h2
theorem OrdL.le (H : OrdL o) {a b c : α} (h1 : ¬ 0 < o a b) (h2 : ¬ 0 < o b c) : ¬ 0 < o a c := by
  by_cases x : o a b = 0
  · obtain rfl := H.eq x; exact h2
  · by_cases y : o b c = 0
    · obtain rfl := H.eq y; exact h1
    · have := H.up (a := a) (b := b) (c := c) (by omega) (by omega)
      omega
/-- A list whose elements rise. -/
def RisO (o : α → α → Int) (l : List α) : Prop := l.Pairwise fun a b => o a b < 0
/-- An element is put in its place, unless it is there. -/
def put1O (o : α → α → Int) (t : α) : List α → List α
  | [] => [t]
  | a :: l => if o a t < 0 then a :: put1O o t l else if o a t = 0 then a :: l else t :: a :: l
theorem put1_memO (H : OrdL o) (t : α) : ∀ (l : List α) (x : α), x ∈ put1O o t l ↔ x = t ∨ x ∈ l
  | [], x => by simp [put1O]
  | a :: l, x => by
    unfold put1O
    split
    · rw [List.mem_cons, put1_memO H t l x, List.mem_cons]
      constructor
      · rintro (h | h | h)
        · exact .inr (.inl h)
        · exact .inl h
        · exact .inr (.inr h)
      · rintro (h | h | h)
        · exact .inr (.inl h)
        · exact .inl h
        · exact .inr (.inr h)
    · split
      · rename_i h
        obtain rfl := H.eq h
        simp
      · simp
theorem put1_risO (H : OrdL o) (t : α) : ∀ (l : List α), RisO o l → RisO o (put1O o t l)
  | [], _ => by simp [put1O, RisO]
  | a :: l, h => by
    obtain ⟨h1, h2⟩ := List.pairwise_cons.1 h
    unfold put1O
    split
    · rename_i hlt
      refine List.pairwise_cons.2 ⟨fun x hx => ?_, put1_risO H t l h2⟩
      rcases (put1_memO H t l x).1 hx with rfl | hx
      · exact hlt
      · exact h1 x hx
    · rename_i hlt
      split
      · exact h
      · rename_i hne
        have hta : o t a < 0 := by have := H.flip a t; omega
        refine List.pairwise_cons.2 ⟨fun x hx => ?_, h⟩
        rcases List.mem_cons.1 hx with rfl | hx
        · exact hta
        · exact H.up hta (h1 x hx)
/-- The elements of a list in their order, each one once. -/
def srtO (o : α → α → Int) : List α → List α → List α
  | out, [] => out
  | out, t :: l => srtO o (put1O o t out) l
def sortedO (o : α → α → Int) (l : List α) : List α := srtO o [] l
theorem srt_risO (H : OrdL o) : ∀ (l out : List α), RisO o out → RisO o (srtO o out l)
  | [], out, h => h
  | t :: l, out, h => srt_risO H l _ (put1_risO H t out h)
theorem srt_memO (H : OrdL o) : ∀ (l out : List α) (x : α), x ∈ srtO o out l ↔ x ∈ out ∨ x ∈ l
  | [], out, x => by simp [srtO]
  | t :: l, out, x => by
    show x ∈ srtO o (put1O o t out) l ↔ _
    rw [srt_memO H l _ x, put1_memO H, List.mem_cons]
    constructor
    · rintro ((h | h) | h)
      · exact .inr (.inl h)
      · exact .inl h
      · exact .inr (.inr h)
    · rintro (h | h | h)
      · exact .inl (.inr h)
      · exact .inl (.inl h)
      · exact .inr h
theorem sorted_risO (H : OrdL o) (l : List α) : RisO o (sortedO o l) := srt_risO H l [] List.Pairwise.nil
theorem sorted_memO (H : OrdL o) (l : List α) (x : α) : x ∈ sortedO o l ↔ x ∈ l := by
  unfold sortedO
  rw [srt_memO H]; simp
/-- Rising lists with the same elements are the same. -/
theorem ris_extO (H : OrdL o) : ∀ {l m : List α}, RisO o l → RisO o m → (∀ x, x ∈ l ↔ x ∈ m) → l = m
  | [], [], _, _, _ => rfl
  | [], b :: m, _, _, h => absurd ((h b).2 List.mem_cons_self) (by simp)
  | a :: l, [], _, _, h => absurd ((h a).1 List.mem_cons_self) (by simp)
  | a :: l, b :: m, h1, h2, h => by
    obtain ⟨a1, a2⟩ := List.pairwise_cons.1 h1
    obtain ⟨b1, b2⟩ := List.pairwise_cons.1 h2
    have hab : a = b := by
      rcases List.mem_cons.1 ((h a).1 List.mem_cons_self) with e | e
      · exact e
      · rcases List.mem_cons.1 ((h b).2 List.mem_cons_self) with e2 | e2
        · exact e2.symm
        · have x1 := b1 a e
          have x2 := a1 b e2
          have := H.flip a b
          omega
    subst hab
    have : l = m := ris_extO H a2 b2 fun x => by
      constructor
      · intro hx
        rcases List.mem_cons.1 ((h x).1 (List.mem_cons_of_mem _ hx)) with e | e
        · subst e; have := a1 x hx; rw [H.self] at this; omega
        · exact e
      · intro hx
        rcases List.mem_cons.1 ((h x).2 (List.mem_cons_of_mem _ hx)) with e | e
        · subst e; have := b1 x hx; rw [H.self] at this; omega
        · exact e
    rw [this]
theorem sorted_of_risO (H : OrdL o) {l : List α} (h : RisO o l) : sortedO o l = l := ris_extO H (sorted_risO H l) h (sorted_memO H l)
/-- Neighbours that are the same are left out. -/
def cmpctO (o : α → α → Int) : List α → List α
  | [] => []
  | [a] => [a]
  | a :: b :: l => if o a b = 0 then cmpctO o (b :: l) else a :: cmpctO o (b :: l)
theorem cmpct_memO (H : OrdL o) : ∀ (l : List α) (x : α), x ∈ cmpctO o l ↔ x ∈ l
  | [], x => by simp [cmpctO]
  | [a], x => by simp [cmpctO]
  | a :: b :: l, x => by
    have ih := cmpct_memO H (b :: l) x
    unfold cmpctO
    split
    · rename_i h
      obtain rfl := H.eq h
      rw [ih]; simp
    · rw [List.mem_cons, ih]; simp
theorem cmpct_risO (H : OrdL o) : ∀ {l : List α}, l.Pairwise (fun a b => ¬ 0 < o a b) → RisO o (cmpctO o l)
  | [], _ => List.Pairwise.nil
  | [a], _ => by simp [cmpctO, RisO]
  | a :: b :: l, h => by
    obtain ⟨h1, h2⟩ := List.pairwise_cons.1 h
    have ih := cmpct_risO H h2
    unfold cmpctO
    split
    · exact ih
    · rename_i hne
      refine List.pairwise_cons.2 ⟨fun x hx => ?_, ih⟩
      have hab := h1 b List.mem_cons_self
      have hx' := (cmpct_memO H (b :: l) x).1 hx
      rcases List.mem_cons.1 hx' with rfl | hxl
      · omega
      · have hbx := (List.pairwise_cons.1 h2).1 x hxl
        by_cases e : o b x = 0
        · obtain rfl := H.eq e; omega
        · exact H.up (b := b) (by omega) (by omega)
theorem cmpct_sortedO (H : OrdL o) {l m : List α} (h : m.Pairwise (fun a b => ¬ 0 < o a b)) (hm : ∀ x, x ∈ m ↔ x ∈ l) : cmpctO o m = sortedO o l :=
  ris_extO H (cmpct_risO H h) (sorted_risO H l) fun x => by rw [cmpct_memO H, sorted_memO H, hm]
theorem cmpct_lenO (H : OrdL o) : ∀ (l : List α), (cmpctO o l).length ≤ l.length
  | [] => Nat.le_refl _
  | [a] => Nat.le_refl _
  | a :: b :: l => by
    have ih := cmpct_lenO H (b :: l)
    unfold cmpctO
    split
    · simp only [List.length_cons] at ih ⊢; omega
    · simp only [List.length_cons] at ih ⊢; omega
end
end Go.Proofs.YtdnmgemjhpkekaaGreat
