/-
  The reference's way of putting things in their places; no program is spoken of.
-/
import Derived.Test.YtdnmgemjhpkekaaGreatCaA
namespace Go.Proofs.YtdnmgemjhpkekaaGreat
set_option linter.unusedVariables false
section
variable {α : Type} {o : α → α → Int}
/-- One element against the whole list: it goes ahead of the first that is not less, and what is the same is left out. -/
def rputO (o : α → α → Int) (e : α) : Bool → List α → List α
  | p, [] => if p = true then [] else [e]
  | p, a :: r => (if ¬ 0 < o e a ∧ p = false then [e] else []) ++ ((if o e a = 0 then [] else [a]) ++ rputO o e (p || decide (¬ 0 < o e a)) r)
theorem rput_past (H : OrdL o) (e : α) : ∀ (l : List α), (∀ x ∈ l, o e x < 0) → rputO o e true l = l
  | [], _ => rfl
  | a :: r, h => by
    have ha := h a (by simp)
    rw [rputO, if_neg (by simp), if_neg (by omega)]
    show [] ++ ([a] ++ rputO o e true r) = _
    rw [rput_past H e r fun x hx => h x (by simp [hx])]; rfl
theorem rput_eq (H : OrdL o) (e : α) : ∀ (l : List α), RisO o l → rputO o e false l = put1O o e l
  | [], _ => rfl
  | a :: r, h => by
    obtain ⟨h1, h2⟩ := List.pairwise_cons.1 h
    have hf := H.flip a e
    rw [rputO, put1O]
    by_cases c1 : o a e < 0
    · rw [if_pos c1, if_neg (by omega), if_neg (by omega), show (false || decide (¬ 0 < o e a)) = false from by simp; omega, rput_eq H e r h2]; rfl
    · rw [if_neg c1, if_pos ⟨by omega, rfl⟩, show (false || decide (¬ 0 < o e a)) = true from by simp; omega]
      by_cases c2 : o a e = 0
      · obtain rfl := H.eq c2
        rw [if_pos c2, if_pos (H.self a), rput_past H a r h1]; rfl
      · rw [if_neg c2, if_neg (by omega), rput_past H e r fun x hx => H.up (by omega) (h1 x hx)]; rfl
theorem srtO_snoc (t : α) : ∀ (l out : List α), srtO o out (l ++ [t]) = put1O o t (srtO o out l)
  | [], out => rfl
  | a :: l, out => by rw [List.cons_append]; show srtO o (put1O o a out) (l ++ [t]) = put1O o t (srtO o (put1O o a out) l); exact srtO_snoc t l _
theorem srtO_app : ∀ (l m out : List α), srtO o out (l ++ m) = srtO o (srtO o out l) m
  | [], m, out => rfl
  | a :: l, m, out => by rw [List.cons_append]; exact srtO_app l m (put1O o a out)
end
theorem flatK_snoc (k : Int) : ∀ (l : List Ex) (x : Ex), flatK k (l ++ [x]) = flatK k l ++ (if x.kind = k then x.kids else [x])
  | [], x => by simp [flatK]
  | a :: l, x => by rw [List.cons_append, flatK, flatK_snoc k l x, flatK, List.append_assoc]
/-- Kids in their places, one by one: as the sum of all. -/
theorem kids_step {o : Ex → Ex → Int} (k : Int) (l : List Ex) (x : Ex) : sortedO o (flatK k (l ++ [x])) = if x.kind = k then srtO o (sortedO o (flatK k l)) x.kids else put1O o x (sortedO o (flatK k l)) := by
  unfold sortedO
  rw [flatK_snoc, srtO_app]
  by_cases h : x.kind = k
  · rw [if_pos h, if_pos h]
  · rw [if_neg h, if_neg h]; rfl
end Go.Proofs.YtdnmgemjhpkekaaGreat
