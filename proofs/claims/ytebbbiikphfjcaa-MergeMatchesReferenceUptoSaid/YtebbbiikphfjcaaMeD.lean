/-
  Search in sorted lists, and ranges of one object; no program is spoken of.
-/
import Derived.Test.YtebbbiikphfjcaaMeA
namespace Go.Proofs.Ytebbbiikphfjcaa
set_option linter.unusedVariables false

/-- Where a search comes to: all ahead of it are less, all from it on are not. -/
def Cut (c : Nat → Int) (n p : Nat) : Prop := p ≤ n ∧ (∀ k, k < p → c k < 0) ∧ ∀ k, p ≤ k → k < n → ¬ c k < 0
/-- One step of a binary search in a row in which what is less lies ahead. -/
theorem cut_low {c : Nat → Int} {n i j h : Nat} (hm : ∀ a b, a < b → b < n → c b < 0 → c a < 0) (hj : j ≤ n) (h1 : i ≤ h) (h2 : h < j) (hl : ∀ k, k < i → c k < 0) (hc : c h < 0) : ∀ k, k < h + 1 → c k < 0 := fun k hk => by
  by_cases e : k = h
  · subst e; exact hc
  · exact hm k h (by omega) (by omega) hc
theorem cut_high {c : Nat → Int} {n j h : Nat} (hm : ∀ a b, a < b → b < n → c b < 0 → c a < 0) (hc : ¬ c h < 0) : ∀ k, h ≤ k → k < n → ¬ c k < 0 := fun k hk hn hh => by
  by_cases e : k = h
  · subst e; exact hc hh
  · exact hc (hm h k (by omega) hn hh)
theorem ris_lt {l : List Tu} (h : Ris l) {a b : Nat} (hab : a < b) (hb : b < l.length) : ordT (l.getD a t0) (l.getD b t0) < 0 := by
  rw [List.getD_eq_getElem?_getD, List.getD_eq_getElem?_getD, List.getElem?_eq_getElem hb, List.getElem?_eq_getElem (by omega)]
  exact List.pairwise_iff_getElem.1 h a b (by omega) hb hab
theorem ris_mono {l : List Tu} (h : Ris l) (t : Tu) : ∀ a b, a < b → b < l.length → ordT (l.getD b t0) t < 0 → ordT (l.getD a t0) t < 0 := fun a b hab hb hc => ordT_up (ris_lt h hab hb) hc
/-- Has: what the search comes to is the tuple, or it is nowhere. -/
theorem cut_has {l : List Tu} (h : Ris l) {t : Tu} {p : Nat} (hp : Cut (fun k => ordT (l.getD k t0) t) l.length p) : (decide (p < l.length) && decide (ordT (l.getD p t0) t = 0)) = hasT l t := by
  obtain ⟨h1, h2, h3⟩ := hp
  rw [Bool.eq_iff_iff, Bool.and_eq_true, decide_eq_true_eq, decide_eq_true_eq, hasT_iff]
  constructor
  · rintro ⟨a, b⟩
    rw [← ordT_eq b, List.getD_eq_getElem?_getD, List.getElem?_eq_getElem a]
    exact List.getElem_mem a
  · intro hm
    obtain ⟨k, hk, e⟩ := List.getElem_of_mem hm
    have ek : l.getD k t0 = t := by rw [List.getD_eq_getElem?_getD, List.getElem?_eq_getElem hk]; exact e
    have hkp : k = p := by
      rcases Nat.lt_trichotomy k p with hlt | heq | hgt
      · have := h2 k hlt
        simp only [ek, ordT_self] at this
        omega
      · exact heq
      · have := h3 p (Nat.le_refl _) (by omega)
        have h4 := ris_lt h hgt hk
        rw [ek] at h4
        exact absurd h4 this
    subst hkp
    exact ⟨hk, by rw [ek]; exact ordT_self t⟩
/-! ### ranges -/
theorem ordO_cut (a b : Tu) (h : ordT a b < 0) : ¬ 0 < ordO (objT a) (objT b) := by
  unfold ordT Tu.l at h
  unfold ordO objT
  unfold ordL at h ⊢
  split at h
  · rename_i h1
    rw [if_pos h1]
    unfold ordL at h ⊢
    split at h
    · rename_i h2
      rw [if_pos h2]
      unfold ordL; omega
    · rename_i h2
      rw [if_neg h2]
      show ¬ 0 < ord a.oi b.oi
      omega
  · rename_i h1
    rw [if_neg h1]
    show ¬ 0 < ord a.ot b.ot
    omega
theorem ordO_self (a : ByteArray × ByteArray) : ordO a a = 0 := ordL_self _
theorem ordO_flip (a b : ByteArray × ByteArray) : ordO b a = - ordO a b := ordL_flip _ _
theorem ordO_up {a b c : ByteArray × ByteArray} (h1 : ordO a b < 0) (h2 : ordO b c < 0) : ordO a c < 0 := ordL_up [a.1, a.2] [b.1, b.2] [c.1, c.2] rfl rfl h1 h2
theorem ordO_low {a b c : ByteArray × ByteArray} (h1 : ¬ 0 < ordO a b) (h2 : ordO b c < 0) : ordO a c < 0 := by
  by_cases e : ordO a b = 0
  · rw [ordO_eq e]; exact h2
  · exact ordO_up (by omega) h2
theorem obj_mono {l : List Tu} (h : Ris l) (o : ByteArray × ByteArray) : ∀ a b, a < b → b < l.length → ordO (objT (l.getD b t0)) o < 0 → ordO (objT (l.getD a t0)) o < 0 := fun a b hab hb hc => ordO_low (ordO_cut _ _ (ris_lt h hab hb)) hc
/-- How far the same object goes on. -/
def runT (o : ByteArray × ByteArray) : List Tu → Nat
  | [] => 0
  | t :: r => if ordO (objT t) o = 0 then runT o r + 1 else 0
theorem runT_le (o : ByteArray × ByteArray) : ∀ l, runT o l ≤ l.length
  | [] => Nat.le_refl _
  | t :: r => by unfold runT; split <;> have := runT_le o r <;> simp only [List.length_cons] <;> omega
theorem run_filter {l : List Tu} {o : ByteArray × ByteArray} (h : Ris l) (hge : ∀ x ∈ l, ¬ ordO (objT x) o < 0) : l.filter (fun t => decide (ordO (objT t) o = 0)) = l.take (runT o l) := by
  induction l with
  | nil => rfl
  | cons t r ih =>
    obtain ⟨a1, a2⟩ := List.pairwise_cons.1 h
    unfold runT
    by_cases e : ordO (objT t) o = 0
    · rw [if_pos e, List.filter_cons_of_pos (by simpa using e), List.take_succ_cons, ih a2 fun x hx => hge x (by simp [hx])]
    · rw [if_neg e, List.filter_cons_of_neg (by simpa using e), List.take_zero]
      refine List.filter_eq_nil_iff.2 fun x hx => ?_
      have h1 := ordO_cut _ _ (a1 x hx)
      have h2 := hge t (by simp)
      intro hh
      have hh := of_decide_eq_true hh
      rw [← ordO_eq hh] at h2 e
      omega
theorem range_cut {l : List Tu} (h : Ris l) {o : ByteArray × ByteArray} {p : Nat} (hp : Cut (fun k => ordO (objT (l.getD k t0)) o) l.length p) : rangeT l o = (l.drop p).take (runT o (l.drop p)) := by
  obtain ⟨h1, h2, h3⟩ := hp
  have hr : Ris (l.drop p) := List.Pairwise.sublist (List.drop_sublist p l) h
  rw [← run_filter hr]
  · unfold rangeT
    conv => lhs; rw [← List.take_append_drop p l]
    rw [List.filter_append]
    have : (l.take p).filter (fun t => decide (ordO (objT t) o = 0)) = [] := by
      refine List.filter_eq_nil_iff.2 fun x hx hh => ?_
      obtain ⟨k, hk, e⟩ := List.getElem_of_mem hx
      rw [List.length_take] at hk
      have hk2 := h2 k (by omega)
      simp only [] at hk2
      rw [List.getD_eq_getElem?_getD, List.getElem?_eq_getElem (by omega)] at hk2
      rw [List.getElem_take] at e
      have hh := of_decide_eq_true hh
      simp only [Option.getD_some] at hk2
      rw [e] at hk2
      omega
    rw [this, List.nil_append]
  · intro x hx
    obtain ⟨k, hk, e⟩ := List.getElem_of_mem hx
    rw [List.length_drop] at hk
    have hk3 := h3 (p + k) (by omega) (by omega)
    simp only [] at hk3
    rw [List.getD_eq_getElem?_getD, List.getElem?_eq_getElem (by omega)] at hk3
    rw [List.getElem_drop] at e
    simp only [Option.getD_some] at hk3
    rwa [e] at hk3
end Go.Proofs.Ytebbbiikphfjcaa
