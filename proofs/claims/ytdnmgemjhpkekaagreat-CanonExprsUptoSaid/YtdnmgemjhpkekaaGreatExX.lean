/-
  The order of expressions: one order, in which only the same ones are equal.
-/
import Derived.Test.YtdnmgemjhpkekaaGreatExT
namespace Go.Proofs.YtdnmgemjhpkekaaGreat
open Go.ChangeShapes Go.WideShapes Go.ChangeAt Go.RowKit
set_option linter.unusedVariables false

def T3 (x : Int) : Prop := x = -1 ∨ x = 0 ∨ x = 1
theorem ci_three (a b : Int) : T3 (Lib.compareInt a b) := by
  unfold T3 Lib.compareInt
  by_cases h : a < b
  · simp [h]
  · by_cases h2 : b < a
    · simp [h, h2]
    · have : a = b := by omega
      simp [this]
theorem ci_flip (a b : Int) : Lib.compareInt b a = - Lib.compareInt a b := by
  unfold Lib.compareInt
  by_cases h : a < b
  · have h2 : ¬ b < a := by omega
    simp [h, h2]
  · by_cases h2 : b < a
    · simp [h, h2]
    · have : a = b := by omega
      simp [this]
theorem orL_three : ∀ (l : List Int), (∀ x ∈ l, T3 x) → T3 (orL l)
  | [], _ => .inr (.inl rfl)
  | x :: r, h => by
    have hr := orL_three r fun y hy => h y (List.mem_cons_of_mem _ hy)
    have hx := h x (List.mem_cons_self)
    unfold orL
    split <;> assumption
theorem orL_flip : ∀ (l : List Int), orL (l.map fun x => -x) = - orL l
  | [] => rfl
  | x :: r => by
    have hr := orL_flip r
    simp only [List.map_cons]
    unfold orL
    by_cases h : x = 0
    · simp [h, hr]
    · have h2 : ¬ -x = 0 := by omega
      simp [h]
mutual
theorem cmpE_three : ∀ a b : Ex, T3 (cmpE a b)
  | .mk k v n ks, .mk k2 v2 n2 ls => by
    have := cmpL_three ks ls
    unfold cmpE
    refine orL_three _ fun x hx => ?_
    simp only [List.mem_cons, List.not_mem_nil, or_false] at hx
    rcases hx with rfl | rfl | rfl | rfl
    · exact ci_three _ _
    · exact cb_three _ _
    · exact cb_three _ _
    · exact this
theorem cmpL_three : ∀ a b : List Ex, T3 (cmpL a b)
  | [], [] => .inr (.inl (by unfold cmpL; rfl))
  | [], _ :: _ => .inl (by unfold cmpL; rfl)
  | _ :: _, [] => .inr (.inr (by unfold cmpL; rfl))
  | a :: r, b :: s => by
    have h1 := cmpE_three a b
    have h2 := cmpL_three r s
    unfold cmpL
    refine orL_three _ fun x hx => ?_
    simp only [List.mem_cons, List.not_mem_nil, or_false] at hx
    rcases hx with rfl | rfl
    · exact h1
    · exact h2
end
mutual
theorem cmpE_flip : ∀ a b : Ex, cmpE b a = - cmpE a b
  | .mk k v n ks, .mk k2 v2 n2 ls => by
    have h := cmpL_flip ks ls
    unfold cmpE
    simp only [Ex.kind, Ex.via, Ex.nm, Ex.kids]
    rw [ci_flip k k2, cb_flip v v2, cb_flip n n2, h, ← orL_flip]; rfl
theorem cmpL_flip : ∀ a b : List Ex, cmpL b a = - cmpL a b
  | [], [] => by unfold cmpL; rfl
  | [], _ :: _ => by unfold cmpL; rfl
  | _ :: _, [] => by unfold cmpL; rfl
  | a :: r, b :: s => by
    have h1 := cmpE_flip a b
    have h2 := cmpL_flip r s
    unfold cmpL
    rw [h1, h2, ← orL_flip]; rfl
end
mutual
theorem cmpE_self : ∀ a : Ex, cmpE a a = 0
  | .mk k v n ks => by
    rw [cmpE_kids (cb_self v) (cb_self n)]
    exact cmpL_self ks
theorem cmpL_self : ∀ a : List Ex, cmpL a a = 0
  | [] => by unfold cmpL; rfl
  | a :: r => by
    have h1 := cmpE_self a
    have h2 := cmpL_self r
    unfold cmpL
    rw [h1, h2]; rfl
end
theorem cmp_cases (k k2 : Int) (v n v2 n2 : List UInt8) (ks ls : List Ex) :
    (k < k2 ∧ cmpE (.mk k v n ks) (.mk k2 v2 n2 ls) = -1) ∨ (k2 < k ∧ cmpE (.mk k v n ks) (.mk k2 v2 n2 ls) = 1) ∨
    (k = k2 ∧ Lib.compareBytes v v2 ≠ 0 ∧ cmpE (.mk k v n ks) (.mk k2 v2 n2 ls) = Lib.compareBytes v v2) ∨
    (k = k2 ∧ v = v2 ∧ Lib.compareBytes n n2 ≠ 0 ∧ cmpE (.mk k v n ks) (.mk k2 v2 n2 ls) = Lib.compareBytes n n2) ∨
    (k = k2 ∧ v = v2 ∧ n = n2 ∧ cmpE (.mk k v n ks) (.mk k2 v2 n2 ls) = cmpL ks ls) := by
  by_cases h1 : k < k2
  · exact .inl ⟨h1, cmpE_lt h1⟩
  by_cases h2 : k2 < k
  · exact .inr (.inl ⟨h2, cmpE_gt h2⟩)
  obtain rfl : k = k2 := by omega
  by_cases h3 : Lib.compareBytes v v2 = 0
  · by_cases h4 : Lib.compareBytes n n2 = 0
    · exact .inr (.inr (.inr (.inr ⟨rfl, cb_eq _ _ h3, cb_eq _ _ h4, cmpE_kids h3 h4⟩)))
    · exact .inr (.inr (.inr (.inl ⟨rfl, cb_eq _ _ h3, h4, cmpE_nm h3 h4⟩)))
  · exact .inr (.inr (.inl ⟨rfl, h3, cmpE_via h3⟩))
mutual
theorem cmpE_eq : ∀ {a b : Ex}, cmpE a b = 0 → a = b
  | .mk k v n ks, .mk k2 v2 n2 ls, h => by
    have hl := @cmpL_eq ks ls
    rcases cmp_cases k k2 v n v2 n2 ks ls with ⟨_, e⟩ | ⟨_, e⟩ | ⟨_, g, e⟩ | ⟨_, _, g, e⟩ | ⟨rfl, rfl, rfl, e⟩
    · rw [e] at h; cases h
    · rw [e] at h; cases h
    · rw [e] at h; exact absurd h g
    · rw [e] at h; exact absurd h g
    · rw [e] at h; rw [hl h]
theorem cmpL_eq : ∀ {a b : List Ex}, cmpL a b = 0 → a = b
  | [], [], _ => rfl
  | [], _ :: _, h => by unfold cmpL at h; cases h
  | _ :: _, [], h => by unfold cmpL at h; cases h
  | a :: r, b :: s, h => by
    have h1 := @cmpE_eq a b
    have h2 := @cmpL_eq r s
    unfold cmpL at h
    rw [orL2] at h
    by_cases hz : cmpE a b = 0
    · rw [if_pos hz] at h; rw [h1 hz, h2 h]
    · rw [if_neg hz] at h; exact absurd h hz
end
mutual
theorem cmpE_up : ∀ {a b c : Ex}, cmpE a b < 0 → cmpE b c < 0 → cmpE a c < 0
  | .mk k v n ks, .mk k2 v2 n2 ls, .mk k3 v3 n3 ms, h1, h2 => by
    have hl := @cmpL_up ks ls ms
    rcases cmp_cases k k2 v n v2 n2 ks ls with ⟨g, e⟩ | ⟨_, e⟩ | ⟨rfl, g, e⟩ | ⟨rfl, rfl, g, e⟩ | ⟨rfl, rfl, rfl, e⟩
    · rcases cmp_cases k2 k3 v2 n2 v3 n3 ls ms with ⟨g2, e2⟩ | ⟨_, e2⟩ | ⟨rfl, g2, e2⟩ | ⟨rfl, rfl, g2, e2⟩ | ⟨rfl, rfl, rfl, e2⟩
      · rw [cmpE_lt (by omega)]; omega
      · rw [e2] at h2; omega
      · rw [cmpE_lt g]; omega
      · rw [cmpE_lt g]; omega
      · rw [cmpE_lt g]; omega
    · rw [e] at h1; omega
    · rw [e] at h1
      rcases cmp_cases k k3 v2 n2 v3 n3 ls ms with ⟨g2, e2⟩ | ⟨_, e2⟩ | ⟨rfl, g2, e2⟩ | ⟨rfl, rfl, g2, e2⟩ | ⟨rfl, rfl, rfl, e2⟩
      · rw [cmpE_lt g2]; omega
      · rw [e2] at h2; omega
      · rw [e2] at h2
        have h3 := cb_up _ _ _ h1 h2
        rw [cmpE_via (by omega)]; exact h3
      · rw [cmpE_via g]; exact h1
      · rw [cmpE_via g]; exact h1
    · rw [e] at h1
      rcases cmp_cases k k3 v n2 v3 n3 ls ms with ⟨g2, e2⟩ | ⟨_, e2⟩ | ⟨rfl, g2, e2⟩ | ⟨rfl, rfl, g2, e2⟩ | ⟨rfl, rfl, rfl, e2⟩
      · rw [cmpE_lt g2]; omega
      · rw [e2] at h2; omega
      · rw [e2] at h2
        rw [cmpE_via g2]; exact h2
      · rw [e2] at h2
        have h3 := cb_up _ _ _ h1 h2
        rw [cmpE_nm (cb_self _) (by omega)]; exact h3
      · rw [cmpE_nm (cb_self _) g]; exact h1
    · rw [e] at h1
      rcases cmp_cases k k3 v n v3 n3 ls ms with ⟨g2, e2⟩ | ⟨_, e2⟩ | ⟨rfl, g2, e2⟩ | ⟨rfl, rfl, g2, e2⟩ | ⟨rfl, rfl, rfl, e2⟩
      · rw [cmpE_lt g2]; omega
      · rw [e2] at h2; omega
      · rw [e2] at h2
        rw [cmpE_via g2]; exact h2
      · rw [e2] at h2
        rw [cmpE_nm (cb_self _) g2]; exact h2
      · rw [e2] at h2
        rw [cmpE_kids (cb_self _) (cb_self _)]; exact hl h1 h2
theorem cmpL_up : ∀ {a b c : List Ex}, cmpL a b < 0 → cmpL b c < 0 → cmpL a c < 0
  | [], [], _, h1, _ => by unfold cmpL at h1; omega
  | [], _ :: _, [], _, h2 => by unfold cmpL at h2; omega
  | [], _ :: _, _ :: _, _, _ => by unfold cmpL; omega
  | _ :: _, [], _, h1, _ => by unfold cmpL at h1; omega
  | _ :: _, _ :: _, [], _, h2 => by unfold cmpL at h2; omega
  | a :: r, b :: s, c :: u, h1, h2 => by
    have he := @cmpE_up a b c
    have hr := @cmpL_up r s u
    have q1 := @cmpE_eq a b
    have q2 := @cmpE_eq b c
    unfold cmpL at h1 h2 ⊢
    rw [orL2] at h1 h2 ⊢
    by_cases z1 : cmpE a b = 0
    · obtain rfl := q1 z1
      rw [if_pos z1] at h1
      by_cases z2 : cmpE a c = 0
      · rw [if_pos z2] at h2 ⊢; exact hr h1 h2
      · rw [if_neg z2] at h2 ⊢; exact h2
    · rw [if_neg z1] at h1
      by_cases z2 : cmpE b c = 0
      · obtain rfl := q2 z2
        rw [if_neg z1]; exact h1
      · rw [if_neg z2] at h2
        have := he h1 h2
        rw [if_neg (by omega)]; exact this
end
theorem cmpE_le {a b c : Ex} (h1 : ¬ 0 < cmpE a b) (h2 : ¬ 0 < cmpE b c) : cmpE a c ≤ 0 := by
  by_cases z1 : cmpE a b = 0
  · rw [cmpE_eq z1]; omega
  · by_cases z2 : cmpE b c = 0
    · rw [← cmpE_eq z2]; omega
    · have := cmpE_up (a := a) (b := b) (c := c) (by omega) (by omega); omega
end Go.Proofs.YtdnmgemjhpkekaaGreat
