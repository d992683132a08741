/-
  vestryref10.Count, Few: what few parts means.
-/
import Derived.Test.YtdnmgemjhpkekaaExC
namespace Go.Proofs.Ytdnmgemjhpkekaa
open Go.ChangeShapes Go.WideShapes Go.ChangeAt Go.RowKit
set_option linter.unusedVariables false

mutual
/-- No text is longer than M. -/
def okE (M : Nat) : Ex → Prop
  | .mk _ v n ks => v.length ≤ M ∧ n.length ≤ M ∧ okL M ks
def okL (M : Nat) : List Ex → Prop
  | [] => True
  | e :: r => okE M e ∧ okL M r
end
theorem okL_get {M : Nat} : ∀ {ks : List Ex} {i : Nat}, okL M ks → i < ks.length → okE M (ks.getD i ex0)
  | [], _, _, h => by simp at h
  | e :: r, 0, h, _ => by unfold okL at h; exact h.1
  | e :: r, i + 1, h, hi => by unfold okL at h; exact okL_get (i := i) h.2 (by simpa using hi)
mutual
/-- How many parts, with at most d levels more. -/
def cntE : Nat → Ex → Nat
  | 0, _ => 500
  | d + 1, .mk _ v n ks => cntL d (1 + v.length / 200 + n.length / 200) ks
def cntL : Nat → Nat → List Ex → Nat
  | _, n, [] => n
  | d, n, e :: r => if n < 500 then cntL d (n + cntE d e) r else n
end
def bigM : Nat := 140737488355328
theorem cntL_le (d B : Nat) (h : ∀ e, okE bigM e → cntE d e + 499 ≤ B) : ∀ (ks : List Ex) (n : Nat), okL bigM ks → n ≤ B → cntL d n ks ≤ B
  | [], n, _, hn => by unfold cntL; exact hn
  | e :: r, n, ho, hn => by
    unfold okL at ho
    unfold cntL
    split
    · exact cntL_le d B h r _ ho.2 (by have := h e ho.1; omega)
    · exact hn
theorem cntE_le : ∀ (d : Nat) (e : Ex), okE bigM e → cntE d e ≤ (d + 1) * 1500000000000
  | 0, e, _ => by unfold cntE; omega
  | d + 1, .mk k v n ks, h => by
    unfold okE bigM at h
    unfold cntE
    refine cntL_le d _ (fun e he => ?_) ks _ h.2.2 ?_
    · have := cntE_le d e he
      have e2 : (d + 1 + 1) * 1500000000000 = (d + 1) * 1500000000000 + 1500000000000 := by rw [Nat.add_mul]
      omega
    · have e2 : (d + 1 + 1) * 1500000000000 = (d + 1) * 1500000000000 + 1500000000000 := by rw [Nat.add_mul]
      omega
mutual
theorem cntE_few : ∀ (d : Nat) (e : Ex), cntE d e < 500 → sizeE e ≤ cntE d e ∧ okE 100000 e ∧ depthE e ≤ d
  | 0, e, h => by unfold cntE at h; omega
  | d + 1, .mk k v n ks, h => by
    unfold cntE at h ⊢
    obtain ⟨h1, h2, h3, h4⟩ := cntL_few d ks _ h
    unfold sizeE okE depthE
    exact ⟨by omega, ⟨by omega, by omega, h2⟩, by omega⟩
theorem cntL_few : ∀ (d : Nat) (ks : List Ex) (n : Nat), cntL d n ks < 500 → n + sizeL ks ≤ cntL d n ks ∧ okL 100000 ks ∧ depthL ks ≤ d ∧ n ≤ cntL d n ks
  | d, [], n, h => by unfold cntL at h ⊢; unfold sizeL okL depthL; exact ⟨by omega, trivial, by omega, by omega⟩
  | d, e :: r, n, h => by
    unfold cntL at h ⊢
    split at h
    · rename_i hn
      rw [if_pos hn]
      obtain ⟨h1, h2, h3, h4⟩ := cntL_few d r _ h
      obtain ⟨g1, g2, g3⟩ := cntE_few d e (by omega)
      unfold sizeL okL depthL
      exact ⟨by omega, ⟨g2, h2⟩, by omega, by omega⟩
    · omega
end
theorem cntL_step {d n i : Nat} {ks : List Ex} (h : n < 500) (hi : i < ks.length) : cntL d n (ks.drop i) = cntL d (n + cntE d (ks.getD i ex0)) (ks.drop (i + 1)) := by
  rw [List.drop_eq_getElem_cons hi]
  conv => lhs; unfold cntL
  rw [if_pos h, List.getD_eq_getElem?_getD, List.getElem?_eq_getElem hi]; rfl
theorem cntL_ge : ∀ (d : Nat) (ks : List Ex) (n : Nat), n ≤ cntL d n ks
  | d, [], n => by unfold cntL; exact Nat.le_refl _
  | d, e :: r, n => by
    unfold cntL
    split
    · exact Nat.le_trans (Nat.le_add_right _ _) (cntL_ge d r _)
    · exact Nat.le_refl _
theorem cntE_pos : ∀ (d : Nat) (e : Ex), 1 ≤ cntE d e
  | 0, e => by unfold cntE; omega
  | d + 1, .mk k v n ks => by unfold cntE; have := cntL_ge d ks (1 + v.length / 200 + n.length / 200); omega
theorem cntL_stop {d n : Nat} {ks : List Ex} (h : ¬ n < 500) : cntL d n ks = n := by
  cases ks with
  | nil => unfold cntL; rfl
  | cons e r => unfold cntL; rw [if_neg h]
theorem quo200 (n : Nat) : Int.tdiv (n : Int) 200 = ((n / 200 : Nat) : Int) := by
  rw [Int.tdiv_eq_ediv_of_nonneg (by omega)]; rfl
end Go.Proofs.Ytdnmgemjhpkekaa
