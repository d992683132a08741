/-
  Plain facts on numbers read from bytes: how many bytes are read, and that they are those of the number.
-/
import Derived.Test.YtdnmgemjhpkekaaGreatDoorNumberM
namespace Go.Proofs.YtdnmgemjhpkekaaGreatDoor
open Go.ChangeShapes Go.WideShapes Go.ChangeAt Go.RowKit
set_option linter.unusedVariables false

theorem numGo_at : ∀ (l : List UInt8) (i x : Nat), i ≤ 9 → (numGo i x l).2.2 = 0 → i < (numGo i x l).2.1 ∧ (numGo i x l).2.1 ≤ i + l.length ∧ (numGo i x l).2.1 ≤ 10
  | [], i, x, _, h => by simp [numGo] at h
  | g :: r, i, x, hi, h => by
    by_cases h1 : i = 9 ∧ 1 < g.toNat
    · rw [go_long h1] at h; cases h
    · by_cases h2 : 0 < i ∧ g.toNat = 0
      · rw [go_min h1 h2] at h; cases h
      · by_cases h3 : g.toNat < 128
        · rw [go_last h1 h2 h3]
          simp; omega
        · rw [go_next h1 h2 h3] at h ⊢
          have := numGo_at r (i + 1) _ (by omega) h
          simp only [List.length_cons]
          omega
theorem num_at {l : List UInt8} (h : (num l).2.2 = 0) : 0 < (num l).2.1 ∧ (num l).2.1 ≤ l.length ∧ (num l).2.1 ≤ 10 := by
  have := numGo_at l 0 0 (by omega) h
  unfold num
  omega
theorem numGo_back : ∀ (l : List UInt8) (i acc : Nat), (numGo i acc l).2.2 = 0 → ∃ x, numGo i acc l = (acc + x * 128 ^ i, i + (put x).length, 0) ∧ l.take (put x).length = put x ∧ (0 < i → 0 < x)
  | [], i, acc, h => by simp [numGo] at h
  | g :: r, i, acc, h => by
    by_cases h1 : i = 9 ∧ 1 < g.toNat
    · rw [go_long h1] at h; cases h
    · by_cases h2 : 0 < i ∧ g.toNat = 0
      · rw [go_min h1 h2] at h; cases h
      · by_cases h3 : g.toNat < 128
        · rw [go_last h1 h2 h3]
          have hp : put g.toNat = [g] := by rw [put_lt h3, UInt8.ofNat_toNat]
          refine ⟨g.toNat, ?_, ?_, fun hi => by omega⟩
          · rw [hp, Nat.mod_eq_of_lt h3]; rfl
          · rw [hp]; rfl
        · rw [go_next h1 h2 h3] at h ⊢
          obtain ⟨x, e, ht, hx⟩ := numGo_back r (i + 1) _ h
          have hx0 := hx (by omega)
          have hg := g.toNat_lt
          have hge : ¬ (g.toNat % 128 + 128 * x) < 128 := by omega
          have hd : (g.toNat % 128 + 128 * x) / 128 = x := by omega
          have hb : pb (g.toNat % 128 + 128 * x) = g := by
            unfold pb
            apply UInt8.toNat_inj.1
            rw [UInt8.toNat_ofNat']
            omega
          have hp : put (g.toNat % 128 + 128 * x) = g :: put x := by rw [put_ge hge, hd, hb]
          refine ⟨g.toNat % 128 + 128 * x, ?_, ?_, fun _ => by omega⟩
          · rw [e, hp]
            have e2 : acc + g.toNat % 128 * 128 ^ i + x * 128 ^ (i + 1) = acc + (g.toNat % 128 + 128 * x) * 128 ^ i := by
              rw [Nat.pow_succ, Nat.add_mul, Nat.add_assoc]
              congr 2
              rw [Nat.mul_comm (128 ^ i) 128, ← Nat.mul_assoc, Nat.mul_comm x 128]
            rw [e2, List.length_cons]
            simp only [Prod.mk.injEq, true_and, and_true]
            omega
          · rw [hp, List.length_cons, List.take_succ_cons, ht]
theorem num_back {l : List UInt8} (h : (num l).2.2 = 0) : l.take (num l).2.1 = put (num l).1 ∧ (num l).2.1 = (put (num l).1).length := by
  obtain ⟨x, e, ht, _⟩ := numGo_back l 0 0 h
  have e' : num l = (x, (put x).length, 0) := by
    unfold num
    rw [e, Nat.pow_zero, Nat.mul_one, Nat.zero_add, Nat.zero_add]
  rw [e']
  exact ⟨ht, rfl⟩
end Go.Proofs.YtdnmgemjhpkekaaGreatDoor
