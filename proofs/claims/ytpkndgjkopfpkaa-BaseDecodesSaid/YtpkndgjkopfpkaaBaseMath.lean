/-
  Plain facts on the texts of bytes: a text that is decoded is the text of its bytes.
-/
import Derived.Test.YtpkndgjkopfpkaaDecode
namespace Go.Proofs.Ytpkndgjkopfpkaa
open Go.RowKit

theorem sgn_valI (c : UInt8) (h : 0 ≤ valI c) : sgn (valI c).toNat = c := by
  have hh : ∀ n : Fin 256, (decide (valI (UInt8.ofNat n.val) < 0) || (sgn (valI (UInt8.ofNat n.val)).toNat == UInt8.ofNat n.val)) = true := by decide +kernel
  have hc : UInt8.ofNat c.toNat = c := UInt8.ofNat_toNat
  have := hh ⟨c.toNat, c.toNat_lt⟩
  simp only [hc, Bool.or_eq_true, decide_eq_true_eq, beq_iff_eq] at this
  rcases this with h1 | h1
  · omega
  · exact h1

theorem runS_ok (l : List UInt8) : okS (runS l).2.1 (runS l).2.2 := by
  have h : ∀ (n : Nat) (l : List UInt8), l.length = n → okS (runS l).2.1 (runS l).2.2 := by
    intro n
    induction n with
    | zero => intro l h; obtain rfl := List.eq_nil_of_length_eq_zero h; exact .inl ⟨rfl, by decide⟩
    | succ n ih =>
      intro l h
      obtain ⟨l', x, rfl⟩ : ∃ l' x, l = l' ++ [x] := by
        have hne : l ≠ [] := by intro e; rw [e] at h; simp at h
        exact ⟨l.dropLast, l.getLast hne, (List.dropLast_concat_getLast hne).symm⟩
      rw [runS_snoc]
      exact okS_step (ih l' (by simpa using h))
  exact h l.length l rfl

theorem byt_nat {n : Nat} (h : n < 256) : (byt n).toNat = n := by unfold byt; rw [UInt8.toNat_ofNat']; omega

/-- What the text p so far, the bytes acc so far and the bits that are held have to do with each other. -/
def Inv (p acc : List UInt8) (b s : Nat) : Prop :=
  (s = 0 ∧ b = 0 ∧ (runS acc).2.2 = 0 ∧ (runS acc).2.1 = 0 ∧ p = (runS acc).1) ∨
  (s = 6 ∧ b < 64 ∧ (runS acc).2.2 = 0 ∧ (runS acc).2.1 = 0 ∧ p = (runS acc).1 ++ [sgn b]) ∨
  (s = 4 ∧ b < 16 ∧ (runS acc).2.2 = 2 ∧ (runS acc).2.1 < 4 ∧ p = (runS acc).1 ++ [sgn ((runS acc).2.1 * 16 + b)]) ∨
  (s = 2 ∧ b < 4 ∧ (runS acc).2.2 = 4 ∧ (runS acc).2.1 < 16 ∧ p = (runS acc).1 ++ [sgn ((runS acc).2.1 * 4 + b)])

theorem Inv.step {p acc : List UInt8} {b s v : Nat} (h : Inv p acc b s) (hv : v < 64) : Inv (p ++ [sgn v]) (acc ++ (stB b s v).1) (stB b s v).2.1 (stB b s v).2.2 := by
  rcases h with ⟨rfl, rfl, h1, h2, rfl⟩ | ⟨rfl, hb, h1, h2, rfl⟩ | ⟨rfl, hb, h1, h2, rfl⟩ | ⟨rfl, hb, h1, h2, rfl⟩
  · right; left
    simp only [stB, if_true, List.append_nil]
    exact ⟨by trivial, by omega, h1, h2, by simp⟩
  · right; right; left
    have e : stB b 6 v = ([byt ((b * 64 + v) / 16)], (b * 64 + v) % 16, 4) := rfl
    have hx : (byt ((b * 64 + v) / 16)).toNat = (b * 64 + v) / 16 := byt_nat (by omega)
    rw [e]
    simp only [runS_snoc, stepS]
    rw [h1, h2, hx]
    have e2 : stS 0 0 ((b * 64 + v) / 16) = ([sgn ((0 * 256 + (b * 64 + v) / 16) / 4)], (0 * 256 + (b * 64 + v) / 16) % 4, 2) := rfl
    rw [e2]
    refine ⟨by trivial, by omega, by trivial, Nat.mod_lt _ (by decide), ?_⟩
    rw [show (0 * 256 + (b * 64 + v) / 16) / 4 = b from by omega, show (0 * 256 + (b * 64 + v) / 16) % 4 * 16 + (b * 64 + v) % 16 = v from by omega]
  · right; right; right
    have e : stB b 4 v = ([byt ((b * 64 + v) / 4)], (b * 64 + v) % 4, 2) := rfl
    have hx : (byt ((b * 64 + v) / 4)).toNat = (b * 64 + v) / 4 := byt_nat (by omega)
    rw [e]
    simp only [runS_snoc, stepS]
    rw [h1, hx]
    generalize (runS acc).2.1 = b' at *
    have e2 : stS b' 2 ((b * 64 + v) / 4) = ([sgn ((b' * 256 + (b * 64 + v) / 4) / 16)], (b' * 256 + (b * 64 + v) / 4) % 16, 4) := rfl
    rw [e2]
    refine ⟨by trivial, by omega, by trivial, Nat.mod_lt _ (by decide), ?_⟩
    rw [show (b' * 256 + (b * 64 + v) / 4) / 16 = b' * 16 + b from by omega, show (b' * 256 + (b * 64 + v) / 4) % 16 * 4 + (b * 64 + v) % 4 = v from by omega]
  · left
    have e : stB b 2 v = ([byt (b * 64 + v)], 0, 0) := rfl
    have hx : (byt (b * 64 + v)).toNat = b * 64 + v := byt_nat (by omega)
    rw [e]
    simp only [runS_snoc, stepS]
    rw [h1, hx]
    generalize (runS acc).2.1 = b' at *
    have e2 : stS b' 4 (b * 64 + v) = ([sgn ((b' * 256 + (b * 64 + v)) / 64), sgn ((b' * 256 + (b * 64 + v)) % 64)], 0, 0) := rfl
    rw [e2]
    refine ⟨by trivial, by trivial, by trivial, by trivial, ?_⟩
    rw [show (b' * 256 + (b * 64 + v)) / 64 = b' * 4 + b from by omega, show (b' * 256 + (b * 64 + v)) % 64 = v from by omega]
    simp

theorem Inv.fin {p acc : List UInt8} {b s : Nat} (h : Inv p acc b s) (hg : ¬ (6 ≤ s ∨ b ≠ 0)) : enc acc = p := by
  unfold enc
  rcases h with ⟨rfl, rfl, h1, h2, rfl⟩ | ⟨rfl, hb, h1, h2, rfl⟩ | ⟨rfl, hb, h1, h2, rfl⟩ | ⟨rfl, hb, h1, h2, rfl⟩
  · rw [if_pos h1]
  · omega
  · obtain rfl : b = 0 := by omega
    rw [h1, if_neg (by omega)]
    simp
  · obtain rfl : b = 0 := by omega
    rw [h1, if_neg (by omega)]
    simp

theorem decGo_enc : ∀ (r p acc : List UInt8) (i b s : Nat), Inv p acc b s → (decGo r i acc b s).2 < 0 → 0 ≤ i → (r = [] → p ≠ [] → 1 ≤ i) → enc (decGo r i acc b s).1 = p ++ r := by
  intro r
  induction r with
  | nil =>
    intro p acc i b s hI hd _ hi
    unfold decGo at hd ⊢
    by_cases hg : 6 ≤ s ∨ b ≠ 0
    · rw [if_pos hg] at hd
      exfalso
      have hp : p ≠ [] := by
        rcases hI with ⟨rfl, rfl, _⟩ | ⟨_, _, _, _, rfl⟩ | ⟨_, _, _, _, rfl⟩ | ⟨_, _, _, _, rfl⟩
        · omega
        · simp
        · simp
        · simp
      have := hi rfl hp
      simp only at hd; omega
    · rw [if_neg hg]
      simpa using hI.fin hg
  | cons c r ih =>
    intro p acc i b s hI hd _ _
    unfold decGo at hd ⊢
    by_cases hv : valI c < 0
    · rw [if_pos hv] at hd
      simp only at hd; omega
    · rw [if_neg hv] at hd ⊢
      have hbd := valI_bd c
      have hst := hI.step (v := (valI c).toNat) (by omega)
      rw [sgn_valI c (by omega)] at hst
      have := ih (p ++ [c]) _ (i + 1) _ _ hst hd (by omega) (fun _ _ => by omega)
      rw [this]; simp

/-- A text that is decoded is the text of its bytes. -/
theorem dec_enc (l : List UInt8) (h : (dec l).2 < 0) : enc (dec l).1 = l := by
  have := decGo_enc l [] [] 0 0 0 (.inl ⟨rfl, rfl, rfl, rfl, rfl⟩) h (by omega) (fun _ h => absurd rfl h)
  rw [List.nil_append] at this
  exact this
end Go.Proofs.Ytpkndgjkopfpkaa
