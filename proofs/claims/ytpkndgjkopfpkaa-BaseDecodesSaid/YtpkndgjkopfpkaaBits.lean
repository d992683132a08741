/-
  Plain facts: the signs of bytes are groups of six of their bits, and what is decoded from them is the bytes.
-/
import Derived.Test.YtpkndgjkopfpkaaInts
namespace Go.Proofs.Ytpkndgjkopfpkaa
open Go.RowKit

def bitsOf (l : List UInt8) : List Nat := l.flatMap fun x => bitsN 8 x.toNat
def six (gs : List Nat) : List Nat := gs.flatMap (bitsN 6)
theorem bitsOf_snoc (l : List UInt8) (x : UInt8) : bitsOf (l ++ [x]) = bitsOf l ++ bitsN 8 x.toNat := by simp [bitsOf, List.flatMap_append]
theorem bitsOf_len (l : List UInt8) : (bitsOf l).length = 8 * l.length := by
  induction l with
  | nil => rfl
  | cons x r ih => simp only [bitsOf, List.flatMap_cons, List.length_append, bitsN_len, List.length_cons] at ih ⊢; omega
theorem six_snoc (gs : List Nat) (g : Nat) : six (gs ++ [g]) = six gs ++ bitsN 6 g := by simp [six, List.flatMap_append]
theorem six_len (gs : List Nat) : (six gs).length = 6 * gs.length := by
  induction gs with
  | nil => rfl
  | cons x r ih => simp only [six, List.flatMap_cons, List.length_append, bitsN_len, List.length_cons] at ih ⊢; omega

theorem snoc_ind {α : Type} {P : List α → Prop} (h0 : P []) (h1 : ∀ l x, P l → P (l ++ [x])) : ∀ l, P l := by
  intro l
  have h : ∀ (n : Nat) (l : List α), l.length = n → P l := by
    intro n
    induction n with
    | zero => intro l h; obtain rfl := List.eq_nil_of_length_eq_zero h; exact h0
    | succ n ih =>
      intro l h
      obtain ⟨l', x, rfl⟩ : ∃ l' x, l = l' ++ [x] := by
        have hne : l ≠ [] := by intro e; rw [e] at h; simp at h
        exact ⟨l.dropLast, l.getLast hne, (List.dropLast_concat_getLast hne).symm⟩
      exact h1 l' x (ih l' (by simpa using h))
  exact h l.length l rfl

theorem runS_groups : ∀ l : List UInt8, ∃ gs : List Nat, (∀ g ∈ gs, g < 64) ∧ (runS l).1 = gs.map sgn ∧ bitsOf l = six gs ++ bitsN (runS l).2.2 (runS l).2.1 := by
  refine snoc_ind ⟨[], by simp, rfl, rfl⟩ ?_
  intro l x ⟨gs, h1, h2, h3⟩
  have hok := runS_ok l
  have hx := x.toNat_lt
  rw [bitsOf_snoc, h3, runS_snoc]
  generalize hr : runS l = r at *
  obtain ⟨out, b, s⟩ := r
  simp only at h2 hok ⊢
  subst h2
  rw [List.append_assoc]
  rcases hok with ⟨rfl, hb⟩ | ⟨rfl, hb⟩ | ⟨rfl, hb⟩
  · obtain rfl : b = 0 := by omega
    refine ⟨gs ++ [(0 * 256 + x.toNat) / 4], ?_, ?_, ?_⟩
    · intro g hg; rcases List.mem_append.1 hg with h | h
      · exact h1 g h
      · simp at h; omega
    · simp [stepS, stS]
    · rw [six_snoc, List.append_assoc]
      congr 1
      show bitsN 0 0 ++ bitsN 8 x.toNat = bitsN 6 ((0 * 256 + x.toNat) / 4) ++ bitsN 2 ((0 * 256 + x.toNat) % 4)
      rw [bitsN_cat 0 8 0 x.toNat (by omega)]
      exact bitsN_add 2 6 _
  · refine ⟨gs ++ [(b * 256 + x.toNat) / 16], ?_, ?_, ?_⟩
    · intro g hg; rcases List.mem_append.1 hg with h | h
      · exact h1 g h
      · simp at h; omega
    · simp [stepS, stS]
    · rw [six_snoc, List.append_assoc]
      congr 1
      show bitsN 2 b ++ bitsN 8 x.toNat = bitsN 6 ((b * 256 + x.toNat) / 16) ++ bitsN 4 ((b * 256 + x.toNat) % 16)
      rw [bitsN_cat 2 8 b x.toNat (by omega)]
      exact bitsN_add 4 6 _
  · refine ⟨gs ++ [(b * 256 + x.toNat) / 64] ++ [(b * 256 + x.toNat) % 64], ?_, ?_, ?_⟩
    · intro g hg; rcases List.mem_append.1 hg with h | h
      · rcases List.mem_append.1 h with h | h
        · exact h1 g h
        · simp at h; omega
      · simp at h; omega
    · simp [stepS, stS]
    · rw [six_snoc, six_snoc, List.append_assoc, List.append_assoc]
      congr 1
      show bitsN 4 b ++ bitsN 8 x.toNat = bitsN 6 ((b * 256 + x.toNat) / 64) ++ (bitsN 6 ((b * 256 + x.toNat) % 64) ++ bitsN 0 0)
      rw [bitsN_cat 4 8 b x.toNat (by omega), show bitsN 0 0 = [] from rfl, List.append_nil]
      exact bitsN_add 6 6 _

def padN (n : Nat) : Nat := (6 - n % 6) % 6
theorem bitsN_zero : ∀ n, bitsN n 0 = List.replicate n 0
  | 0 => rfl
  | n + 1 => by rw [bitsN, Nat.zero_div, bitsN_zero n, List.replicate_succ']

theorem enc_groups (l : List UInt8) : ∃ gs : List Nat, (∀ g ∈ gs, g < 64) ∧ enc l = gs.map sgn ∧ bitsOf l ++ List.replicate (padN (8 * l.length)) 0 = six gs := by
  obtain ⟨gs, h1, h2, h3⟩ := runS_groups l
  have hok := runS_ok l
  have hl := bitsOf_len l
  rw [h3, List.length_append, six_len, bitsN_len] at hl
  unfold enc
  rw [h3]
  generalize hr : runS l = r at *
  obtain ⟨out, b, s⟩ := r
  simp only at h2 hok hl ⊢
  subst h2
  rcases hok with ⟨rfl, hb⟩ | ⟨rfl, hb⟩ | ⟨rfl, hb⟩
  · refine ⟨gs, h1, rfl, ?_⟩
    rw [show padN (8 * l.length) = 0 from by unfold padN; omega]
    simp [bitsN]
  · refine ⟨gs ++ [b * 16], ?_, ?_, ?_⟩
    · intro g hg; rcases List.mem_append.1 hg with h | h
      · exact h1 g h
      · simp at h; omega
    · simp
    · rw [show padN (8 * l.length) = 4 from by unfold padN; omega, six_snoc, List.append_assoc, ← bitsN_zero]
      congr 1
      rw [bitsN_cat 2 4 b 0 (by omega)]; rfl
  · refine ⟨gs ++ [b * 4], ?_, ?_, ?_⟩
    · intro g hg; rcases List.mem_append.1 hg with h | h
      · exact h1 g h
      · simp at h; omega
    · simp
    · rw [show padN (8 * l.length) = 2 from by unfold padN; omega, six_snoc, List.append_assoc, ← bitsN_zero]
      congr 1
      rw [bitsN_cat 4 2 b 0 (by omega)]; rfl

theorem enc_len (l : List UInt8) : (enc l).length = (8 * l.length + 5) / 6 := by
  obtain ⟨gs, _, h2, h3⟩ := enc_groups l
  have := congrArg List.length h3
  rw [List.length_append, bitsOf_len, six_len, List.length_replicate] at this
  rw [h2, List.length_map]
  unfold padN at this
  omega
end Go.Proofs.Ytpkndgjkopfpkaa
