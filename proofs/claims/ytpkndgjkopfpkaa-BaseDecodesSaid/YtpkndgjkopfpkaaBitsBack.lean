/-
  Plain facts: what is decoded from the signs of bytes is the bytes.
-/
import Derived.Test.YtpkndgjkopfpkaaBits
namespace Go.Proofs.Ytpkndgjkopfpkaa
open Go.RowKit

theorem valI_sgn (g : Nat) (h : g < 64) : valI (sgn g) = g := by
  have hh : ∀ n : Fin 64, decide (valI (sgn n.val) = n.val) = true := by decide +kernel
  exact of_decide_eq_true (hh ⟨g, h⟩)

theorem bitsN_inj : ∀ (n a b : Nat), a < 2 ^ n → b < 2 ^ n → bitsN n a = bitsN n b → a = b
  | 0, a, b, ha, hb, _ => by omega
  | n + 1, a, b, ha, hb, h => by
    rw [bitsN, bitsN] at h
    have h1 := List.append_inj' h rfl
    have h2 := bitsN_inj n (a / 2) (b / 2) (by omega) (by omega) h1.1
    have h3 : a % 2 = b % 2 := by simpa using h1.2
    omega

theorem bitsOf_inj : ∀ (a b : List UInt8), bitsOf a = bitsOf b → a = b
  | [], [], _ => rfl
  | [], y :: b, h => by have := congrArg List.length h; rw [bitsOf_len, bitsOf_len] at this; simp at this
  | x :: a, [], h => by have := congrArg List.length h; rw [bitsOf_len, bitsOf_len] at this; simp at this
  | x :: a, y :: b, h => by
    simp only [bitsOf, List.flatMap_cons] at h
    have h1 := List.append_inj h (by rw [bitsN_len, bitsN_len])
    have h2 := bitsOf_inj a b h1.2
    have h3 := bitsN_inj 8 _ _ x.toNat_lt y.toNat_lt h1.1
    rw [h2, UInt8.toNat_inj.1 h3]

theorem stB_bits {b s g : Nat} (h : okB b s) (hg : g < 64) : bitsN s b ++ bitsN 6 g = bitsOf (stB b s g).1 ++ bitsN (stB b s g).2.2 (stB b s g).2.1 := by
  have ht : ∀ n : Nat, n < 256 → bitsOf [byt n] = bitsN 8 n := by
    intro n hn
    simp [bitsOf, byt_nat hn]
  rw [bitsN_cat s 6 b g hg]
  rcases h with ⟨rfl, h⟩ | ⟨rfl, h⟩ | ⟨rfl, h⟩ | ⟨rfl, h⟩
  · rfl
  · show _ = bitsOf [byt (b * 64 + g)] ++ bitsN 0 0
    rw [ht _ (by omega), show bitsN 0 0 = [] from rfl, List.append_nil]
  · show _ = bitsOf [byt ((b * 64 + g) / 4)] ++ bitsN 2 ((b * 64 + g) % 4)
    rw [ht _ (by omega)]
    exact bitsN_add 2 8 _
  · show _ = bitsOf [byt ((b * 64 + g) / 16)] ++ bitsN 4 ((b * 64 + g) % 16)
    rw [ht _ (by omega)]
    exact bitsN_add 4 8 _

theorem decGo_back (l : List UInt8) (all : List Nat) (hall : bitsOf l ++ List.replicate (padN (8 * l.length)) 0 = six all) :
    ∀ (r p : List Nat) (acc : List UInt8) (i b s : Nat), p ++ r = all → (∀ g ∈ r, g < 64) → okB b s → six p = bitsOf acc ++ bitsN s b → decGo (r.map sgn) i acc b s = (l, -1)
  | [], p, acc, i, b, s, hp, _, hok, hb => by
    rw [List.append_nil] at hp
    subst hp
    rw [hb] at hall
    have hlen := congrArg List.length hall
    rw [List.length_append, List.length_append, bitsOf_len, bitsOf_len, bitsN_len, List.length_replicate] at hlen
    have hs : s = padN (8 * l.length) := by unfold padN at hlen ⊢; rcases hok with ⟨rfl, _⟩ | ⟨rfl, _⟩ | ⟨rfl, _⟩ | ⟨rfl, _⟩ <;> omega
    have hap := List.append_inj hall (by rw [bitsOf_len, bitsOf_len]; omega)
    have h1 := bitsOf_inj _ _ hap.1
    have hbs : b < 2 ^ s := by rcases hok with ⟨rfl, _⟩ | ⟨rfl, _⟩ | ⟨rfl, _⟩ | ⟨rfl, _⟩ <;> omega
    have h2 : b = 0 := by
      refine bitsN_inj s b 0 hbs (Nat.two_pow_pos s) ?_
      rw [← hap.2, bitsN_zero, hs]
    have h3 : s < 6 := by rw [hs]; unfold padN; omega
    subst h1
    show (if 6 ≤ s ∨ b ≠ 0 then _ else _) = _
    rw [if_neg (by omega)]
  | g :: r, p, acc, i, b, s, hp, hr, hok, hb => by
    have hg := hr g List.mem_cons_self
    show (if valI (sgn g) < 0 then _ else _) = _
    rw [valI_sgn g hg, if_neg (by omega), Int.toNat_natCast]
    refine decGo_back l all hall r (p ++ [g]) _ (i + 1) _ _ (by rw [List.append_assoc]; exact hp) (fun x hx => hr x (List.mem_cons_of_mem _ hx)) (okB_step hok hg) ?_
    rw [six_snoc, hb, List.append_assoc, stB_bits hok hg, ← List.append_assoc]
    congr 1
    simp [bitsOf, List.flatMap_append]

theorem dec_enc_back (l : List UInt8) : dec (enc l) = (l, -1) := by
  obtain ⟨gs, h1, h2, h3⟩ := enc_groups l
  rw [h2]
  exact decGo_back l gs h3 gs [] [] 0 0 0 rfl h1 (Or.inl ⟨rfl, by omega⟩) rfl
end Go.Proofs.Ytpkndgjkopfpkaa
