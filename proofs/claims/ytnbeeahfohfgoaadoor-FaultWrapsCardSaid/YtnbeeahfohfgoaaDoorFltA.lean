/-
  vestryref02.Decimal is the decimal numeral.
-/
import Derived.Test.YtnbeeahfohfgoaaDoorRows
import Derived.Test.YtnbeeahfohfgoaaDoorPlain
import Derived.Test.YtnbeeahfohfgoaaDoorShelf
import Derived.WalkKit
import Derived.ProofKit
import Derived.OpenShut
import Derived.Below
import Derived.Lib.Hide
import Derived.WalkLawsBesides
import Derived.WalkSpells
import Derived.RegionTactic
import Derived.BigRegion
import Derived.Deep.QuietTactic
import Derived.BigQuiet
namespace Go.Proofs.YtnbeeahfohfgoaaDoor
open Go.ChangeShapes Go.WideShapes Go.ChangeAt Go.RowKit
set_option linter.unusedVariables false

def dec (n : Int) : ByteArray := ⟨(Lib.itoa n).toArray⟩
def digitsS : ByteArray := ⟨#[48, 49, 50, 51, 52, 53, 54, 55, 56, 57]⟩
theorem dec_low {n : Int} (h : n < -9) : dec n = dec (n.tdiv 10) ++ dec (-(n.tmod 10)) := by
  obtain ⟨m, rfl⟩ : ∃ m : Nat, n = -(m : Int) := ⟨n.natAbs, by omega⟩
  have hm : ¬ m < 10 := by omega
  have e1 : (-(m : Int)).tdiv 10 = -((m / 10 : Nat) : Int) := by rw [Int.neg_tdiv]; rfl
  have e2 : -((-(m : Int)).tmod 10) = ((m % 10 : Nat) : Int) := by rw [Int.neg_tmod]; simp; rfl
  rw [e1, e2]
  unfold dec Lib.itoa
  rw [if_pos (by omega), if_pos (by omega), if_neg (by omega)]
  have a1 : (-(m : Int)).natAbs = m := by omega
  have a2 : (-((m / 10 : Nat) : Int)).natAbs = m / 10 := by omega
  rw [a1, a2, Int.toNat_natCast]
  rw [Lib.decDigits, dif_neg hm]
  have a3 : Lib.decDigits (m % 10) = [UInt8.ofNat (48 + m % 10)] := by rw [Lib.decDigits, dif_pos (by omega)]
  rw [a3]
  apply ByteArray.ext
  simp
theorem dec_neg {n : Int} (h1 : n < 0) : dec n = ⟨#[45]⟩ ++ dec (-n) := by
  unfold dec Lib.itoa
  rw [if_pos h1, if_neg (by omega)]
  have a1 : (-n).toNat = n.natAbs := by omega
  rw [a1]
  apply ByteArray.ext
  simp
theorem dec_digit {n : Nat} (h : n < 10) : dec n = ⟨#[UInt8.ofNat (48 + n)]⟩ := by
  unfold dec Lib.itoa
  rw [if_neg (by omega), Int.toNat_natCast, Lib.decDigits, dif_pos h]
theorem dec_big {n : Nat} (h : ¬ n < 10) : dec n = dec ((n / 10 : Nat) : Int) ++ ⟨#[UInt8.ofNat (48 + n % 10)]⟩ := by
  unfold dec Lib.itoa
  rw [if_neg (by omega), if_neg (by omega), Int.toNat_natCast, Int.toNat_natCast, Lib.decDigits, dif_neg h]
  apply ByteArray.ext
  simp
theorem digit_cut {n : Nat} (h : n < 10) : digitsS.extract n (n + 1) = ⟨#[UInt8.ofNat (48 + n)]⟩ := by
  have : ∀ k : Fin 10, digitsS.extract k.val (k.val + 1) = ⟨#[UInt8.ofNat (48 + k.val)]⟩ := by decide +kernel
  exact this ⟨n, h⟩

theorem dig_len : ∀ (k u : Nat), u < 10 ^ (k + 1) → (Lib.decDigits u).length ≤ k + 1
  | 0, u, h => by rw [Lib.decDigits, dif_pos (by omega)]; simp
  | k + 1, u, h => by
    by_cases hu : u < 10
    · rw [Lib.decDigits, dif_pos hu]; simp
    · rw [Lib.decDigits, dif_neg hu, List.length_append]
      have := dig_len k (u / 10) (by rw [Nat.div_lt_iff_lt_mul (by omega), ← Nat.pow_succ]; exact h)
      simp; omega
theorem dec_size {n : Int} (hl : -9223372036854775808 ≤ n) (hh : n ≤ 9223372036854775807) : (dec n).size ≤ 20 := by
  show (Lib.itoa n).toArray.size ≤ 20
  rw [List.size_toArray]
  unfold Lib.itoa
  split
  · have := dig_len 18 n.natAbs (by omega)
    rw [List.length_cons]; omega
  · have := dig_len 18 n.toNat (by omega)
    omega
theorem cat_ok {a b : Nat} (ha : a ≤ 20) (hb : b ≤ 20) : ¬ 9223372036854775807 < a + b := by omega

theorem tdiv_neg (p : Nat) : (-(p : Int)).tdiv 10 = -((p / 10 : Nat) : Int) := by rw [Int.neg_tdiv]; rfl
theorem tmod_neg (p : Nat) : -((-(p : Int)).tmod 10) = ((p % 10 : Nat) : Int) := by rw [Int.neg_tmod]; simp; rfl
theorem tdiv_pos (p : Nat) : (p : Int).tdiv 10 = ((p / 10 : Nat) : Int) := rfl
theorem tmod_pos (p : Nat) : (p : Int).tmod 10 = ((p % 10 : Nat) : Int) := rfl

set_option maxRecDepth 100000 in
set_option maxHeartbeats 1000000 in
theorem decimal_digit (k : Nat) (hk : k < 10) (w : World) : Calls Tryd.prog 21 #[.int .i64 k] w fun e w' => e = .returned (.string (dec k)) ∧ w = w' := by
  have HD := Lib.hid (dec_digit hk)
  have HC := Lib.hid (digit_cut hk)
  have c1 : ¬ (k : Int) < -9 := by omega
  have c2 : ¬ (k : Int) < 0 := by omega
  have c3 : (k : Int) < 10 := by omega
  go_enter Tryd.func21, Tryd.ntmps21
  go_wp2_with fail
  go_ret
  exact ⟨by rw [HD.out, ← HC.out]; rfl, rfl⟩

set_option maxRecDepth 100000 in
set_option maxHeartbeats 1000000 in
theorem decimal_any : ∀ (m : Nat) (n : Int), n.natAbs < m → -9223372036854775808 ≤ n → n ≤ 9223372036854775807 → ∀ (w : World),
    Calls Tryd.prog 21 #[.int .i64 n] w fun e w' => e = .returned (.string (dec n)) ∧ ∃ d, w' = w.drewN d
  | 0, n, h, _, _, w => absurd h (Nat.not_lt_zero _)
  | m + 1, n, h, hl, hh, w => by
    by_cases c1 : n < -9
    · have HD := Lib.hid (dec_low c1)
      obtain ⟨p, rfl⟩ : ∃ p : Nat, n = -(p : Int) := ⟨n.natAbs, by omega⟩
      have hd : dec (-(p : Int)) = dec (-((p : Int) / 10)) ++ dec ((p : Int) % 10) := by
        have := HD.out
        rw [tdiv_neg, tmod_neg] at this
        exact this
      have H1 := Lib.hid (decimal_any m (-((p : Int) / 10)) (by omega) (by omega) (by omega))
      have H2 : Hid (∀ w : World, Calls Tryd.prog 21 #[.int .i64 ((p : Int) % 10)] w fun e w' => e = .returned (.string (dec ((p : Int) % 10))) ∧ w = w') := decimal_digit (p % 10) (by omega)
      have HX := Lib.hid hd
      have z1 := cat_ok (dec_size (n := -((p : Int) / 10)) (by omega) (by omega)) (dec_size (n := (p : Int) % 10) (by omega) (by omega))
      clear hd HD
      go_enter Tryd.func21, Tryd.ntmps21
      go_wp2_with fail
      refine (H1.out _).mono ?_
      rintro e w1 ⟨rfl, d, rfl⟩
      go_wp2_with fail
      refine (H2.out _).mono ?_
      rintro e w1 ⟨rfl, rfl⟩
      go_wp2_with fail
      go_ret
      exact ⟨by rw [HX.out]; rfl, d, rfl⟩
    · by_cases c2 : n < 0
      · obtain ⟨p, rfl⟩ : ∃ p : Nat, n = -(p : Int) := ⟨n.natAbs, by omega⟩
        have H1 := Lib.hid (decimal_digit p (by omega))
        have HD := Lib.hid (dec_neg c2)
        have E1 : Hid (-(-(p : Int)) = (p : Int)) := Int.neg_neg _
        have z1 := cat_ok (a := 1) (by omega) (dec_size (n := (p : Int)) (by omega) (by omega))
        go_enter Tryd.func21, Tryd.ntmps21
        go_wp2_with fail
        refine (H1.out _).mono ?_
        rintro e w1 ⟨rfl, rfl⟩
        have HX := HD.out
        rw [E1.out] at HX
        have HY := Lib.hid HX
        clear HX
        go_wp2_with fail
        go_ret
        exact ⟨by rw [HY.out]; rfl, 0, rfl⟩
      · obtain ⟨k, rfl⟩ : ∃ k : Nat, n = k := ⟨n.toNat, by omega⟩
        by_cases c3 : k < 10
        · exact (decimal_digit k c3 w).mono fun e w' ⟨h1, h2⟩ => ⟨h1, 0, h2.symm⟩
        · have H1 : Hid (∀ w : World, Calls Tryd.prog 21 #[.int .i64 ((k : Int) / 10)] w fun e w' => e = .returned (.string (dec ((k : Int) / 10))) ∧ ∃ d, w' = w.drewN d) := decimal_any m ((k / 10 : Nat) : Int) (by omega) (by omega) (by omega)
          have HD := Lib.hid (dec_big c3)
          have HC := Lib.hid (digit_cut (n := k % 10) (by omega))
          have c4 : ¬ (k : Int) < 10 := by omega
          have z1 := cat_ok (b := 1) (dec_size (n := (k : Int) / 10) (by omega) (by omega)) (by omega)
          have g1 : (0 : Int) ≤ (k : Int) % 10 := by omega
          have g2 : (k : Int) % 10 + 1 ≤ 10 := by omega
          go_enter Tryd.func21, Tryd.ntmps21
          go_wp2_with fail
          go_quiet ((go_at_call 21; exact Calls.quiet_of (H1.out _)))
          go_wp2_with fail
          go_ret
          refine ⟨?_, nq, rfl⟩
          have e : dec (k : Int) = dec ((k : Int) / 10) ++ digitsS.extract (k % 10) (k % 10 + 1) := by rw [HC.out]; exact HD.out
          rw [e]; rfl
end Go.Proofs.YtnbeeahfohfgoaaDoor
