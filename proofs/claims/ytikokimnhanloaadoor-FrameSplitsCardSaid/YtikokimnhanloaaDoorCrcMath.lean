/-
  The register of CRC-32 on natural numbers: it is linear, it loses nothing, and eight bits at once are one byte; no program is spoken of.
-/
import Derived.WalkKit
import Derived.Laws.BitsAllLaws
import Derived.Test.YtikokimnhanloaaDoorPlain
namespace Go.Proofs.YtikokimnhanloaaDoor

def lim32 : Nat := 4294967296
def gen : Nat := 3988292384
/-- One step of the register, without a bit. -/
def tt (y : Nat) : Nat := (y / 2) ^^^ (if y % 2 = 1 then gen else 0)
def tn : Nat → Nat → Nat
  | 0, y => y
  | n + 1, y => tn n (tt y)
theorem xor_lt32 {a b : Nat} (ha : a < lim32) (hb : b < lim32) : a ^^^ b < lim32 := Nat.xor_lt_two_pow (n := 32) ha hb
theorem gen_lt : gen < lim32 := by decide
theorem tt_lt {y : Nat} (h : y < lim32) : tt y < lim32 := by
  unfold tt
  apply xor_lt32
  · unfold lim32 at *; omega
  · split
    · exact gen_lt
    · decide
theorem xor_mod2 (a b : Nat) : (a ^^^ b) % 2 = (a % 2 + b % 2) % 2 := by
  have h := Nat.testBit_xor a b 0
  simp only [Nat.testBit_zero] at h
  rcases Nat.mod_two_eq_zero_or_one a with ha | ha <;> rcases Nat.mod_two_eq_zero_or_one b with hb | hb <;> rcases Nat.mod_two_eq_zero_or_one (a ^^^ b) with hc | hc <;> simp [ha, hb, hc] at h ⊢
theorem xor_div2 (a b : Nat) : (a ^^^ b) / 2 = (a / 2) ^^^ (b / 2) := by
  have := Nat.shiftRight_xor_distrib (a := a) (b := b) (i := 1)
  simpa [Nat.shiftRight_eq_div_pow] using this
theorem tt_xor (a b : Nat) : tt (a ^^^ b) = tt a ^^^ tt b := by
  unfold tt
  rw [xor_div2, xor_mod2]
  rcases Nat.mod_two_eq_zero_or_one a with ha | ha <;> rcases Nat.mod_two_eq_zero_or_one b with hb | hb <;> simp [ha, hb]
  · rw [Nat.xor_assoc]
  · rw [Nat.xor_assoc, Nat.xor_assoc, Nat.xor_comm gen]
  · rw [Nat.xor_assoc, ← Nat.xor_assoc gen, Nat.xor_comm gen, Nat.xor_assoc (b / 2), Nat.xor_self, Nat.xor_zero]
theorem tn_xor : ∀ (n a b : Nat), tn n (a ^^^ b) = tn n a ^^^ tn n b
  | 0, _, _ => rfl
  | n + 1, a, b => by show tn n (tt (a ^^^ b)) = _; rw [tt_xor, tn_xor n]; rfl
theorem tt_double (y : Nat) : tt (2 * y) = y := by
  unfold tt
  have h1 : 2 * y / 2 = y := by omega
  have h2 : ¬ 2 * y % 2 = 1 := by omega
  rw [h1, if_neg h2, Nat.xor_zero]
theorem tn_shift : ∀ (n y : Nat), tn n (2 ^ n * y) = y
  | 0, y => by simp [tn]
  | n + 1, y => by
    show tn n (tt (2 ^ (n + 1) * y)) = y
    rw [Nat.pow_succ, Nat.mul_comm (2 ^ n) 2, Nat.mul_assoc, tt_double, tn_shift n]
theorem tt_zero : tt 0 = 0 := by decide
theorem tn_zero : ∀ n, tn n 0 = 0
  | 0 => rfl
  | n + 1 => by show tn n (tt 0) = 0; rw [tt_zero, tn_zero n]
theorem tt_ne {y : Nat} (h : y < lim32) (h0 : y ≠ 0) : tt y ≠ 0 := by
  unfold tt
  intro e
  split at e
  · have e2 : y / 2 = gen := by
      have := congrArg (· ^^^ gen) e
      simpa [Nat.xor_assoc] using this
    unfold lim32 at h; unfold gen at e2; omega
  · rw [Nat.xor_zero] at e; omega
theorem tn_lt : ∀ (n : Nat) {y : Nat}, y < lim32 → tn n y < lim32
  | 0, _, h => h
  | n + 1, _, h => tn_lt n (tt_lt h)
theorem tn_ne : ∀ (n : Nat) {y : Nat}, y < lim32 → y ≠ 0 → tn n y ≠ 0
  | 0, _, _, h0 => h0
  | n + 1, _, h, h0 => tn_ne n (tt_lt h) (tt_ne h h0)
theorem tn_inj {n a b : Nat} (ha : a < lim32) (hb : b < lim32) (h : tn n a = tn n b) : a = b := by
  apply Classical.byContradiction
  intro hne
  refine tn_ne n (xor_lt32 ha hb) ?_ (by rw [tn_xor, h, Nat.xor_self])
  intro e
  apply hne
  have := congrArg (· ^^^ b) e
  simpa [Nat.xor_assoc] using this
theorem tn_add : ∀ (m n y : Nat), tn (m + n) y = tn n (tn m y)
  | 0, n, y => by rw [Nat.zero_add]; rfl
  | m + 1, n, y => by rw [Nat.add_right_comm]; show tn (m + n) (tt y) = tn n (tn m (tt y)); exact tn_add m n (tt y)

/-- The register takes a bit in. -/
def stp (r b : Nat) : Nat := tt (r ^^^ b)
def run (r : Nat) (bs : List Nat) : Nat := bs.foldl stp r
/-- The lowest n bits, the lowest first. -/
def lowb : Nat → Nat → List Nat
  | 0, _ => []
  | n + 1, v => v % 2 :: lowb n (v / 2)
theorem lowb_len : ∀ n v, (lowb n v).length = n
  | 0, _ => rfl
  | n + 1, v => by simp [lowb, lowb_len n]
theorem split2 (x : Nat) : x = (x % 2) ^^^ (2 * (x / 2)) := by
  have h := Nat.two_pow_add_eq_or_of_lt (i := 1) (b := x % 2) (by omega) (x / 2)
  apply Nat.eq_of_testBit_eq
  intro i
  rw [Nat.testBit_xor]
  cases i with
  | zero =>
    simp only [Nat.testBit_zero]
    rcases Nat.mod_two_eq_zero_or_one x with hx | hx <;> simp [hx]
  | succ i =>
    rw [Nat.testBit_succ, Nat.testBit_succ, Nat.testBit_succ]
    have h1 : x % 2 / 2 = 0 := by omega
    have h2 : 2 * (x / 2) / 2 = x / 2 := by omega
    rw [h1, h2]; simp
theorem run_lowb : ∀ (n x r : Nat), x < 2 ^ n → run r (lowb n x) = tn n (r ^^^ x)
  | 0, x, r, h => by
    have : x = 0 := by simpa using h
    subst this; simp [run, lowb, tn]
  | n + 1, x, r, h => by
    show run (tt (r ^^^ (x % 2))) (lowb n (x / 2)) = tn n (tt (r ^^^ x))
    rw [run_lowb n (x / 2) _ (by rw [Nat.pow_succ] at h; omega)]
    congr 1
    conv => rhs; rw [split2 x, ← Nat.xor_assoc, tt_xor, tt_double]
theorem run_append (r : Nat) (a b : List Nat) : run r (a ++ b) = run (run r a) b := List.foldl_append
theorem run_lt : ∀ (bs : List Nat) {r : Nat}, r < lim32 → (∀ b ∈ bs, b < 2) → run r bs < lim32
  | [], _, h, _ => h
  | b :: bs, r, h, hb => run_lt bs (tt_lt (xor_lt32 h (Nat.lt_of_lt_of_le (hb b (by simp)) (by decide)))) (fun c hc => hb c (by simp [hc]))
theorem lowb_lt : ∀ (n v : Nat), ∀ b ∈ lowb n v, b < 2
  | 0, _, b, h => by cases h
  | n + 1, v, b, h => by
    rcases List.mem_cons.1 h with h | h
    · omega
    · exact lowb_lt n _ b h
/-- The bits of bytes, in the order of the checksum. -/
def bitl (l : List UInt8) : List Nat := l.flatMap fun x => lowb 8 x.toNat
theorem bitl_append (a b : List UInt8) : bitl (a ++ b) = bitl a ++ bitl b := by simp [bitl]
theorem bitl_len (l : List UInt8) : (bitl l).length = 8 * l.length := by
  induction l with
  | nil => rfl
  | cons x l ih => simp only [bitl, List.flatMap_cons, List.length_append, lowb_len, List.length_cons] at ih ⊢; omega
theorem bitl_lt (l : List UInt8) : ∀ b ∈ bitl l, b < 2 := by
  intro b h
  simp only [bitl, List.mem_flatMap] at h
  obtain ⟨x, _, hx⟩ := h
  exact lowb_lt 8 _ b hx
/-- The register after bytes. -/
def reg (r : Nat) (l : List UInt8) : Nat := run r (bitl l)
theorem reg_nil (r : Nat) : reg r [] = r := rfl
theorem reg_append (r : Nat) (a b : List UInt8) : reg r (a ++ b) = reg (reg r a) b := by unfold reg; rw [bitl_append, run_append]
theorem reg_snoc (r : Nat) (a : List UInt8) (x : UInt8) : reg r (a ++ [x]) = tn 8 (reg r a ^^^ x.toNat) := by
  rw [reg_append]
  show run (reg r a) (lowb 8 x.toNat ++ []) = _
  rw [List.append_nil, run_lowb 8 _ _ (by have := x.toNat_lt; omega)]
theorem reg_lt (r : Nat) (l : List UInt8) (h : r < lim32) : reg r l < lim32 := run_lt _ h (bitl_lt l)
def ones : Nat := 4294967295
theorem ones_lt : ones < lim32 := by decide
/-- The checksum. -/
def crc (l : List UInt8) : Nat := ones - reg ones l
theorem crc_lt (l : List UInt8) : crc l < lim32 := by unfold crc; have := ones_lt; omega

theorem ones_xor (c : Nat) (hc : c < lim32) : ones ^^^ c = ones - c := by
  apply Nat.eq_of_testBit_eq
  intro i
  have h1 : ones = 2 ^ 32 - 1 := by decide
  have h2 : ones - c = 2 ^ 32 - (c + 1) := by unfold lim32 at hc; unfold ones; omega
  rw [Nat.testBit_xor, h2, Nat.testBit_two_pow_sub_succ (by exact hc), h1, Nat.testBit_two_pow_sub_one]
  by_cases hi : i < 32
  · simp [hi]
  · have : c.testBit i = false := Nat.testBit_lt_two_pow (Nat.lt_of_lt_of_le hc (Nat.pow_le_pow_right (n := 2) (by decide) (show 32 ≤ i by omega)))
    simp [hi, this]
theorem ones_sub {c : Nat} (hc : c < lim32) : ones - (ones - c) = c := by unfold lim32 at hc; unfold ones; omega
/-- A byte at once, as the program does it. -/
theorem byte_step (r x : Nat) : tn 8 (r ^^^ x) = (r / 256) ^^^ tn 8 ((r % 256) ^^^ x) := by
  have e : r = (2 ^ 8 * (r / 256)) ^^^ (r % 256) := by
    have h1 := Nat.two_pow_add_eq_or_of_lt (i := 8) (b := r % 256) (by omega) (r / 256)
    have h2 : (2 ^ 8 * (r / 256)) ||| (r % 256) = (2 ^ 8 * (r / 256)) ^^^ (r % 256) := by
      apply Nat.eq_of_testBit_eq
      intro i
      rw [Nat.testBit_or, Nat.testBit_xor, Nat.testBit_two_pow_mul]
      by_cases hi : 8 ≤ i
      · have : (r % 256).testBit i = false := Nat.testBit_lt_two_pow (Nat.lt_of_lt_of_le (show r % 256 < 2 ^ 8 by omega) (Nat.pow_le_pow_right (by decide) hi))
        simp [this]
      · simp [hi]
    rw [← h2, ← h1]; omega
  conv => lhs; rw [e, Nat.xor_assoc, tn_xor, tn_shift]

/-- A step bit by bit, as the reference does it. -/
theorem stp_bit (r b : Nat) (hb : b < 2) : stp r b = if (r % 2) ^^^ b = 1 then (r / 2) ^^^ gen else r / 2 := by
  unfold stp tt
  rw [xor_div2, xor_mod2]
  have h1 : b / 2 = 0 := by omega
  have hb2 : b = 0 ∨ b = 1 := by omega
  rw [h1, Nat.xor_zero]
  rcases Nat.mod_two_eq_zero_or_one r with h | h <;> rcases hb2 with rfl | rfl <;> simp [h]
end Go.Proofs.YtikokimnhanloaaDoor
