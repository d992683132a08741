/-
  The register over functions of bits: linear; a burst is never lost; the long division of the definition is the register. No program is spoken of.
-/
import Derived.Test.YtikokimnhanloaaDoorCrcMath
namespace Go.Proofs.YtikokimnhanloaaDoor

/-- The register after n bits, that of place a first. -/
def rf (f : Nat → Nat) : Nat → Nat → Nat → Nat
  | 0, r, _ => r
  | n + 1, r, a => rf f n (stp r (f a)) (a + 1)
theorem rf_list (f : Nat → Nat) : ∀ (bs : List Nat) (r a : Nat), (∀ p, p < bs.length → f (a + p) = bs.getD p 0) → rf f bs.length r a = run r bs
  | [], _, _, _ => rfl
  | b :: bs, r, a, h => by
    have h0 : f a = b := by have := h 0 (by simp); simpa using this
    show rf f bs.length (stp r (f a)) (a + 1) = run (stp r b) bs
    rw [h0]
    refine rf_list f bs _ _ (fun p hp => ?_)
    have := h (p + 1) (by simp; omega)
    rw [show a + 1 + p = a + (p + 1) from by omega, this]; simp
theorem rf_xor (f g h : Nat → Nat) (N : Nat) (hh : ∀ p, p < N → h p = f p ^^^ g p) : ∀ (n r q a : Nat), a + n ≤ N → rf h n (r ^^^ q) a = rf f n r a ^^^ rf g n q a
  | 0, _, _, _, _ => rfl
  | n + 1, r, q, a, hN => by
    show rf h n (stp (r ^^^ q) (h a)) (a + 1) = rf f n (stp r (f a)) (a + 1) ^^^ rf g n (stp q (g a)) (a + 1)
    rw [← rf_xor f g h N hh n _ _ _ (by omega), hh a (by omega)]
    congr 1
    unfold stp
    rw [← tt_xor]
    congr 1
    rw [Nat.xor_assoc, Nat.xor_assoc, ← Nat.xor_assoc q, Nat.xor_comm q, Nat.xor_assoc (f a)]
theorem rf_add (f : Nat → Nat) : ∀ (m n r a : Nat), rf f (m + n) r a = rf f n (rf f m r a) (a + m)
  | 0, n, r, a => by rw [Nat.zero_add]; rfl
  | m + 1, n, r, a => by
    rw [Nat.add_right_comm]
    show rf f (m + n) (stp r (f a)) (a + 1) = rf f n (rf f m (stp r (f a)) (a + 1)) (a + (m + 1))
    rw [rf_add f m n, show a + 1 + m = a + (m + 1) from by omega]
theorem rf_low (f : Nat → Nat) : ∀ (n v r a : Nat), v < 2 ^ n → (∀ p, p < n → f (a + p) = v / 2 ^ p % 2) → rf f n r a = tn n (r ^^^ v)
  | 0, v, r, a, hv, _ => by
    have : v = 0 := by simpa using hv
    subst this; simp [rf, tn]
  | n + 1, v, r, a, hv, h => by
    show rf f n (stp r (f a)) (a + 1) = tn n (tt (r ^^^ v))
    have h0 : f a = v % 2 := by have := h 0 (by omega); simpa using this
    rw [rf_low f n (v / 2) _ _ (by rw [Nat.pow_succ] at hv; omega) (fun p hp => by
      rw [show a + 1 + p = a + (p + 1) from by omega, h (p + 1) (by omega), Nat.pow_succ, Nat.mul_comm (2 ^ p), Nat.div_div_eq_div_mul])]
    congr 1
    unfold stp
    rw [h0]
    conv => rhs; rw [split2 v, ← Nat.xor_assoc, tt_xor, tt_double]
theorem rf_none (f : Nat → Nat) (n r a : Nat) (h : ∀ p, p < n → f (a + p) = 0) : rf f n r a = tn n r := by
  have := rf_low f n 0 r a (Nat.two_pow_pos n) (fun p hp => by rw [h p hp]; simp)
  rw [this, Nat.xor_zero]

theorem lowb_get : ∀ (n v p : Nat), p < n → (lowb n v).getD p 0 = v / 2 ^ p % 2
  | 0, _, _, h => absurd h (by omega)
  | n + 1, v, 0, _ => by simp [lowb]
  | n + 1, v, p + 1, h => by
    have := lowb_get n (v / 2) p (by omega)
    rw [Nat.pow_succ, Nat.mul_comm (2 ^ p), ← Nat.div_div_eq_div_mul, ← this]
    simp [lowb]
/-- Bit p of bytes. -/
def bat (l : List UInt8) (p : Nat) : Nat := (l.getD (p / 8) 0).toNat / 2 ^ (p % 8) % 2
theorem bat_lt (l : List UInt8) (p : Nat) : bat l p < 2 := by unfold bat; omega
theorem bitl_get : ∀ (l : List UInt8) (p : Nat), p < 8 * l.length → (bitl l).getD p 0 = bat l p
  | [], p, h => absurd h (by simp)
  | x :: l, p, h => by
    have e : bitl (x :: l) = lowb 8 x.toNat ++ bitl l := rfl
    rw [e]
    by_cases hp : p < 8
    · rw [List.getD_eq_getElem?_getD, List.getElem?_append_left (by rw [lowb_len]; exact hp), ← List.getD_eq_getElem?_getD, lowb_get 8 _ p hp]
      unfold bat
      rw [show p / 8 = 0 from by omega, show p % 8 = p from by omega]; rfl
    · rw [List.getD_eq_getElem?_getD, List.getElem?_append_right (by rw [lowb_len]; omega), lowb_len, ← List.getD_eq_getElem?_getD, bitl_get l (p - 8) (by simp at h; omega)]
      unfold bat
      rw [show (p - 8) % 8 = p % 8 from by omega, show p / 8 = (p - 8) / 8 + 1 from by omega]; rfl
theorem bat_end (l : List UInt8) (p : Nat) (h : 8 * l.length ≤ p) : bat l p = 0 := by
  unfold bat
  rw [List.getD_eq_getElem?_getD, List.getElem?_eq_none (by omega)]; simp
theorem reg_rf (r : Nat) (l : List UInt8) : reg r l = rf (bat l) (8 * l.length) r 0 := by
  unfold reg
  rw [← bitl_len l]
  refine (rf_list _ _ _ _ (fun p hp => ?_)).symm
  rw [Nat.zero_add, bitl_get l p (by rw [bitl_len] at hp; exact hp)]

def le4n (x0 x1 x2 x3 : UInt8) : Nat := x0.toNat + 256 * x1.toNat + 65536 * x2.toNat + 16777216 * x3.toNat
theorem reg_le (r : Nat) (x0 x1 x2 x3 : UInt8) : reg r [x0, x1, x2, x3] = tn 32 (r ^^^ le4n x0 x1 x2 x3) := by
  have l0 := x0.toNat_lt
  have l1 := x1.toNat_lt
  have l2 := x2.toNat_lt
  have l3 := x3.toNat_lt
  rw [reg_rf]
  show rf _ 32 r 0 = _
  refine rf_low _ 32 _ r 0 (by unfold le4n; omega) (fun p hp => ?_)
  rw [Nat.zero_add]
  unfold bat le4n
  obtain ⟨q, s, hq, hs, rfl⟩ : ∃ q s, q < 4 ∧ s < 8 ∧ p = 8 * q + s := ⟨p / 8, p % 8, by omega, by omega, by omega⟩
  rw [show (8 * q + s) / 8 = q from by omega, show (8 * q + s) % 8 = s from by omega, Nat.pow_add, ← Nat.div_div_eq_div_mul]
  have key : ∀ b c : Nat, b < 256 → (b + 256 * c) / 2 ^ s % 2 = b / 2 ^ s % 2 := by
    intro b c hb
    have e : 256 * c = 2 ^ s * (2 ^ (8 - s) * c) := by rw [← Nat.mul_assoc, ← Nat.pow_add, show s + (8 - s) = 8 from by omega]
    rw [e, Nat.add_mul_div_left _ _ (Nat.two_pow_pos s)]
    have e2 : 2 ^ (8 - s) = 2 * 2 ^ (7 - s) := by rw [show 8 - s = (7 - s) + 1 from by omega, Nat.pow_succ, Nat.mul_comm]
    rw [e2, Nat.mul_assoc]; omega
  match q, hq with
  | 0, _ =>
    have := key x0.toNat (x1.toNat + 256 * x2.toNat + 65536 * x3.toNat) l0
    rw [show x0.toNat + 256 * x1.toNat + 65536 * x2.toNat + 16777216 * x3.toNat = x0.toNat + 256 * (x1.toNat + 256 * x2.toNat + 65536 * x3.toNat) from by omega, show 2 ^ (8 * 0) = 1 from rfl, Nat.div_one, this]; rfl
  | 1, _ =>
    have := key x1.toNat (x2.toNat + 256 * x3.toNat) l1
    rw [show (x0.toNat + 256 * x1.toNat + 65536 * x2.toNat + 16777216 * x3.toNat) / 2 ^ (8 * 1) = x1.toNat + 256 * (x2.toNat + 256 * x3.toNat) from by omega, this]; rfl
  | 2, _ =>
    have := key x2.toNat x3.toNat l2
    rw [show (x0.toNat + 256 * x1.toNat + 65536 * x2.toNat + 16777216 * x3.toNat) / 2 ^ (8 * 2) = x2.toNat + 256 * x3.toNat from by omega, this]; rfl
  | 3, _ =>
    rw [show (x0.toNat + 256 * x1.toNat + 65536 * x2.toNat + 16777216 * x3.toNat) / 2 ^ (8 * 3) = x3.toNat from by omega]; rfl
/-- Sealed is what the register says. -/
theorem sealed_reg (a : List UInt8) (x0 x1 x2 x3 : UInt8) : le4n x0 x1 x2 x3 = crc a ↔ reg ones (a ++ [x0, x1, x2, x3]) = tn 32 ones := by
  have l0 := x0.toNat_lt
  have l1 := x1.toNat_lt
  have l2 := x2.toNat_lt
  have l3 := x3.toNat_lt
  have hr := reg_lt ones a ones_lt
  have hle : le4n x0 x1 x2 x3 < lim32 := by unfold le4n lim32; omega
  rw [reg_append, reg_le]
  unfold crc
  rw [← ones_xor _ hr]
  generalize reg ones a = R at *
  constructor
  · intro h
    rw [h, Nat.xor_comm ones, ← Nat.xor_assoc, Nat.xor_self, Nat.zero_xor]
  · intro h
    have h2 := tn_inj (xor_lt32 hr hle) ones_lt h
    rw [← h2, Nat.xor_comm R, Nat.xor_assoc, Nat.xor_self, Nat.xor_zero]

/-- A burst: bits that differ lie within 32. -/
theorem burst (s s' : List UInt8) (i m v : Nat) (hl : s'.length = s.length) (hm : m ≤ 32) (hi : i + m ≤ 8 * s.length) (hv : v < 2 ^ m)
    (hb : ∀ p, p < 8 * s.length → bat s' p = bat s p ^^^ (if i ≤ p ∧ p < i + m then v / 2 ^ (p - i) % 2 else 0)) : (reg ones s' = reg ones s) ↔ v = 0 := by
  rw [reg_rf, reg_rf, hl]
  have e := rf_xor (bat s) (fun p => if i ≤ p ∧ p < i + m then v / 2 ^ (p - i) % 2 else 0) (bat s') (8 * s.length) hb (8 * s.length) ones 0 0 (by omega)
  rw [Nat.xor_zero] at e
  rw [e]
  have e2 : rf (fun p => if i ≤ p ∧ p < i + m then v / 2 ^ (p - i) % 2 else 0) (8 * s.length) 0 0 = tn (8 * s.length - (i + m)) (tn m v) := by
    rw [show 8 * s.length = i + (m + (8 * s.length - (i + m))) from by omega, rf_add, rf_none _ i, tn_zero, rf_add, rf_low _ m v, rf_none, Nat.zero_xor]
    · rw [show i + (m + (8 * s.length - (i + m))) - (i + m) = 8 * s.length - (i + m) from by omega]
    · intro p _; rw [if_neg (by omega)]
    · exact hv
    · intro p hp; rw [if_pos (by omega)]; congr 3; omega
    · intro p hp; rw [if_neg (by omega)]
  rw [e2]
  have hv32 : v < lim32 := Nat.lt_of_lt_of_le hv (Nat.pow_le_pow_right (n := 2) (by decide) hm)
  constructor
  · intro h
    apply Classical.byContradiction
    intro h0
    have h1 := tn_ne m hv32 h0
    have h2 := tn_ne (8 * s.length - (i + m)) (tn_lt m hv32) h1
    apply h2
    have := congrArg (rf (bat s) (8 * s.length) ones 0 ^^^ ·) h
    simpa [← Nat.xor_assoc] using this
  · intro h
    rw [h, tn_zero, tn_zero, Nat.xor_zero]

theorem xor_mod2' (a b : Nat) (ha : a < 2) (hb : b < 2) : a ^^^ b = (a + b) % 2 := by
  have h1 : a = 0 ∨ a = 1 := by omega
  have h2 : b = 0 ∨ b = 1 := by omega
  rcases h1 with rfl | rfl <;> rcases h2 with rfl | rfl <;> rfl
theorem xor_bit (a b s : Nat) : (a ^^^ b) / 2 ^ s % 2 = (a / 2 ^ s % 2 + b / 2 ^ s % 2) % 2 := by
  have h : (a ^^^ b) / 2 ^ s = (a / 2 ^ s) ^^^ (b / 2 ^ s) := by
    have := Nat.shiftRight_xor_distrib (a := a) (b := b) (i := s)
    simpa [Nat.shiftRight_eq_div_pow] using this
  rw [h, xor_mod2]
theorem pow_bit (s t : Nat) : 2 ^ s / 2 ^ t % 2 = if s = t then 1 else 0 := by
  by_cases h : s = t
  · subst h; rw [if_pos rfl, Nat.div_self (Nat.two_pow_pos s)]
  · rw [if_neg h]
    by_cases hlt : s < t
    · rw [Nat.div_eq_of_lt (Nat.pow_lt_pow_right (by decide) hlt)]
    · rw [Nat.pow_div (by omega) (by decide), show s - t = (s - t - 1) + 1 from by omega, Nat.pow_succ]; omega
/-- One bit of the bytes is inverted. -/
theorem bat_set (l : List UInt8) (q p : Nat) (x : UInt8) (hq : q < 8 * l.length) (hx : x.toNat = (l.getD (q / 8) 0).toNat ^^^ 2 ^ (q % 8)) :
    bat (l.set (q / 8) x) p = bat l p ^^^ (if p = q then 1 else 0) := by
  have hb := bat_lt l p
  rw [xor_mod2' _ _ hb (by split <;> omega)]
  unfold bat
  by_cases h : p / 8 = q / 8
  · rw [h, List.getD_eq_getElem?_getD, List.getElem?_set_self (by omega), Option.getD_some, hx, xor_bit, pow_bit]
    by_cases h2 : p = q
    · rw [if_pos h2, if_pos (by omega)]
    · rw [if_neg h2, if_neg (by omega)]
  · rw [List.getD_eq_getElem?_getD, List.getElem?_set_ne (by omega), ← List.getD_eq_getElem?_getD, if_neg (by omega)]
    omega
end Go.Proofs.YtikokimnhanloaaDoor
