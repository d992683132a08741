/-
  Plain facts on bytes and on the groups of a number; no program is spoken of.
-/
import Derived.WalkKit
import Derived.Laws.BitsAllLaws
namespace Go.Proofs.YtdnmgemjhpkekaaGreat

def bv (b : UInt8) : Value := .int .u8 b.toNat
def bvs (l : List UInt8) : List Value := l.map bv
def lim64 : Nat := 18446744073709551616
def pb (x : Nat) : UInt8 := UInt8.ofNat (x % 128 + 128)
def put (x : Nat) : List UInt8 := if x < 128 then [UInt8.ofNat x] else pb x :: put (x / 128)
theorem put_lt {x : Nat} (h : x < 128) : put x = [UInt8.ofNat x] := by unfold put; rw [if_pos h]
theorem put_ge {x : Nat} (h : ¬ x < 128) : put x = pb x :: put (x / 128) := by rw [put, if_neg h]
theorem bvs_length (l : List UInt8) : (bvs l).length = l.length := by simp [bvs]
theorem bvs_append (l m : List UInt8) : bvs (l ++ m) = bvs l ++ bvs m := by simp [bvs]

theorem put_len : ∀ (n x : Nat), x < 128 ^ (n + 1) → (put x).length ≤ n + 1
  | 0, x, h => by rw [put_lt (by omega)]; simp
  | n + 1, x, h => by
    by_cases hx : x < 128
    · rw [put_lt hx]; simp
    · rw [put_ge hx]
      have := put_len n (x / 128) (by rw [Nat.div_lt_iff_lt_mul (by omega)]; rw [← Nat.pow_succ]; exact h)
      simp only [List.length_cons]; omega
theorem put_len10 {x : Nat} (h : x < lim64) : (put x).length ≤ 10 := put_len 9 x (by unfold lim64 at h; omega)
theorem put_pos (x : Nat) : 1 ≤ (put x).length := by
  by_cases hx : x < 128
  · rw [put_lt hx]; simp
  · rw [put_ge hx]; simp
theorem put_mono : ∀ (x y : Nat), x ≤ y → (put x).length ≤ (put y).length := by
  intro x
  induction x using Nat.strongRecOn with
  | _ x ih =>
    intro y h
    by_cases hx : x < 128
    · rw [put_lt hx]; simpa using put_pos y
    · rw [put_ge hx, put_ge (x := y) (by omega)]
      have := ih (x / 128) (by omega) (y / 128) (by omega)
      simpa using this
theorem or128 (x : Nat) : bits .or .u8 ((x : Int) % 256) 128 = (((pb x).toNat : Nat) : Int) := by
  have e : ((x : Int) % 256) = ((x % 256 : Nat) : Int) := by omega
  have e2 : (128 : Int) = ((128 : Nat) : Int) := rfl
  rw [e, e2, u8_or_nat _ _ (by omega) (by omega)]
  have h : (x % 256) ||| 128 = x % 128 + 128 := by
    have h1 : x % 256 < 256 := by omega
    have h2 : ∀ n : Fin 256, n.val ||| 128 = n.val % 128 + 128 := by decide +kernel
    have := h2 ⟨x % 256, h1⟩
    simp only at this
    rw [this]; omega
  rw [h]; unfold pb; congr 1
  rw [UInt8.toNat_ofNat']; omega
theorem low (x : Nat) (h : x < 128) : bv (UInt8.ofNat x) = .int .u8 x := by
  unfold bv; congr 1; rw [UInt8.toNat_ofNat']; congr 1; omega
theorem pb_val (x : Nat) : ((x : Int) % 128 + 128) = (((pb x).toNat : Nat) : Int) := by
  unfold pb; rw [UInt8.toNat_ofNat']; omega
theorem wrap_div128 {x : Nat} (h : x < lim64) : IntKind.u64.wrap ((x : Int) / 128) = (x : Int) / 128 := by
  unfold lim64 at h; rw [IntKind.wrap_u64]; omega
theorem low' (x : Nat) (h : x < 128) : bv (UInt8.ofNat x) = .int .u8 ((x : Int) % 128) := by
  rw [low x h]; congr 1; omega
theorem and127 (g : Nat) (h : g < 256) : bits .and .u8 (g : Int) 127 = ((g % 128 : Nat) : Int) := by
  have e2 : (127 : Int) = ((127 : Nat) : Int) := rfl
  rw [e2, u8_and_nat _ _ h (by omega)]
  have h2 : ∀ n : Fin 256, n.val &&& 127 = n.val % 128 := by decide +kernel
  congr 1
  exact h2 ⟨g, h⟩
theorem pow128 (k : Nat) : (2 : Nat) ^ (7 * k) = 128 ^ k := by rw [Nat.pow_mul]
theorem grp_lt {k g : Nat} (hk : k ≤ 9) (h9 : k = 9 → g ≤ 1) : g % 128 * 128 ^ k < 18446744073709551616 := by
  have hm : g % 128 ≤ 127 := by omega
  by_cases h : k = 9
  · subst h; have := h9 rfl
    have : g % 128 ≤ 1 := by omega
    calc g % 128 * 128 ^ 9 ≤ 1 * 128 ^ 9 := Nat.mul_le_mul_right _ this
      _ < _ := by decide
  · have hp : 128 ^ k ≤ 128 ^ 8 := Nat.pow_le_pow_right (by decide) (by omega)
    calc g % 128 * 128 ^ k ≤ 127 * 128 ^ 8 := Nat.mul_le_mul hm hp
      _ < _ := by decide
theorem shl_or {x k g : Nat} (hx : x < 128 ^ k) (hk : k ≤ 9) (hg : g < 256) (h9 : k = 9 → g ≤ 1) :
    bits .or .u64 (x : Int) (IntKind.u64.wrap (IntKind.u64.wrap (bits .and .u8 (g : Int) 127) * 2 ^ (7 * k))) = ((x + g % 128 * 128 ^ k : Nat) : Int) := by
  have hlt := grp_lt hk h9
  rw [and127 g hg]
  have w1 : IntKind.u64.wrap ((g % 128 : Nat) : Int) = ((g % 128 : Nat) : Int) := by rw [IntKind.wrap_u64]; omega
  have w2 : (2 : Int) ^ (7 * k) = ((128 ^ k : Nat) : Int) := by rw [← pow128]; simp
  rw [w1, w2, ← Int.natCast_mul]
  have w3 : IntKind.u64.wrap ((g % 128 * 128 ^ k : Nat) : Int) = ((g % 128 * 128 ^ k : Nat) : Int) := by
    rw [IntKind.wrap_u64]
    generalize g % 128 * 128 ^ k = z at *
    omega
  rw [w3]
  have hx64 : x < 18446744073709551616 := by
    have hp : 128 ^ k ≤ 128 ^ 9 := Nat.pow_le_pow_right (by decide) hk
    have : (128 : Nat) ^ 9 < 18446744073709551616 := by decide
    omega
  rw [u64_or_nat _ _ hx64 hlt]
  congr 1
  rw [← pow128] at hx ⊢
  rw [Nat.mul_comm (g % 128), Nat.or_comm, ← Nat.two_pow_add_eq_or_of_lt hx, Nat.add_comm]
theorem grp_next {x k g : Nat} (hx : x < 128 ^ k) : x + g % 128 * 128 ^ k < 128 ^ (k + 1) := by
  rw [Nat.pow_succ]
  have : g % 128 * 128 ^ k ≤ 127 * 128 ^ k := Nat.mul_le_mul_right _ (by omega)
  omega
end Go.Proofs.YtdnmgemjhpkekaaGreat
