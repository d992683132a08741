/-
  The long division of the definition, place by place. No program is spoken of.
-/
import Derived.Test.YtafkimnpopbofaaCrcBits
namespace Go.Proofs.Ytafkimnpopbofaa

def rb (r j : Nat) : Nat := r / 2 ^ j % 2
theorem rb_lt (r j : Nat) : rb r j < 2 := by unfold rb; omega
theorem rb_big {r j : Nat} (hr : r < lim32) (hj : 32 ≤ j) : rb r j = 0 := by
  unfold rb
  rw [Nat.div_eq_of_lt (Nat.lt_of_lt_of_le hr (Nat.pow_le_pow_right (n := 2) (by decide) hj))]
theorem rb_ones {j : Nat} (hj : j < 32) : rb ones j = 1 := by
  have h : ∀ n : Fin 32, rb ones n.val = 1 := by decide +kernel
  exact h ⟨j, hj⟩
theorem rb_stp (r b j : Nat) (hb : b < 2) : rb (stp r b) j = (rb r (j + 1) + (rb r 0 + b) % 2 * rb gen j) % 2 := by
  rw [stp_bit r b hb, xor_mod2' _ _ (by omega) hb]
  have e0 : rb r 0 = r % 2 := by unfold rb; simp
  have e1 : rb (r / 2) j = rb r (j + 1) := by unfold rb; rw [Nat.div_div_eq_div_mul, Nat.pow_succ, Nat.mul_comm (2 ^ j)]
  have l1 := rb_lt r (j + 1)
  rw [e0]
  by_cases h : (r % 2 + b) % 2 = 1
  · rw [if_pos h, h, Nat.one_mul]
    show (r / 2 ^^^ gen) / 2 ^ j % 2 = _
    rw [xor_bit]
    show (rb (r / 2) j + rb gen j) % 2 = _
    rw [e1]
  · rw [if_neg h, show (r % 2 + b) % 2 = 0 from by omega, Nat.zero_mul, e1]; omega

/-- What the coefficients are while the message is laid: T bits of it lie there. -/
def Laid (f : Nat → Nat) (N T : Nat) (m : List Nat) : Prop := m.length = N + 32 ∧ ∀ q, q < N + 32 → m.getD q 0 = if N + 31 - q < T then f (N + 31 - q) else 0
def Compl (f : Nat → Nat) (N K : Nat) (m : List Nat) : Prop := m.length = N + 32 ∧ ∀ q, q < N + 32 → m.getD q 0 = if N ≤ q ∧ q < N + K then (f (N + 31 - q) + 1) % 2 else f (N + 31 - q)
/-- .. and in the division: i is the highest place that is left. -/
def Div (f : Nat → Nat) (N : Nat) (i : Nat) (m : List Nat) : Prop := m.length = N + 32 ∧ ∀ q, q ≤ i → q < N + 32 → m.getD q 0 = (rb (rf f (N + 31 - i) ones 0) (i - q) + f (N + 31 - q)) % 2
/-- .. within one step of it, after k of the generator's coefficients. -/
def DivIn (N i k : Nat) (m0 m : List Nat) : Prop := m.length = N + 32 ∧ ∀ q, q < N + 32 → m.getD q 0 = if i - 32 ≤ q ∧ q < i - 32 + k then (m0.getD q 0 + rb gen (31 - (q - (i - 32)))) % 2 else m0.getD q 0

theorem getD_set (l : List Nat) (q p x : Nat) (h : q < l.length) : (l.set q x).getD p 0 = if p = q then x else l.getD p 0 := by
  by_cases e : p = q
  · subst e; rw [if_pos rfl, List.getD_eq_getElem?_getD, List.getElem?_set_self h]; rfl
  · rw [if_neg e, List.getD_eq_getElem?_getD, List.getElem?_set_ne (by omega), ← List.getD_eq_getElem?_getD]

theorem Laid.start (f : Nat → Nat) (N : Nat) : Laid f N 0 (List.replicate (N + 32) 0) := by
  refine ⟨by simp, fun q hq => ?_⟩
  rw [if_neg (by omega), List.getD_eq_getElem?_getD, List.getElem?_replicate, if_pos hq]; rfl
theorem Laid.step {f : Nat → Nat} {N T : Nat} {m : List Nat} (h : Laid f N T m) (hT : T < N) : Laid f N (T + 1) (m.set (N + 31 - T) (f T)) := by
  refine ⟨by rw [List.length_set]; exact h.1, fun q hq => ?_⟩
  rw [getD_set _ _ _ _ (by rw [h.1]; omega), h.2 q hq]
  by_cases e : q = N + 31 - T
  · rw [if_pos e, if_pos (by omega), show N + 31 - q = T from by omega]
  · rw [if_neg e]
    by_cases h2 : N + 31 - q < T
    · rw [if_pos h2, if_pos (by omega)]
    · rw [if_neg h2, if_neg (by omega)]
theorem Laid.compl {f : Nat → Nat} {N : Nat} {m : List Nat} (h : Laid f N N m) (hf : ∀ p, N ≤ p → f p = 0) : Compl f N 0 m := by
  refine ⟨h.1, fun q hq => ?_⟩
  rw [h.2 q hq, if_neg (c := N ≤ q ∧ q < N + 0) (by omega)]
  by_cases h2 : N + 31 - q < N
  · rw [if_pos h2]
  · rw [if_neg h2, hf _ (by omega)]
theorem Compl.step {f : Nat → Nat} {N K : Nat} {m : List Nat} (h : Compl f N K m) (hK : K < 32) : Compl f N (K + 1) (m.set (N + K) ((m.getD (N + K) 0 + 1) % 2)) := by
  refine ⟨by rw [List.length_set]; exact h.1, fun q hq => ?_⟩
  rw [getD_set _ _ _ _ (by rw [h.1]; omega), h.2 q hq]
  by_cases e : q = N + K
  · subst e
    rw [if_pos rfl, if_pos (by omega), h.2 _ hq, if_neg (by omega)]
  · rw [if_neg e]
    by_cases h2 : N ≤ q ∧ q < N + K
    · rw [if_pos h2, if_pos (by omega)]
    · rw [if_neg h2, if_neg (by omega)]
theorem Compl.div {f : Nat → Nat} {N : Nat} {m : List Nat} (h : Compl f N 32 m) (hf : ∀ p, f p < 2) : Div f N (N + 31) m := by
  refine ⟨h.1, fun q _ hq => ?_⟩
  rw [h.2 q hq, show N + 31 - (N + 31) = 0 from by omega]
  show _ = (rb ones (N + 31 - q) + f (N + 31 - q)) % 2
  have := hf (N + 31 - q)
  by_cases h2 : N ≤ q
  · rw [if_pos (by omega), rb_ones (by omega), Nat.add_comm]
  · rw [if_neg (by omega), rb_big ones_lt (by omega)]; omega
theorem DivIn.start {N i : Nat} {m : List Nat} (h : m.length = N + 32) : DivIn N i 0 m m :=
  ⟨h, fun q _ => by rw [if_neg (by omega)]⟩
theorem DivIn.step {N i k : Nat} {m0 m : List Nat} (h : DivIn N i k m0 m) (hi : 32 ≤ i) (hi2 : i < N + 32) (hk : k < 32) : DivIn N i (k + 1) m0 (m.set (i - 32 + k) ((m.getD (i - 32 + k) 0 + rb gen (31 - k)) % 2)) := by
  refine ⟨by rw [List.length_set]; exact h.1, fun q hq => ?_⟩
  rw [getD_set _ _ _ _ (by rw [h.1]; omega), h.2 q hq]
  by_cases e : q = i - 32 + k
  · subst e
    rw [if_pos rfl, if_pos (by omega), h.2 _ hq, if_neg (by omega), show i - 32 + k - (i - 32) = k from by omega]
  · rw [if_neg e]
    by_cases h2 : i - 32 ≤ q ∧ q < i - 32 + k
    · rw [if_pos h2, if_pos (by omega)]
    · rw [if_neg h2, if_neg (by omega)]
theorem DivIn.top {N i k : Nat} {m0 m : List Nat} (h : DivIn N i k m0 m) (hi : 32 ≤ i) (hi2 : i < N + 32) (hk : k ≤ 32) : m.getD i 0 = m0.getD i 0 := by
  rw [h.2 i hi2, if_neg (by omega)]
theorem rf_snoc (f : Nat → Nat) (t r : Nat) : rf f (t + 1) r 0 = stp (rf f t r 0) (f t) := by
  rw [rf_add, Nat.zero_add]; rfl
/-- The step is done: the coefficient at i was 1. -/
theorem Div.one {f : Nat → Nat} {N i : Nat} {m0 m : List Nat} (h : Div f N i m0) (hf : ∀ p, f p < 2) (hi : 32 ≤ i) (hi2 : i < N + 32) (h1 : m0.getD i 0 = 1) (hin : DivIn N i 32 m0 m) : Div f N (i - 1) (m.set i 0) := by
  refine ⟨by rw [List.length_set]; exact hin.1, fun q hq hq2 => ?_⟩
  rw [getD_set _ _ _ _ (by rw [hin.1]; omega), if_neg (by omega), hin.2 q hq2]
  have ht := h.2 i (by omega) (by omega)
  rw [h1, Nat.sub_self] at ht
  have hq0 := h.2 q (by omega) hq2
  have e : N + 31 - (i - 1) = (N + 31 - i) + 1 := by omega
  rw [e, rf_snoc, rb_stp _ _ _ (hf _), ← ht, Nat.one_mul, show i - 1 - q + 1 = i - q from by omega]
  have f2 := hf (N + 31 - q)
  have r1 := rb_lt gen (i - 1 - q)
  by_cases hc : i - 32 ≤ q ∧ q < i - 32 + 32
  · rw [if_pos hc, hq0, show 31 - (q - (i - 32)) = i - 1 - q from by omega]; omega
  · rw [if_neg hc, hq0, rb_big gen_lt (by omega)]; omega
/-- .. was 0. -/
theorem Div.zero {f : Nat → Nat} {N i : Nat} {m : List Nat} (h : Div f N i m) (hf : ∀ p, f p < 2) (hi : 32 ≤ i) (hi2 : i < N + 32) (h1 : m.getD i 0 ≠ 1) : Div f N (i - 1) (m.set i 0) := by
  refine ⟨by rw [List.length_set]; exact h.1, fun q hq hq2 => ?_⟩
  rw [getD_set _ _ _ _ (by rw [h.1]; omega), if_neg (by omega)]
  have ht := h.2 i (by omega) (by omega)
  rw [Nat.sub_self] at ht
  have h0 : (rb (rf f (N + 31 - i) ones 0) 0 + f (N + 31 - i)) % 2 = 0 := by omega
  have hq0 := h.2 q (by omega) hq2
  have e : N + 31 - (i - 1) = (N + 31 - i) + 1 := by omega
  rw [e, rf_snoc, rb_stp _ _ _ (hf _), h0, Nat.zero_mul, show i - 1 - q + 1 = i - q from by omega, hq0]
  omega
theorem Div.last {f : Nat → Nat} {N : Nat} {m : List Nat} (h : Div f N 31 m) (hf : ∀ p, N ≤ p → f p = 0) {j : Nat} (hj : j < 32) : m.getD (31 - j) 0 = rb (rf f N ones 0) j := by
  rw [h.2 _ (by omega) (by omega), show N + 31 - 31 = N from by omega, hf _ (by omega), show 31 - (31 - j) = j from by omega]
  have := rb_lt (rf f N ones 0) j
  omega
/-- The bits are put together. -/
theorem put_bit (r j : Nat) (hr : r < lim32) (hj : j < 32) : (ones - r) % 2 ^ (j + 1) = (ones - r) % 2 ^ j + (if rb r j = 0 then 2 ^ j else 0) := by
  rw [← ones_xor r hr, Nat.mod_pow_succ]
  congr 1
  have h : (ones ^^^ r) / 2 ^ j % 2 = (rb ones j + rb r j) % 2 := xor_bit ones r j
  rw [h, rb_ones hj]
  have := rb_lt r j
  by_cases h0 : rb r j = 0
  · rw [if_pos h0, h0]; simp
  · rw [if_neg h0, show rb r j = 1 from by omega]; simp
theorem put_all (r : Nat) (hr : r < lim32) : (ones - r) % 2 ^ 32 = ones - r := by
  have := ones_lt
  exact Nat.mod_eq_of_lt (by show ones - r < lim32; omega)
def genl : List Nat := (List.range 33).map fun k => if k = 32 then 1 else rb gen (31 - k)
theorem genl_get {k : Nat} (hk : k < 32) : genl.getD k 0 = rb gen (31 - k) := by
  unfold genl
  rw [List.getD_eq_getElem?_getD, List.getElem?_map, List.getElem?_range (by omega)]
  simp [show k ≠ 32 from by omega]
end Go.Proofs.Ytafkimnpopbofaa
