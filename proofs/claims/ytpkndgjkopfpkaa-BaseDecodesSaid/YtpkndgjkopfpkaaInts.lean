/-
  Slices of ints that a call makes for itself; lists of bits.
-/
import Derived.Test.YtpkndgjkopfpkaaBaseMath
namespace Go.Proofs.Ytpkndgjkopfpkaa
open Go.ChangeShapes Go.WideShapes Go.ChangeAt Go.RowKit

theorem Try.infoI : (Try.prog.info? 3).map (fun i => (i.zero, i.size, i.bytes)) = some (some (.int .i64 0), 1, 8) := by kernel_rfl
def iv (n : Nat) : Value := .int .i64 n
def ivs (l : List Nat) : List Value := l.map iv
theorem ivs_length (l : List Nat) : (ivs l).length = l.length := by simp [ivs]
theorem ivs_append (l m : List Nat) : ivs (l ++ m) = ivs l ++ ivs m := by simp [ivs]

theorem app_int {ops : Array Oper} {rest : List Oper} {o : Oper} {a : Act} {Q : Exit → Act → World → Prop} {w : World} (hgd : o.guard = none) (s x : Operand)
    (ho : o.op = .call { callee := .builtin .append, args := #[s, x], argTypes := #[76, 76] })
    {base n nl : Nat} {v : Value} {l : List Nat} {b : Nat} (hs : a.eval s = v) (hown' : w.ownsRow base 3 1 v nl (ivs l)) (hx : a.eval x = .slice (some ⟨n, 0, none⟩) 1 1) (hc : w.cell? ⟨n, 0, none⟩ = some (iv b))
    (hlen : l.length + 1 ≤ 17592186044416) (hbase : base ≤ w.heap.size)
    (h : ∀ v' w', w'.ownsRow base 3 1 v' (l ++ [b]).length (ivs (l ++ [b])) → w.grownBy w' v.ownBlock → wpList Try.prog ops Q rest (a.put o.dst v') w') : wpList Try.prog ops Q (o :: rest) a w := by
  have hown : w.ownsRow base 3 1 v l.length (ivs l) := by
    obtain rfl : nl = l.length := by have := hown'.1; rw [ivs_length] at this; omega
    exact hown'
  obtain ⟨i0, hi, hz0, hz1, hz2⟩ := info_parts Try.infoI
  refine wpList_append_own w hgd s x 76 ho base 3 i0 (.int .i64 0) 1 8 Try.underlying76 hi hz0 hz1 hz2 rfl (by decide) v l.length (ivs l) hs hown ⟨n, 0, none⟩ 1 1 [iv b] hx rfl ?_ ?_ (by unfold maxLen; omega) (by omega) hbase ?_
  · intro j u hu
    match j, hu with
    | 0, hu => simp at hu; subst hu; simpa [Addr.add] using hc
  · intro u hu; simp at hu; subst hu; rfl
  · intro v' w' r1 r2 _
    exact h v' w' (by simpa [ivs] using r1) r2

theorem cell_lit (w : World) (v : Value) (t : TypeId) : (w.alloc (.cells #[v] t)).cell? ⟨w.heap.size, 0, none⟩ = some v := by
  rw [cell_of_row _ _ _ #[v] t (0, 0) (heap_alloc_new w _)]; rfl

/-- A slice of ints that the call owns, in any order of reading. -/
theorem own_int {w : World} {base n : Nat} {v : Value} {l : List Nat} (h : w.ownsRow base 3 1 v n (ivs l)) : n = l.length ∧ ∃ oa cap, v = .slice oa l.length cap ∧ l.length ≤ maxLen ∧
    (0 < l.length → ∃ g, oa = some ⟨g, 0, none⟩ ∧ l.length ≤ cap ∧ base ≤ g ∧ ∀ i, i < l.length → w.cell? ⟨g, i, none⟩ = some (iv (l.getD i 0))) := by
  have hn : n = l.length := by have := h.1; rw [ivs_length] at this; omega
  refine ⟨hn, ?_⟩
  subst hn
  rcases h.2 with ⟨hv, h0⟩ | ⟨g, cap, cur, hv, hb, hg, h1, h2, h3, h4⟩
  · exact ⟨none, 0, by rw [hv, h0], by rw [h0]; exact Nat.zero_le _, fun hp => by omega⟩
  · refine ⟨_, cap, hv, by omega, fun _ => ⟨g, rfl, h1, hb, fun i hi => ?_⟩⟩
    rw [cell_of_row w g i cur 3 (0, 0) hg]
    have hi2 : (ivs l)[i]? = some (iv (l.getD i 0)) := by simp [ivs, List.getD_eq_getElem?_getD, List.getElem?_eq_getElem hi]
    rw [← h4, List.getElem?_take] at hi2
    split at hi2
    · simpa using hi2
    · cases hi2

/-- The n lowest bits of v, the highest first. -/
def bitsN : Nat → Nat → List Nat
  | 0, _ => []
  | n + 1, v => bitsN n (v / 2) ++ [v % 2]
theorem bitsN_len : ∀ (n v : Nat), (bitsN n v).length = n
  | 0, _ => rfl
  | n + 1, v => by rw [bitsN, List.length_append, bitsN_len n]; rfl
theorem bitsN_add : ∀ (n m v : Nat), bitsN (m + n) v = bitsN m (v / 2 ^ n) ++ bitsN n (v % 2 ^ n)
  | 0, m, v => by simp [bitsN]
  | n + 1, m, v => by
    have e1 : v / 2 / 2 ^ n = v / 2 ^ (n + 1) := by rw [Nat.div_div_eq_div_mul, Nat.pow_succ, Nat.mul_comm]
    have e2 : v / 2 % 2 ^ n = v % 2 ^ (n + 1) / 2 := by
      have := Nat.mod_mul_right_div_self v 2 (2 ^ n)
      rw [Nat.pow_succ, Nat.mul_comm, this]
    have e3 : v % 2 ^ (n + 1) % 2 = v % 2 := by
      rw [Nat.pow_succ]; exact Nat.mod_mul_left_mod v (2 ^ n) 2
    show bitsN (m + n) (v / 2) ++ [v % 2] = bitsN m (v / 2 ^ (n + 1)) ++ (bitsN n (v % 2 ^ (n + 1) / 2) ++ [v % 2 ^ (n + 1) % 2])
    rw [bitsN_add n m (v / 2), e1, e2, e3, List.append_assoc]
theorem bitsN_cat (m n a b : Nat) (hb : b < 2 ^ n) : bitsN m a ++ bitsN n b = bitsN (m + n) (a * 2 ^ n + b) := by
  have hp : 0 < 2 ^ n := Nat.two_pow_pos n
  rw [bitsN_add, Nat.add_comm (a * 2 ^ n) b, Nat.add_mul_div_right _ _ hp, Nat.div_eq_of_lt hb, Nat.add_mul_mod_self_right, Nat.mod_eq_of_lt hb, Nat.zero_add]
end Go.Proofs.Ytpkndgjkopfpkaa
