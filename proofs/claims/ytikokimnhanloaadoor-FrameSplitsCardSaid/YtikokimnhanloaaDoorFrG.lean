/-
  What is read as a frame is the frame of the payload.
-/
import Derived.Test.YtikokimnhanloaaDoorFrF
namespace Go.Proofs.YtikokimnhanloaaDoor
open Go.ChangeShapes Go.WideShapes Go.ChangeAt Go.RowKit
set_option linter.unusedVariables false

theorem numGo_back : ∀ (l : List UInt8) (i acc : Nat), (numGo i acc l).2.2 = 0 → ∃ x, numGo i acc l = (acc + x * 128 ^ i, i + (put x).length, 0) ∧ l.take (put x).length = put x ∧ (0 < i → 0 < x)
  | [], i, acc, h => by simp [numGo] at h
  | g :: r, i, acc, h => by
    by_cases h1 : i = 9 ∧ 1 < g.toNat
    · rw [go_long h1] at h; cases h
    · by_cases h2 : 0 < i ∧ g.toNat = 0
      · rw [go_min h1 h2] at h; cases h
      · by_cases h3 : g.toNat < 128
        · rw [go_last h1 h2 h3]
          have hp : put g.toNat = [g] := by rw [put_lt h3, UInt8.ofNat_toNat]
          refine ⟨g.toNat, ?_, ?_, fun hi => by omega⟩
          · rw [hp, Nat.mod_eq_of_lt h3]; rfl
          · rw [hp]; rfl
        · rw [go_next h1 h2 h3] at h ⊢
          obtain ⟨x, e, ht, hx⟩ := numGo_back r (i + 1) _ h
          have hx0 := hx (by omega)
          have hg := g.toNat_lt
          have hge : ¬ (g.toNat % 128 + 128 * x) < 128 := by omega
          have hd : (g.toNat % 128 + 128 * x) / 128 = x := by omega
          have hb : pb (g.toNat % 128 + 128 * x) = g := by
            unfold pb
            apply UInt8.toNat_inj.1
            rw [UInt8.toNat_ofNat']
            omega
          have hp : put (g.toNat % 128 + 128 * x) = g :: put x := by rw [put_ge hge, hd, hb]
          refine ⟨g.toNat % 128 + 128 * x, ?_, ?_, fun _ => by omega⟩
          · rw [e, hp]
            have e2 : acc + g.toNat % 128 * 128 ^ i + x * 128 ^ (i + 1) = acc + (g.toNat % 128 + 128 * x) * 128 ^ i := by
              rw [Nat.pow_succ, Nat.add_mul, Nat.add_assoc]
              congr 2
              rw [Nat.mul_comm (128 ^ i) 128, ← Nat.mul_assoc, Nat.mul_comm x 128]
            rw [e2, List.length_cons]
            simp only [Prod.mk.injEq, true_and, and_true]
            omega
          · rw [hp, List.length_cons, List.take_succ_cons, ht]
theorem num_back {l : List UInt8} (h : (num l).2.2 = 0) : l.take (num l).2.1 = put (num l).1 ∧ (num l).2.1 = (put (num l).1).length := by
  obtain ⟨x, e, ht, _⟩ := numGo_back l 0 0 h
  have e' : num l = (x, (put x).length, 0) := by
    unfold num
    rw [e, Nat.pow_zero, Nat.mul_one, Nat.zero_add, Nat.zero_add]
  rw [e']
  exact ⟨ht, rfl⟩
theorem le4_le (x0 x1 x2 x3 : UInt8) : le4 (le x0 x1 x2 x3) = [x0, x1, x2, x3] := by
  have h0 := x0.toNat_lt
  have h1 := x1.toNat_lt
  have h2 := x2.toNat_lt
  have h3 := x3.toNat_lt
  unfold le4 le
  congr 1
  · apply UInt8.toNat_inj.1; rw [UInt8.toNat_ofNat']; omega
  congr 1
  · apply UInt8.toNat_inj.1; rw [UInt8.toNat_ofNat']; omega
  congr 1
  · apply UInt8.toNat_inj.1; rw [UInt8.toNat_ofNat']; omega
  congr 1
  · apply UInt8.toNat_inj.1; rw [UInt8.toNat_ofNat']; omega
theorem sealed_back {s : List UInt8} (h : isSealed s = true) : sealed (inside s) = s := by
  have h4 : 4 ≤ s.length := (of_decide_eq_true h).1
  obtain ⟨a, x0, x1, x2, x3, rfl⟩ := tail4 s h4
  have hl := isSealed_long a x0 x1 x2 x3
  rw [h] at hl
  have hc : le x0 x1 x2 x3 = crc a := of_decide_eq_true hl.symm
  have hin : inside (a ++ [x0, x1, x2, x3]) = a := by
    unfold inside
    rw [if_pos h]
    have e : (a ++ [x0, x1, x2, x3]).length - 4 = a.length := by simp
    rw [e]
    exact List.take_left' rfl
  rw [hin]
  unfold sealed
  rw [← hc, le4_le]
theorem read_code_ok {b : List UInt8} (h : (readF b).2.2.1 = 0) : (num b).2.2 = 0 ∧ ¬ 65536 < (num b).1 ∧ ¬ b.length < (num b).2.1 + (num b).1 + 4 ∧ isSealed ((b.drop (num b).2.1).take ((num b).1 + 4)) = true := by
  by_cases h1 : (num b).2.2 = 1
  · rw [read_short h1] at h; cases h
  · by_cases h0 : (num b).2.2 = 0
    · by_cases hl : 65536 < (num b).1
      · rw [read_limit h0 hl] at h; cases h
      · by_cases hc : b.length < (num b).2.1 + (num b).1 + 4
        · rw [read_cut h0 hl hc] at h; cases h
        · cases hs : isSealed ((b.drop (num b).2.1).take ((num b).1 + 4)) with
          | true => exact ⟨h0, hl, hc, rfl⟩
          | false => rw [read_no h0 hl hc hs] at h; cases h
    · rw [read_code h1 h0] at h; exact absurd h h0
theorem readF_back {b : List UInt8} (h : (readF b).2.2.1 = 0) : framed (readF b).1 = b.take (readF b).2.1 ∧ (readF b).1.length ≤ 65536 ∧ (readF b).2.1 ≤ b.length := by
  obtain ⟨h0, hl, hc, hs⟩ := read_code_ok h
  obtain ⟨t1, t2⟩ := num_back h0
  rw [read_yes h0 hl hc hs]
  have hsb := sealed_back hs
  have hin := inside_sub hs (by omega)
  have hlen : (inside ((b.drop (num b).2.1).take ((num b).1 + 4))).length = (num b).1 := by rw [hin, List.length_take, List.length_drop]; omega
  refine ⟨?_, by rw [hlen]; omega, by show _ + _ + _ ≤ _; omega⟩
  show framed _ = b.take ((num b).2.1 + (num b).1 + 4)
  unfold framed
  rw [hlen, hsb, ← t1, Nat.add_assoc]
  exact List.take_add.symm
theorem readF_none {b : List UInt8} (h : (readF b).2.2.1 ≠ 0) : (readF b).1 = [] := by
  by_cases h1 : (num b).2.2 = 1
  · rw [read_short h1]
  · by_cases h0 : (num b).2.2 = 0
    · by_cases hl : 65536 < (num b).1
      · rw [read_limit h0 hl]
      · by_cases hc : b.length < (num b).2.1 + (num b).1 + 4
        · rw [read_cut h0 hl hc]
        · cases hs : isSealed ((b.drop (num b).2.1).take ((num b).1 + 4)) with
          | true => rw [read_yes h0 hl hc hs] at h; exact absurd rfl h
          | false => rw [read_no h0 hl hc hs]
    · rw [read_code h1 h0]
end Go.Proofs.YtikokimnhanloaaDoor
