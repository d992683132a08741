/-
  What any bytes are cut into: the payloads, their offsets, and the first fault with its offset.
-/
import Derived.Test.YtikokimnhanloaaDoorFrG
namespace Go.Proofs.YtikokimnhanloaaDoor
open Go.ChangeShapes Go.WideShapes Go.ChangeAt Go.RowKit
set_option linter.unusedVariables false

def splitF : Nat → Nat → List UInt8 → List (List UInt8) × List Nat × Nat × Nat
  | 0, _, _ => ([], [], 0, 0)
  | n + 1, at_, l =>
    if l.length = 0 then ([], [], 0, 0) else if (readF l).2.2.1 ≠ 0 then ([], [], (readF l).2.2.1, at_ + (readF l).2.2.2)
    else ((readF l).1 :: (splitF n (at_ + (readF l).2.1) (l.drop (readF l).2.1)).1, at_ :: (splitF n (at_ + (readF l).2.1) (l.drop (readF l).2.1)).2.1,
      (splitF n (at_ + (readF l).2.1) (l.drop (readF l).2.1)).2.2)
/-- Where a walk over l stands: it is at i, has the payloads ks and the offsets os behind it, and R is what comes of all. -/
def Cut (l : List UInt8) (R : List (List UInt8) × List Nat × Nat × Nat) (i : Nat) (ks : List (List UInt8)) (os : List Nat) : Prop :=
  i ≤ l.length ∧ ks.length = os.length ∧ 5 * ks.length ≤ i ∧ ∃ n, l.length ≤ i + n ∧ R = (ks ++ (splitF n i (l.drop i)).1, os ++ (splitF n i (l.drop i)).2.1, (splitF n i (l.drop i)).2.2)
theorem cut_start (l : List UInt8) : Cut l (splitF l.length 0 l) 0 [] [] := ⟨Nat.zero_le _, rfl, Nat.zero_le _, l.length, by omega, rfl⟩
theorem cut_end {l : List UInt8} {R : List (List UInt8) × List Nat × Nat × Nat} {i : Nat} {ks : List (List UInt8)} {os : List Nat} (h : Cut l R i ks os) (hi : ¬ i < l.length) : R = (ks, os, 0, 0) := by
  obtain ⟨h1, _, _, n, h2, rfl⟩ := h
  have hl : (l.drop i).length = 0 := by rw [List.length_drop]; omega
  cases n with
  | zero => simp [splitF]
  | succ n => simp [splitF, hl]
theorem cut_err {l : List UInt8} {R : List (List UInt8) × List Nat × Nat × Nat} {i : Nat} {ks : List (List UInt8)} {os : List Nat} (h : Cut l R i ks os) (hi : i < l.length) (he : (readF (l.drop i)).2.2.1 ≠ 0) :
    R = (ks, os, (readF (l.drop i)).2.2.1, i + (readF (l.drop i)).2.2.2) := by
  obtain ⟨h1, _, _, n, h2, rfl⟩ := h
  have hl : (l.drop i).length ≠ 0 := by rw [List.length_drop]; omega
  cases n with
  | zero => omega
  | succ n => unfold splitF; rw [if_neg hl, if_pos he]; simp
theorem readF_used {l : List UInt8} (h : (readF l).2.2.1 = 0) : 5 ≤ (readF l).2.1 ∧ (readF l).2.1 ≤ l.length := by
  obtain ⟨k1, k2, k3⟩ := readF_back h
  refine ⟨?_, k3⟩
  have : (l.take (readF l).2.1).length = (readF l).2.1 := by rw [List.length_take]; omega
  rw [← this, ← k1]
  unfold framed
  rw [List.length_append, sealed_len]
  have hp := put_pos (readF l).1.length
  omega
theorem cut_next {l : List UInt8} {R : List (List UInt8) × List Nat × Nat × Nat} {i : Nat} {ks : List (List UInt8)} {os : List Nat} (h : Cut l R i ks os) (hi : i < l.length) (he : (readF (l.drop i)).2.2.1 = 0) :
    Cut l R (i + (readF (l.drop i)).2.1) (ks ++ [(readF (l.drop i)).1]) (os ++ [i]) := by
  obtain ⟨h1, h0, h5, n, h2, rfl⟩ := h
  obtain ⟨u1, u2⟩ := readF_used he
  rw [List.length_drop] at u2
  have hl : (l.drop i).length ≠ 0 := by rw [List.length_drop]; omega
  refine ⟨by omega, by simp [h0], by simp; omega, ?_⟩
  cases n with
  | zero => omega
  | succ n =>
    refine ⟨n, by omega, ?_⟩
    rw [← List.drop_drop]
    generalize l.drop i = m at *
    rw [splitF, if_neg hl, if_neg (by omega)]
    simp
end Go.Proofs.YtikokimnhanloaaDoor
