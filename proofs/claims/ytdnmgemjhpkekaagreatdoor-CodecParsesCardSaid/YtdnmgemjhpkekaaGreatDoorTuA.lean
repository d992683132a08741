/-
  Texts as bytes (of XTuA); no program is spoken of.
-/
import Derived.Test.YtdnmgemjhpkekaaGreatDoorNumB
import Derived.Test.YtdnmgemjhpkekaaGreatDoorNameB
import Derived.Test.YtdnmgemjhpkekaaGreatDoorNameR
import Derived.Test.YtdnmgemjhpkekaaGreatDoorConv
import Derived.Test.YtdnmgemjhpkekaaGreatDoorBstr
namespace Go.Proofs.YtdnmgemjhpkekaaGreatDoor
open Go.ChangeShapes Go.WideShapes Go.ChangeAt Go.RowKit
set_option linter.unusedVariables false

def e0 : ByteArray := ⟨#[]⟩
theorem consB_size {cap : Bool} {signs : ByteArray} {most : Nat} {s : ByteArray} (h : consB cap signs most s.data.toList = true) : s.size ≤ most ∧ ∀ c ∈ s.data.toList, hasB cap signs c = true := by
  have h := of_decide_eq_true h
  have hs : s.data.toList.length = s.size := by rw [Array.length_toList]; rfl
  exact ⟨by omega, h.2.2⟩
theorem name_size {s : ByteArray} (h : isName s = true) : s.size ≤ 64 := by
  unfold isName at h
  simp only [Bool.and_eq_true] at h
  exact (consB_size h.1.1).1
theorem size_len (s : ByteArray) : s.data.toList.length = s.size := by rw [Array.length_toList]; rfl
theorem e0_iff (s : ByteArray) : s = e0 ↔ s.data.toList = [] := by
  constructor
  · rintro rfl; rfl
  · intro h; exact bytes_inj h
def putS (s : ByteArray) : List UInt8 := put s.size ++ s.data.toList
def partP (most : Nat) (r : List UInt8) : List UInt8 × Nat × Nat :=
  if (num r).2.2 ≠ 0 then ([], 0, (num r).2.2) else if most < (num r).1 then ([], 0, 15) else if r.length < (num r).2.1 + (num r).1 then ([], 0, 1)
  else ((r.drop (num r).2.1).take (num r).1, (num r).2.1 + (num r).1, 0)
theorem putS_len (s : ByteArray) (h : s.size < lim64) : (putS s).length ≤ 10 + s.size := by
  have := put_len10 h
  unfold putS
  rw [List.length_append, size_len]; omega
theorem part_put {most : Nat} {s : ByteArray} (r : List UInt8) (h : s.size ≤ most) (hm : most ≤ 1000) : partP most (putS s ++ r) = (s.data.toList, (putS s).length, 0) := by
  have hn := num_put (x := s.size) (by unfold lim64; omega) (s.data.toList ++ r)
  have e : putS s ++ r = put s.size ++ (s.data.toList ++ r) := by simp [putS]
  have hl := size_len s
  unfold partP
  rw [e, hn]
  simp only []
  rw [if_neg (by simp), if_neg (by omega), if_neg (by simp only [List.length_append, size_len]; omega)]
  rw [List.drop_left' rfl, List.take_left' hl]
  simp only [putS, List.length_append, size_len]
theorem part_back {most : Nat} {r : List UInt8} (h : (partP most r).2.2 = 0) : (partP most r).1.length ≤ most ∧ putS (str (partP most r).1) = r.take (partP most r).2.1 ∧ (partP most r).2.1 ≤ r.length ∧ (partP most r).2.1 = (putS (str (partP most r).1)).length := by
  unfold partP at h ⊢
  split at h
  · rename_i h1; exact absurd h h1
  split at h
  · cases h
  split at h
  · cases h
  rename_i h1 h2 h3
  rw [if_neg h1, if_neg h2, if_neg h3]
  have h1' := Classical.not_not.1 h1
  obtain ⟨b1, b2⟩ := num_back h1'
  obtain ⟨n, hn⟩ : ∃ n, n = (num r).1 := ⟨_, rfl⟩
  obtain ⟨k, hk⟩ : ∃ k, k = (num r).2.1 := ⟨_, rfl⟩
  rw [← hn] at h2 h3 b1 b2 ⊢
  rw [← hk] at h3 b1 b2 ⊢
  have hlen : ((r.drop k).take n).length = n := by rw [List.length_take, List.length_drop]; omega
  have e : putS (str ((r.drop k).take n)) = r.take (k + n) := by
    unfold putS
    rw [str_size, hlen, show (str ((r.drop k).take n)).data.toList = (r.drop k).take n from rfl, ← b1, List.take_add]
  refine ⟨by simp only []; omega, e, by simp only []; omega, ?_⟩
  simp only []
  rw [e, List.length_take]; omega
theorem partP_small (most : Nat) (r : List UInt8) : (partP most r).2.1 ≤ r.length := by
  by_cases h : (partP most r).2.2 = 0
  · exact (part_back h).2.2.1
  · unfold partP at h ⊢
    split
    · exact Nat.zero_le _
    split
    · exact Nat.zero_le _
    split
    · exact Nat.zero_le _
    rename_i h1 h2 h3
    rw [if_neg h1, if_neg h2, if_neg h3] at h
    exact absurd rfl h
theorem partP_bad {most : Nat} {r : List UInt8} (h : (partP most r).2.2 ≠ 0) : (partP most r).1 = [] ∧ (partP most r).2.1 = 0 := by
  unfold partP at h ⊢
  split
  · exact ⟨rfl, rfl⟩
  split
  · exact ⟨rfl, rfl⟩
  split
  · exact ⟨rfl, rfl⟩
  rename_i h1 h2 h3
  rw [if_neg h1, if_neg h2, if_neg h3] at h
  exact absurd rfl h
end Go.Proofs.YtdnmgemjhpkekaaGreatDoor
