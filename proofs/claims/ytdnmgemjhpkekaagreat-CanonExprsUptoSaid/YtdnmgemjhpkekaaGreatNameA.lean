/-
  name.isSmall, set.has, consists, Reserved, Is, IsID, by plain functions on bytes.
-/
import Derived.Test.YtdnmgemjhpkekaaGreatRows
import Derived.Test.YtdnmgemjhpkekaaGreatPlain
import Derived.Test.YtdnmgemjhpkekaaGreatShelf
import Derived.WalkKit
import Derived.ProofKit
import Derived.OpenShut
import Derived.Below
import Derived.Lib.Hide
import Derived.WalkLawsBesides
import Derived.WalkSpells
namespace Go.Proofs.YtdnmgemjhpkekaaGreat
open Go.ChangeShapes Go.WideShapes Go.ChangeAt Go.RowKit
set_option linter.unusedVariables false

def smallB (c : UInt8) : Bool := decide (97 ≤ c.toNat ∧ c.toNat ≤ 122)
def digitB (c : UInt8) : Bool := decide (48 ≤ c.toNat ∧ c.toNat ≤ 57)
def upperB (c : UInt8) : Bool := decide (65 ≤ c.toNat ∧ c.toNat ≤ 90)
def hasB (cap : Bool) (signs : ByteArray) (c : UInt8) : Bool := if smallB c = true ∨ digitB c = true then true else if upperB c = true then cap else decide (0 ≤ Lib.indexByte signs.data.toList c)

theorem loopx (s : ByteArray) : ∀ (n i : Nat) (r : List UInt8), s.size - i = n → ByteArray.toList.loop s i r = r.reverse ++ s.data.toList.drop i
  | 0, i, r, h => by
    unfold ByteArray.toList.loop
    rw [if_neg (by omega), List.drop_eq_nil_of_le (by rw [Array.length_toList]; show s.size ≤ i; omega), List.append_nil]
  | n + 1, i, r, h => by
    unfold ByteArray.toList.loop
    have hi : i < s.size := by omega
    rw [if_pos hi, loopx s n (i + 1) _ (by omega)]
    rw [List.drop_eq_getElem_cons (i := i) (by rw [Array.length_toList]; exact hi)]
    rw [List.reverse_cons, List.append_assoc]
    congr 2
    show (s.get! i :: _) = _
    congr 1
    cases s with | mk d =>
    show d[i]! = d.toList[i]
    rw [getElem!_pos d i hi]; rfl
theorem toList_data (s : ByteArray) : s.toList = s.data.toList := by
  unfold ByteArray.toList
  rw [loopx s _ 0 [] rfl]; simp

theorem u8le (n : Nat) (c : UInt8) : decide ((n : Int) ≤ (c.toNat : Int)) = decide (n ≤ c.toNat) := by simp
theorem ret_b {a b : Bool} (h : a = b) : Ending.returned (.bool a) = .returned (.bool b) := by rw [h]

theorem hasB_t {cap : Bool} {signs : ByteArray} {c : UInt8} (h : smallB c = true ∨ digitB c = true) : hasB cap signs c = true := if_pos h
theorem hasB_u {cap : Bool} {signs : ByteArray} {c : UInt8} (h : ¬ (smallB c = true ∨ digitB c = true)) (h2 : upperB c = true) : hasB cap signs c = cap := by unfold hasB; rw [if_neg h, if_pos h2]
theorem hasB_s {cap : Bool} {signs : ByteArray} {c : UInt8} (h : ¬ (smallB c = true ∨ digitB c = true)) (h2 : ¬ upperB c = true) : hasB cap signs c = decide (0 ≤ Lib.indexByte signs.data.toList c) := by unfold hasB; rw [if_neg h, if_neg h2]

/-- At least one byte, at most 'most', all of which are in the set. -/
def consB (cap : Bool) (signs : ByteArray) (most : Nat) (l : List UInt8) : Bool := decide (1 ≤ l.length ∧ l.length ≤ most ∧ ∀ c ∈ l, hasB cap signs c = true)

end Go.Proofs.YtdnmgemjhpkekaaGreat
