/-
  Tuples as plain data: equality.
-/
import Derived.Test.YtebbbiikphfjcaaRows
import Derived.Test.YtebbbiikphfjcaaPlain
import Derived.Test.YtebbbiikphfjcaaShelf
import Derived.WalkKit
import Derived.ProofKit
import Derived.OpenShut
import Derived.Below
import Derived.Lib.Hide
import Derived.WalkLawsBesides
import Derived.WalkSpells
namespace Go.Proofs.Ytebbbiikphfjcaa
open Go.ChangeShapes Go.WideShapes Go.ChangeAt Go.RowKit
set_option linter.unusedVariables false


theorem loopx (s : ByteArray) : ∀ (n i : Nat) (r : List UInt8), s.size - i = n → ByteArray.toList.loop s i r = r.reverse ++ s.data.toList.drop i
  | 0, i, r, h => by
    unfold ByteArray.toList.loop
    rw [if_neg (by omega), List.drop_eq_nil_of_le (by rw [Array.length_toList]; show s.size ≤ i; omega), List.append_nil]
  | n + 1, i, r, h => by
    unfold ByteArray.toList.loop
    have hi : i < s.size := by omega
    rw [if_pos hi, loopx s n (i + 1) _ (by omega)]
    rw [List.drop_eq_getElem_cons (i := i) (by rw [Array.length_toList]; exact hi)]
    rw [List.reverse_cons, List.append_assoc]
    congr 2
    show (s.get! i :: _) = _
    congr 1
    cases s with | mk d =>
    show d[i]! = d.toList[i]
    rw [getElem!_pos d i hi]; rfl
theorem toList_data (s : ByteArray) : s.toList = s.data.toList := by
  unfold ByteArray.toList
  rw [loopx s _ 0 [] rfl]; simp


theorem seq_t {a b : ByteArray} (h : a = b) : (a.toList == b.toList) = true := by subst h; simp
theorem seq_f {a b : ByteArray} (h : ¬ a = b) : (a.toList == b.toList) = false := by
  rw [beq_eq_false_iff_ne]
  intro e
  rw [toList_data, toList_data] at e
  exact h (bytes_inj e)


structure Tu where
  ot : ByteArray
  oi : ByteArray
  re : ByteArray
  st : ByteArray
  si : ByteArray
  us : ByteArray
def e0 : ByteArray := ⟨#[]⟩
def t0 : Tu := ⟨e0, e0, e0, e0, e0, e0⟩
theorem size_len (s : ByteArray) : s.data.toList.length = s.size := by rw [Array.length_toList]; rfl
theorem e0_iff (s : ByteArray) : s = e0 ↔ s.data.toList = [] := by
  constructor
  · rintro rfl; rfl
  · intro h; exact bytes_inj h
/-- Are two tuples the same? -/
def eqT (a b : Tu) : Bool := decide (a.ot = b.ot) && (decide (a.oi = b.oi) && (decide (a.re = b.re) && (decide (a.st = b.st) && (decide (a.si = b.si) && decide (a.us = b.us)))))
theorem eqT_iff (a b : Tu) : eqT a b = true ↔ a = b := by
  cases a; cases b
  simp [eqT]
theorem eqT_refl (a : Tu) : eqT a a = true := (eqT_iff a a).2 rfl

end Go.Proofs.Ytebbbiikphfjcaa
