/-
  name.Reserved, Is, IsID.
-/
import Derived.Test.YtdnmgemjhpkekaaGreatNameA
namespace Go.Proofs.YtdnmgemjhpkekaaGreat
open Go.ChangeShapes Go.WideShapes Go.ChangeAt Go.RowKit
set_option linter.unusedVariables false

def wDef : ByteArray := ⟨#[100, 101, 102, 105, 110, 105, 116, 105, 111, 110]⟩
def wRel : ByteArray := ⟨#[114, 101, 108, 97, 116, 105, 111, 110]⟩
def wPerm : ByteArray := ⟨#[112, 101, 114, 109, 105, 115, 115, 105, 111, 110]⟩
def resB (s : ByteArray) : Bool := decide (s = wDef ∨ s = wRel ∨ s = wPerm)
theorem seq_t {a b : ByteArray} (h : a = b) : (a.toList == b.toList) = true := by subst h; simp
theorem seq_f {a b : ByteArray} (h : ¬ a = b) : (a.toList == b.toList) = false := by
  rw [beq_eq_false_iff_ne]
  intro e
  rw [toList_data, toList_data] at e
  exact h (bytes_inj e)
def isId (s : ByteArray) : Bool := consB true ⟨#[95, 45, 46, 47, 61]⟩ 128 s.data.toList
def isName (s : ByteArray) : Bool := consB false ⟨#[95]⟩ 64 s.data.toList && smallB (s.data.toList.getD 0 0) && !resB s
end Go.Proofs.YtdnmgemjhpkekaaGreat
