/-
  Strings as lists of bytes.
-/
import Derived.Test.YtdnmgemjhpkekaaGreatNameA
namespace Go.Proofs.YtdnmgemjhpkekaaGreat
open Go.ChangeShapes Go.WideShapes Go.ChangeAt Go.RowKit
set_option linter.unusedVariables false

def bstr (l : List UInt8) : ByteArray := ⟨l.toArray⟩
theorem bstr_data (l : List UInt8) : (bstr l).data.toList = l := rfl
theorem bstr_back (s : ByteArray) : bstr s.data.toList = s := rfl
theorem bstr_size (l : List UInt8) : (bstr l).size = l.length := by show l.toArray.size = _; simp
theorem bstr_app (a b : List UInt8) : bstr a ++ bstr b = bstr (a ++ b) := by
  apply bytes_inj
  show (bstr a ++ bstr b).data.toList = (bstr (a ++ b)).data.toList
  rw [ByteArray.data_append, Array.toList_append]; rfl
theorem bstr_ne {a b : List UInt8} (h : a ≠ b) : ((bstr a).toList == (bstr b).toList) = false := by rw [toList_data, toList_data, bstr_data, bstr_data]; simpa using h
theorem bstr_eqv {a b : List UInt8} (h : a = b) : ((bstr a).toList == (bstr b).toList) = true := by rw [h]; simp
end Go.Proofs.YtdnmgemjhpkekaaGreat
