/-
  A tuple among the arguments, with the bound of the second form.
-/
import Derived.Test.YtebbbiikphfjcaaSlB
namespace Go.Proofs.Ytebbbiikphfjcaa
open Go.ChangeShapes Go.WideShapes Go.ChangeAt Go.RowKit Go.Deep
set_option linter.unusedVariables false
section
variable {H : Type} {enc : TypeId × Value → H}
theorem tu_openB {w : World} {base : Nat} {v : Value} {d : DataW H} {p : List MemPlace} (hv : Value.okWide Try.prog w .any base 34 v) (h : DataW.Trod enc Try.prog w 0 (fun _ => true) true 34 v d p) :
    ∃ t : Tu, v = tuV t ∧ (Rows.uptoBulk d ≤ 1048576 → sizesT t 1048576) := by
  obtain ⟨cs, rfl, hsz⟩ := okWide_struct Try.underlying34 hv
  obtain ⟨fuel, hf⟩ := h
  rw [cellsTu] at hsz
  obtain ⟨t, ht, _, hs⟩ := tu_trodB fuel cs.toList d p (by simpa using hsz) (show DataW.trod enc Try.prog w 0 (fun _ => true) true fuel 34 cs.toList = some (d, p) from hf)
  refine ⟨t, ?_, hs⟩
  have : cs = (tc t).toArray := by rw [← Array.toArray_toList (xs := cs), ht]
  rw [this]
end
end Go.Proofs.Ytebbbiikphfjcaa
