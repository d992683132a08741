/-
  A list of lists of tuples among the arguments, with the bound of the second form.
-/
import Derived.Test.YtebbbiikphfjcaaSlB
import Derived.Test.YtebbbiikphfjcaaMgW
namespace Go.Proofs.Ytebbbiikphfjcaa
open Go.ChangeShapes Go.WideShapes Go.ChangeAt Go.RowKit Go.Deep
set_option linter.unusedVariables false
def LsRd (w : World) (v : Value) (A : List Vl) : Prop := RdS c1 w v A ∧ ∀ x ∈ A, TuRd w x.1 x.2
section
variable {H : Type} {enc : TypeId × Value → H}
theorem tuss_openB {w : World} {base : Nat} {v : Value} {d : DataW H} {p : List MemPlace} (hv : Value.okWide Try.prog w .any base 22 v) (h : DataW.Trod enc Try.prog w 0 (fun _ => true) true 22 v d p) :
    ∃ A : List Vl, LsRd w v A ∧ (Rows.uptoBulk d ≤ 1048576 → A.length ≤ 1048576 ∧ ∀ x ∈ A, x.2.length ≤ 1048576 ∧ ∀ t ∈ x.2, sizesT t 1048576) := by
  obtain ⟨a, len, cap, rfl⟩ := okWide_slice Try.underlying22 hv
  obtain ⟨fuel, hf⟩ := h
  obtain ⟨A, h1, h2, h3⟩ := sl_openB ((.slice none 0 0, []) : Vl) c1 c1_length (by decide) (fun x => TuRd w x.1 x.2) (fun x => x.2.length ≤ 1048576 ∧ ∀ t ∈ x.2, sizesT t 1048576) Try.underlying22 (by kernel_rfl) (fun fuel cs d p hl hf => by
    obtain ⟨u, rfl⟩ : ∃ u, cs = [u] := by
      match cs, hl with
      | [u], _ => exact ⟨u, rfl⟩
    obtain ⟨l, h1, _, h2⟩ := sl_openB t0 tc tc_length (by decide) (fun _ => True) (fun t => sizesT t 1048576) Try.underlying24 (by kernel_rfl) tu_trodB hf
    exact ⟨(u, l), rfl, h1, h2⟩) (show DataW.trod enc Try.prog w 0 (fun _ => true) true fuel 22 [.slice a len cap] = some (d, p) from hf)
  exact ⟨A, ⟨h1, h2⟩, h3⟩
end
end Go.Proofs.Ytebbbiikphfjcaa
