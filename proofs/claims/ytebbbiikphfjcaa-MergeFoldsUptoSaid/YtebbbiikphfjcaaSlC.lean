/-
  What the bound of the second form says of the lists of changes among the arguments.
-/
import Derived.Test.YtebbbiikphfjcaaSlB
import Derived.Test.YtebbbiikphfjcaaBase
import Derived.Test.YtebbbiikphfjcaaMgN
namespace Go.Proofs.Ytebbbiikphfjcaa
open Go.ChangeShapes Go.WideShapes Go.ChangeAt Go.RowKit Go.Deep
set_option linter.unusedVariables false
section
variable {H : Type} {enc : TypeId × Value → H}
theorem list3 {α : Type} {l : List α} (h : l.length = 3) : ∃ a b c, l = [a, b, c] := by
  match l, h with
  | [a, b, c], _ => exact ⟨a, b, c, rfl⟩
set_option maxRecDepth 100000 in
theorem ce_trodB {w : World} (fuel : Nat) (cs : List Value) (d : DataW H) (p : List MemPlace) (hl : cs.length = 8) (hf' : DataW.trod enc Try.prog w 0 (fun _ => true) true fuel 45 cs = some (d, p)) :
    ∃ c : Ce, cs = cc c ∧ True ∧ (Rows.uptoBulk d ≤ 1048576 → sizesT c.2.2 1048576) := by
  obtain ⟨xs, n, _, hx, _, hlen, hel⟩ := DataW.trod_struct Try.underlying45 hf'
  obtain ⟨c0, c1, r, rfl, hr⟩ : ∃ c0 c1 r, cs = c0 :: c1 :: r ∧ r.length = 6 := by
    match cs, hl with
    | c0 :: c1 :: r, h => exact ⟨c0, c1, r, rfl, by simpa using h⟩
  obtain ⟨x0, x1, x2, rfl⟩ := list3 (show xs.length = 3 from hlen)
  have k0 := hel 0 _ rfl
  have k1 := hel 1 _ rfl
  have k2 := hel 2 _ rfl
  obtain ⟨z, e0, rfl, hz⟩ := DataW.trod_int Try.underlying43 (show DataW.trod enc Try.prog w 0 (fun _ => true) true n 43 [c0] = some x0 from k0)
  obtain ⟨b, e1, rfl⟩ := DataW.trod_bool Try.underlying4 (show DataW.trod enc Try.prog w 0 (fun _ => true) true n 4 [c1] = some x1 from k1)
  have h2 : DataW.trod enc Try.prog w 0 (fun _ => true) true n 34 r = some (x2.1, x2.2) := by
    have e : r.take 6 = r := List.take_of_length_le (by omega)
    have := show DataW.trod enc Try.prog w 0 (fun _ => true) true n 34 (r.take 6) = some x2 from k2
    rwa [e] at this
  obtain ⟨t, rfl, _, ht⟩ := tu_trodB n r x2.1 x2.2 hr h2
  obtain ⟨v, rfl, _⟩ := u64_nat hz
  obtain rfl : c0 = .int .u64 v := by simpa using e0
  obtain rfl : c1 = .bool b := by simpa using e1
  refine ⟨(v, b, t), rfl, trivial, fun hw => ht ?_⟩
  have hd := congrArg Prod.fst hx
  simp only [List.map_cons, List.map_nil] at hd
  subst hd
  simp only [Rows.uptoBulk, Rows.uptoBulkAll] at hw
  omega
set_option maxRecDepth 100000 in
theorem chs_openB {w : World} {base : Nat} {v : Value} {d : DataW H} {p : List MemPlace} (hv : Value.okWide Try.prog w .any base 42 v) (h : DataW.Trod enc Try.prog w 0 (fun _ => true) true 42 v d p) :
    ∃ l : List Ce, RdS cc w v l ∧ (Rows.uptoBulk d ≤ 1048576 → l.length ≤ 1048576 ∧ ∀ c ∈ l, sizesT c.2.2 1048576) := by
  obtain ⟨a, len, cap, rfl⟩ := okWide_slice Try.underlying42 hv
  obtain ⟨fuel, hf⟩ := h
  obtain ⟨l, h1, _, h2⟩ := sl_openB ((0, false, t0) : Ce) cc cc_length (by decide) (fun _ => True) (fun c => sizesT c.2.2 1048576) Try.underlying42 (by kernel_rfl) ce_trodB (show DataW.trod enc Try.prog w 0 (fun _ => true) true fuel 42 [.slice a len cap] = some (d, p) from hf)
  exact ⟨l, h1, h2⟩
end
end Go.Proofs.Ytebbbiikphfjcaa
