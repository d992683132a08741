/-
  A tuple among the arguments, opened.
-/
import Derived.Test.YtebbbiikphfjcaaTuB
import Derived.Test.YtebbbiikphfjcaaTuL
import Derived.Deep.Fields
import Derived.ChangeSame
import Derived.SizedLaws
import Derived.HandedShaped
import Derived.OpenShut
namespace Go.Proofs.Ytebbbiikphfjcaa
open Go.ChangeShapes Go.WideShapes Go.ChangeAt Go.RowKit
set_option linter.unusedVariables false
section
variable {H : Type} {enc : TypeId × Value → H}
theorem cellsTu : Try.prog.cellsOf 34 = 6 := by kernel_rfl
theorem list4 {α : Type} {l : List α} (h : l.length = 4) : ∃ a b c d, l = [a, b, c, d] := by
  match l, h with
  | [a, b, c, d], _ => exact ⟨a, b, c, d, rfl⟩
set_option maxRecDepth 100000 in
theorem tu_open {w : World} {base : Nat} {v : Value} {d : DataW H} {p : List MemPlace} (hv : Value.okWide Try.prog w .any base 34 v) (h : DataW.Trod enc Try.prog w 0 (fun _ => true) true 34 v d p) :
    ∃ t : Tu, v = tuV t ∧ ((∀ n ∈ d.weights Try.prog 34, n ≤ reachBytes) → sizesT t 140737488355328) := by
  obtain ⟨cs, rfl, hsz⟩ := okWide_struct Try.underlying34 hv
  obtain ⟨fuel, hf⟩ := h
  have hf' : DataW.trod enc Try.prog w 0 (fun _ => true) true fuel 34 cs.toList = some (d, p) := hf
  obtain ⟨xs, n, _, hx, _, hlen, hel⟩ := DataW.trod_struct Try.underlying34 hf'
  rw [cellsTu] at hsz
  have hl : cs.toList.length = 6 := by simpa using hsz
  obtain ⟨c0, c1, c2, c3, c4, c5, hcs⟩ : ∃ c0 c1 c2 c3 c4 c5, cs.toList = [c0, c1, c2, c3, c4, c5] := by
    match cs.toList, hl with
    | [c0, c1, c2, c3, c4, c5], _ => exact ⟨c0, c1, c2, c3, c4, c5, rfl⟩
  rw [hcs] at hel
  obtain ⟨x0, x1, x2, x3, rfl⟩ := list4 (show xs.length = 4 from hlen)
  have k0 := hel 0 _ rfl
  have k1 := hel 1 _ rfl
  have k2 := hel 2 _ rfl
  have k3 := hel 3 _ rfl
  obtain ⟨y0, y1, m0, hx0, _, q0, q1⟩ := trod_struct2 Try.underlying32 (show DataW.trod enc Try.prog w 0 (fun _ => true) true n 32 [c0, c1] = some x0 from k0)
  obtain ⟨s2, e2, rfl, _⟩ := DataW.trod_string Try.underlying9 (show DataW.trod enc Try.prog w 0 (fun _ => true) true n 9 [c2] = some x1 from k1)
  obtain ⟨y3, y4, m2, hx2, _, q3, q4⟩ := trod_struct2 Try.underlying32 (show DataW.trod enc Try.prog w 0 (fun _ => true) true n 32 [c3, c4] = some x2 from k2)
  obtain ⟨s5, e5, rfl, _⟩ := DataW.trod_string Try.underlying9 (show DataW.trod enc Try.prog w 0 (fun _ => true) true n 9 [c5] = some x3 from k3)
  obtain ⟨s0, e0, rfl, _⟩ := DataW.trod_string Try.underlying9 (show DataW.trod enc Try.prog w 0 (fun _ => true) true m0 9 [c0] = some y0 from q0)
  obtain ⟨s1, e1, rfl, _⟩ := DataW.trod_string Try.underlying9 (show DataW.trod enc Try.prog w 0 (fun _ => true) true m0 9 [c1] = some y1 from q1)
  obtain ⟨s3, e3, rfl, _⟩ := DataW.trod_string Try.underlying9 (show DataW.trod enc Try.prog w 0 (fun _ => true) true m2 9 [c3] = some y3 from q3)
  obtain ⟨s4, e4, rfl, _⟩ := DataW.trod_string Try.underlying9 (show DataW.trod enc Try.prog w 0 (fun _ => true) true m2 9 [c4] = some y4 from q4)
  subst hx0 hx2
  obtain rfl : c0 = .string s0 := by simpa using e0
  obtain rfl : c1 = .string s1 := by simpa using e1
  obtain rfl : c2 = .string s2 := by simpa using e2
  obtain rfl : c3 = .string s3 := by simpa using e3
  obtain rfl : c4 = .string s4 := by simpa using e4
  obtain rfl : c5 = .string s5 := by simpa using e5
  refine ⟨⟨s0, s1, s2, s3, s4, s5⟩, ?_, fun hw => ?_⟩
  · have : cs = (tc ⟨s0, s1, s2, s3, s4, s5⟩).toArray := by rw [← Array.toArray_toList (xs := cs), hcs]; rfl
    rw [this]
  · have hd := congrArg Prod.fst hx
    simp only [List.map_cons, List.map_nil] at hd
    subst hd
    have hr : reachBytes ≤ 140737488355328 := Nat.le_of_lt reachBytes_lt
    simp only [DataW.weights, Try.underlying34, Try.underlying32, DataW.weightsEach, List.map_cons, List.map_nil, List.append_nil, List.mem_cons, List.not_mem_nil, or_false, List.cons_append, List.nil_append] at hw
    refine ⟨?_, ?_, ?_, ?_, ?_, ?_⟩
    · exact Nat.le_trans (hw s0.data.toList.length (by simp)) hr
    · exact Nat.le_trans (hw s1.data.toList.length (by simp)) hr
    · exact Nat.le_trans (hw s2.data.toList.length (by simp)) hr
    · exact Nat.le_trans (hw s3.data.toList.length (by simp)) hr
    · exact Nat.le_trans (hw s4.data.toList.length (by simp)) hr
    · exact Nat.le_trans (hw s5.data.toList.length (by simp)) hr
end
end Go.Proofs.Ytebbbiikphfjcaa
