/-
  A tuple by its cells, and a slice of tuples among the arguments, opened.
-/
import Derived.Test.YtebbbiikphfjcaaTuOp
import Derived.Test.YtebbbiikphfjcaaSlO
namespace Go.Proofs.Ytebbbiikphfjcaa
open Go.ChangeShapes Go.WideShapes Go.ChangeAt Go.RowKit Go.Deep
set_option linter.unusedVariables false
section
variable {H : Type} {enc : TypeId × Value → H}
set_option maxRecDepth 100000 in
theorem tu_trod {w : World} (fuel : Nat) (cs : List Value) (d : DataW H) (p : List MemPlace) (hl : cs.length = 6) (hf' : DataW.trod enc Try.prog w 0 (fun _ => true) true fuel 34 cs = some (d, p)) :
    ∃ t : Tu, cs = tc t ∧ True ∧ ((∀ n ∈ d.weights Try.prog 34, n ≤ reachBytes) → sizesT t 140737488355328) := by
  obtain ⟨xs, n, _, hx, _, hlen, hel⟩ := DataW.trod_struct Try.underlying34 hf'
  obtain ⟨c0, c1, c2, c3, c4, c5, rfl⟩ : ∃ c0 c1 c2 c3 c4 c5, cs = [c0, c1, c2, c3, c4, c5] := by
    match cs, hl with
    | [c0, c1, c2, c3, c4, c5], _ => exact ⟨c0, c1, c2, c3, c4, c5, rfl⟩
  obtain ⟨x0, x1, x2, x3, rfl⟩ := list4 (show xs.length = 4 from hlen)
  have k0 := hel 0 _ rfl
  have k1 := hel 1 _ rfl
  have k2 := hel 2 _ rfl
  have k3 := hel 3 _ rfl
  obtain ⟨y0, y1, m0, hx0, _, q0, q1⟩ := trod_struct2 Try.underlying32 (show DataW.trod enc Try.prog w 0 (fun _ => true) true n 32 [c0, c1] = some x0 from k0)
  obtain ⟨s2, e2, rfl, _⟩ := DataW.trod_string Try.underlying9 (show DataW.trod enc Try.prog w 0 (fun _ => true) true n 9 [c2] = some x1 from k1)
  obtain ⟨y3, y4, m2, hx2, _, q3, q4⟩ := trod_struct2 Try.underlying32 (show DataW.trod enc Try.prog w 0 (fun _ => true) true n 32 [c3, c4] = some x2 from k2)
  obtain ⟨s5, e5, rfl, _⟩ := DataW.trod_string Try.underlying9 (show DataW.trod enc Try.prog w 0 (fun _ => true) true n 9 [c5] = some x3 from k3)
  obtain ⟨s0, e0, rfl, _⟩ := DataW.trod_string Try.underlying9 (show DataW.trod enc Try.prog w 0 (fun _ => true) true m0 9 [c0] = some y0 from q0)
  obtain ⟨s1, e1, rfl, _⟩ := DataW.trod_string Try.underlying9 (show DataW.trod enc Try.prog w 0 (fun _ => true) true m0 9 [c1] = some y1 from q1)
  obtain ⟨s3, e3, rfl, _⟩ := DataW.trod_string Try.underlying9 (show DataW.trod enc Try.prog w 0 (fun _ => true) true m2 9 [c3] = some y3 from q3)
  obtain ⟨s4, e4, rfl, _⟩ := DataW.trod_string Try.underlying9 (show DataW.trod enc Try.prog w 0 (fun _ => true) true m2 9 [c4] = some y4 from q4)
  subst hx0 hx2
  obtain rfl : c0 = .string s0 := by simpa using e0
  obtain rfl : c1 = .string s1 := by simpa using e1
  obtain rfl : c2 = .string s2 := by simpa using e2
  obtain rfl : c3 = .string s3 := by simpa using e3
  obtain rfl : c4 = .string s4 := by simpa using e4
  obtain rfl : c5 = .string s5 := by simpa using e5
  refine ⟨⟨s0, s1, s2, s3, s4, s5⟩, rfl, trivial, fun hw => ?_⟩
  have hd := congrArg Prod.fst hx
  simp only [List.map_cons, List.map_nil] at hd
  subst hd
  have hr : reachBytes ≤ 140737488355328 := Nat.le_of_lt reachBytes_lt
  simp only [DataW.weights, Try.underlying34, Try.underlying32, DataW.weightsEach, List.map_cons, List.map_nil, List.append_nil, List.mem_cons, List.not_mem_nil, or_false, List.cons_append, List.nil_append] at hw
  refine ⟨?_, ?_, ?_, ?_, ?_, ?_⟩
  · exact Nat.le_trans (hw s0.data.toList.length (by simp)) hr
  · exact Nat.le_trans (hw s1.data.toList.length (by simp)) hr
  · exact Nat.le_trans (hw s2.data.toList.length (by simp)) hr
  · exact Nat.le_trans (hw s3.data.toList.length (by simp)) hr
  · exact Nat.le_trans (hw s4.data.toList.length (by simp)) hr
  · exact Nat.le_trans (hw s5.data.toList.length (by simp)) hr
/-- A slice of tuples that is read. -/
abbrev TuRd (w : World) (v : Value) (l : List Tu) : Prop := RdS tc w v l
set_option maxRecDepth 100000 in
theorem tus_open {w : World} {base : Nat} {v : Value} {d : DataW H} {p : List MemPlace} (hv : Value.okWide Try.prog w .any base 24 v) (h : DataW.Trod enc Try.prog w 0 (fun _ => true) true 24 v d p) :
    ∃ l : List Tu, TuRd w v l ∧ ((∀ n ∈ d.weights Try.prog 24, n ≤ reachBytes) → l.length ≤ 140737488355328 ∧ ∀ t ∈ l, sizesT t 140737488355328) := by
  obtain ⟨a, len, cap, rfl⟩ := okWide_slice Try.underlying24 hv
  obtain ⟨fuel, hf⟩ := h
  obtain ⟨l, h1, _, h2⟩ := sl_open t0 tc tc_length (by decide) (fun _ => True) (fun t => sizesT t 140737488355328) Try.underlying24 (by kernel_rfl) (of_decide_eq_true (by kernel_rfl)) tu_trod (show DataW.trod enc Try.prog w 0 (fun _ => true) true fuel 24 [.slice a len cap] = some (d, p) from hf)
  exact ⟨l, h1, h2⟩
end
end Go.Proofs.Ytebbbiikphfjcaa
