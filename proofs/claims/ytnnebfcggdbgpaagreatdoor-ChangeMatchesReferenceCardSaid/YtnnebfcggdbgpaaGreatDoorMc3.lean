/-
  An entry, a slice of entries among the arguments, opened.
-/
import Derived.Test.YtnnebfcggdbgpaaGreatDoorMc0
import Derived.Test.YtnnebfcggdbgpaaGreatDoorMc1
import Derived.Test.YtnnebfcggdbgpaaGreatDoorBase
import Derived.Test.YtnnebfcggdbgpaaGreatDoorMc2
namespace Go.Proofs.YtnnebfcggdbgpaaGreatDoor
open Go.ChangeShapes Go.WideShapes Go.ChangeAt Go.RowKit Go.Deep
set_option linter.unusedVariables false
section
variable {H : Type} {enc : TypeId × Value → H}
theorem list3 {α : Type} {l : List α} (h : l.length = 3) : ∃ a b c, l = [a, b, c] := by
  match l, h with
  | [a, b, c], _ => exact ⟨a, b, c, rfl⟩
theorem cellsCh : Tryz.prog.cellsOf 61 = 8 := by kernel_rfl
set_option maxRecDepth 100000 in
theorem ch_trod {w : World} (fuel : Nat) (cs : List Value) (d : DataW H) (p : List MemPlace) (hl : cs.length = 8) (hf' : DataW.trod enc Tryz.prog w 0 (fun _ => true) true fuel 61 cs = some (d, p)) :
    ∃ c : Ch, cs = chc c ∧ True ∧ ((∀ n ∈ d.weights Tryz.prog 61, n ≤ reachBytes) → sizesT c.t 140737488355328) := by
  obtain ⟨xs, n, _, hx, _, hlen, hel⟩ := DataW.trod_struct Tryz.underlying61 hf'
  obtain ⟨c0, c1, r, rfl, hr⟩ : ∃ c0 c1 r, cs = c0 :: c1 :: r ∧ r.length = 6 := by
    match cs, hl with
    | c0 :: c1 :: r, h => exact ⟨c0, c1, r, rfl, by simpa using h⟩
  obtain ⟨x0, x1, x2, rfl⟩ := list3 (show xs.length = 3 from hlen)
  have k0 := hel 0 _ rfl
  have k1 := hel 1 _ rfl
  have k2 := hel 2 _ rfl
  obtain ⟨z, e0, rfl, hz⟩ := DataW.trod_int Tryz.underlying59 (show DataW.trod enc Tryz.prog w 0 (fun _ => true) true n 59 [c0] = some x0 from k0)
  obtain ⟨b, e1, rfl⟩ := DataW.trod_bool Tryz.underlying4 (show DataW.trod enc Tryz.prog w 0 (fun _ => true) true n 4 [c1] = some x1 from k1)
  have h2 : DataW.trod enc Tryz.prog w 0 (fun _ => true) true n 25 r = some (x2.1, x2.2) := by
    have e : r.take 6 = r := List.take_of_length_le (by omega)
    have := show DataW.trod enc Tryz.prog w 0 (fun _ => true) true n 25 (r.take 6) = some x2 from k2
    rwa [e] at this
  obtain ⟨t, rfl, _, ht⟩ := tu_trod n r x2.1 x2.2 hr h2
  obtain ⟨v, rfl, _⟩ := u64_nat hz
  obtain rfl : c0 = .int .u64 v := by simpa using e0
  obtain rfl : c1 = .bool b := by simpa using e1
  refine ⟨⟨v, b, t⟩, rfl, trivial, fun hw => ht fun m hm => hw m ?_⟩
  have hd := congrArg Prod.fst hx
  simp only [List.map_cons, List.map_nil] at hd
  subst hd
  simp only [DataW.weights, Tryz.underlying61, DataW.weightsEach, List.map_cons, List.map_nil, List.append_nil, List.nil_append]
  exact hm
set_option maxRecDepth 100000 in
theorem ch_open {w : World} {base : Nat} {v : Value} {d : DataW H} {p : List MemPlace} (hv : Value.okWide Tryz.prog w .any base 61 v) (h : DataW.Trod enc Tryz.prog w 0 (fun _ => true) true 61 v d p) :
    ∃ c : Ch, v = chV c ∧ ((∀ n ∈ d.weights Tryz.prog 61, n ≤ reachBytes) → sizesT c.t 140737488355328) := by
  obtain ⟨cs, rfl, hsz⟩ := okWide_struct Tryz.underlying61 hv
  obtain ⟨fuel, hf⟩ := h
  rw [cellsCh] at hsz
  obtain ⟨c, hc, _, hs⟩ := ch_trod fuel cs.toList d p (by simpa using hsz) (show DataW.trod enc Tryz.prog w 0 (fun _ => true) true fuel 61 cs.toList = some (d, p) from hf)
  refine ⟨c, ?_, hs⟩
  have : cs = (chc c).toArray := by rw [← Array.toArray_toList (xs := cs), hc]
  rw [this]
set_option maxRecDepth 100000 in
theorem chs_open {w : World} {base : Nat} {v : Value} {d : DataW H} {p : List MemPlace} (hv : Value.okWide Tryz.prog w .any base 73 v) (h : DataW.Trod enc Tryz.prog w 0 (fun _ => true) true 73 v d p) :
    ∃ l : List Ch, RdS chc w v l ∧ ((∀ n ∈ d.weights Tryz.prog 73, n ≤ reachBytes) → l.length ≤ 140737488355328 ∧ ∀ c ∈ l, sizesT c.t 140737488355328) := by
  obtain ⟨a, len, cap, rfl⟩ := okWide_slice Tryz.underlying73 hv
  obtain ⟨fuel, hf⟩ := h
  obtain ⟨l, h1, _, h2⟩ := sl_open c0 chc chc_length (by decide) (fun _ => True) (fun c => sizesT c.t 140737488355328) Tryz.underlying73 (by kernel_rfl) (of_decide_eq_true (by kernel_rfl)) ch_trod (show DataW.trod enc Tryz.prog w 0 (fun _ => true) true fuel 73 [.slice a len cap] = some (d, p) from hf)
  exact ⟨l, h1, h2⟩
end
end Go.Proofs.YtnnebfcggdbgpaaGreatDoor
/-
  All walks of stage 21 and what their cards want: a top to merge under.
-/
namespace Go.Proofs.YtnnebfcggdbgpaaGreatDoor
end Go.Proofs.YtnnebfcggdbgpaaGreatDoor
