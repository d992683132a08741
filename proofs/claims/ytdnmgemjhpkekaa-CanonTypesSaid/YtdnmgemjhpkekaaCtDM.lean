/-
  The statement CanonTypesSaid: for any list of allowed types, types are put in the order of the reference implementation, each one once, and the list given is left as it was.
-/
import Derived.Test.YtdnmgemjhpkekaaMg3
import Derived.Test.YtdnmgemjhpkekaaRows
import Derived.Deep.Slices
import Derived.Deep.Fields
import Derived.ChangeSame
import Derived.SizedLaws
import Derived.HandedShaped
import Derived.OpenShut
import Derived.ShutString
import Derived.ChangeOld
import Derived.Carry
import Derived.JoinedOf
namespace Go.Proofs.Ytdnmgemjhpkekaa.canonTypes
open Go.ChangeShapes Go.WideShapes Go.ChangeAt Go.RowKit Go.Deep
set_option linter.unusedVariables false

section
variable {H : Type} {enc : TypeId × Value → H}
set_option maxRecDepth 100000 in
theorem yl_trod {w : World} (fuel : Nat) (cs : List Value) (d : DataW H) (p : List MemPlace) (hl : cs.length = 2) (hf' : DataW.trod enc Try.prog w 0 (fun _ => true) true fuel 27 cs = some (d, p)) :
    ∃ t : Yl, cs = yenc t ∧ (t.1.size ≤ maxLen ∧ t.2.size ≤ maxLen) ∧ ((∀ n ∈ d.weights Try.prog 27, n ≤ reachBytes) → True) := by
  obtain ⟨c0, c1, rfl⟩ : ∃ c0 c1, cs = [c0, c1] := by
    match cs, hl with
    | [c0, c1], _ => exact ⟨c0, c1, rfl⟩
  obtain ⟨y0, y1, m0, hx0, _, q0, q1⟩ := trod_struct2 Try.underlying27 hf'
  obtain ⟨s0, e0, rfl, z0⟩ := DataW.trod_string Try.underlying9 (show DataW.trod enc Try.prog w 0 (fun _ => true) true m0 9 [c0] = some y0 from q0)
  obtain ⟨s1, e1, rfl, z1⟩ := DataW.trod_string Try.underlying9 (show DataW.trod enc Try.prog w 0 (fun _ => true) true m0 9 [c1] = some y1 from q1)
  obtain rfl : c0 = .string s0 := by simpa using e0
  obtain rfl : c1 = .string s1 := by simpa using e1
  exact ⟨(s0, s1), rfl, ⟨z0, z1⟩, fun _ => trivial⟩
set_option maxRecDepth 100000 in
theorem yls_open {w : World} {base : Nat} {v : Value} {d : DataW H} {p : List MemPlace} (hv : Value.okWide Try.prog w .any base 22 v) (h : DataW.Trod enc Try.prog w 0 (fun _ => true) true 22 v d p) :
    ∃ l : List Yl, RdS yenc w v l ∧ ∀ t ∈ l, t.1.size ≤ maxLen ∧ t.2.size ≤ maxLen := by
  obtain ⟨a, len, cap, rfl⟩ := okWide_slice Try.underlying22 hv
  obtain ⟨fuel, hf⟩ := h
  obtain ⟨l, h1, h2, _⟩ := sl_open y0 yenc yenc_len (by decide) (fun t => t.1.size ≤ maxLen ∧ t.2.size ≤ maxLen) (fun _ => True) Try.underlying22 (by kernel_rfl) (of_decide_eq_true (by kernel_rfl)) yl_trod (show DataW.trod enc Try.prog w 0 (fun _ => true) true fuel 22 [.slice a len cap] = some (d, p) from hf)
  exact ⟨l, h1, h2⟩
end
theorem walk {v0 : Value} (l : List Yl) (w : World) (h : RdS yenc w v0 l) (o : ∀ t ∈ l, t.1.size ≤ maxLen ∧ t.2.size ≤ maxLen) :
    Calls Try.prog 3 #[v0] w fun e w' => e = .returned (.bool true) ∧ Below w.heap.size w w' :=
  ctlaw_any h o

theorem own : ownKnob Try.prog.godebug = none := by kernel_rfl
theorem laidOut : laidOutB Try.prog = true := by kernel_rfl

set_option maxRecDepth 100000 in
theorem lifted (os : Os) (started : os.Started) (H : Type) (enc : TypeId × Value → H) :
    ReturnsInHanded {} Try.checked os 3 .any (Rows.canonTypesSpec.pre6 enc Try.prog Try.f3 Rows.canonTypesRow.domain false) (Rows.canonTypesSpec.post enc Try.prog Try.f3 false true false false) := by
  refine returnsInHanded_of_change (C := Try.checked) own started (by kernel_rfl) Try.func3
    (ChangeSpec.witness6 (enc := enc) (C := Try.checked) false ⟨#[], #[.slice none 0 0], []⟩ 8 (by kernel_rfl) (by kernel_rfl) (by kernel_rfl) (by kernel_rfl)) ?_
  intro W base args ds gs before hval0 hW hcnd _
  have hval : ∀ (j : Nat) t v, Try.f3.params[j]? = some t → args[j]? = some v → Value.okWide Try.prog W .any base t v := hval0
  have hW' := hW
  obtain ⟨p, q, hA0, hV, rfl, hfz, hnd⟩ := hW
  have hA : DataW.TrodAll enc Try.prog W 0 (fun _ => true) true Try.f3.params.toList args.toList ds p := hA0
  rw [Try.params3] at hA hval
  obtain ⟨v0, vs0, d0, ds0, p0, q0, hargs, rfl, rfl, h0, r0⟩ := trodAll_cons hA
  obtain ⟨rfl, rfl, rfl⟩ := trodAll_nil r0
  obtain rfl : args = #[v0] := by cases args; simp_all
  obtain ⟨rfl, rfl⟩ := trodVars_none hV
  have k0 := h0
  have lt0 : ∀ x ∈ p0, x.block < W.heap.size := by obtain ⟨m, hm⟩ := k0; exact DataW.trod_lt m _ _ _ hm
  obtain ⟨a0, r0', o0⟩ := yls_open (hval 0 22 v0 rfl rfl) h0
  clear hA0 hval0
  refine (walk a0 W r0' o0).mono fun e W' ⟨he, bel⟩ => ?_
  subst he
  exact ⟨_, rfl, _, _, _, [], _, [], hW', trodAll_mk1 (shut_bool Try.underlying4 _), (trodAll_cons_mk (Below.trod laidOut (by kernel_rfl) (of_decide_eq_true (by kernel_rfl)) k0 bel lt0) trodAll_mk0), rfl, bel.frame _, fun h => by cases h⟩

theorem over : Rows.canonTypesRow.holds Try.pinned (OpenSpec.ofChange Rows.canonTypesSpec) :=
  OpenClaim.holds_of_wide 3 Try.f3 rfl rfl rfl rfl rfl rfl rfl ⟨rfl, rfl, rfl, rfl, rfl⟩ rfl rfl rfl rfl rfl (by kernel_rfl) Try.func3 (by kernel_rfl)
    (of_decide_eq_true (by kernel_rfl)) (by unfold Func.isWrapper; first | (rw [if_pos (by decide +kernel)]; kernel_rfl) | (rw [if_neg (by decide +kernel)]; exact ⟨rfl, rfl⟩))
    (fun os started H enc _ => lifted os started H enc)

/-- THE STATEMENT -/
theorem proved : Rows.CanonTypesSaid := over
end Go.Proofs.Ytdnmgemjhpkekaa.canonTypes
