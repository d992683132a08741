/-
  bytes.Clone of any slice; frame.All, and what its closure holds.
-/
import Derived.Test.YtikokimnhanloaaDoorFrE
namespace Go.Proofs.YtikokimnhanloaaDoor
open Go.ChangeShapes Go.WideShapes Go.ChangeAt Go.RowKit
open errAs (ErrT)
set_option linter.unusedVariables false

theorem eqlSn (w : World) : (binOp BinOp.eql 22 (.slice none 0 0) (.slice none 0 0)).run Tryd.prog w = .ok (.bool true) w := by kernel_rfl
set_option maxRecDepth 100000 in
theorem clone_a {B : Nat} {w : World} {a : Addr} {cap : Nat} {l : List UInt8} (hr : Rd B w (.slice (some a) l.length cap) l) (hB : B ≤ w.heap.size) (hl : l.length ≤ 1000000000) :
    Calls Tryd.prog 36 #[.slice (some a) l.length cap] w (Owned w l) := by
  have hb0 : Below w.heap.size w (w.alloc (.cells #[] 5)) := (Below.refl _ _).alloc (Nat.le_refl _) _
  have hr1 := hr.below hb0 hB
  have hq := eqlSl
  clear hr
  go_enter Tryd.func36, Tryd.ntmps36
  go_wp2_with (at_builtin; refine app_bytes rfl _ _ rfl rfl (own_empty w (Nat.le_refl _)) rfl hr1 (by simp; omega) (by simp) ?_)
  intro v w1 o1 g1
  have hb1 := below_grown hb0 hb0.size (Nat.le_refl _) (own_empty w (Nat.le_refl _)) g1
  have HF := Lib.hid (And.intro o1 hb1)
  clear o1 g1 hb0 hr1 hb1
  go_wp2_with fail
  go_ret
  exact ⟨_, rfl, HF.out.1, HF.out.2⟩
set_option maxRecDepth 100000 in
theorem clone_nil (w : World) : Calls Tryd.prog 36 #[.slice none 0 0] w (Owned w []) := by
  have hq := eqlSn
  go_enter Tryd.func36, Tryd.ntmps36
  go_wp2_with fail
  go_ret
  exact ⟨_, rfl, World.ownsRow_nil _ _ _ _, Below.refl _ _⟩
theorem clone_every {B : Nat} {w : World} {vb : Value} {l : List UInt8} (hr : Rd B w vb l) (hB : B ≤ w.heap.size) (hl : l.length ≤ 1000000000) :
    Calls Tryd.prog 36 #[vb] w (Owned w l) := by
  have hr0 := hr
  rcases hr0 with ⟨oa, rfl, rfl⟩ | ⟨b, off, cap, rfl, h1, h2, h3, hc⟩
  · cases oa with
    | none => exact clone_nil w
    | some a => exact clone_a hr hB hl
  · exact clone_a hr hB hl

set_option maxRecDepth 100000 in
theorem fall_any {B : Nat} {w : World} {vb : Value} {l : List UInt8} (hr : Rd B w vb l) (hB : B ≤ w.heap.size) (hl : l.length ≤ 1000000000) :
    Calls Tryd.prog 19 #[vb] w fun e w' => ∃ g v, e = .returned (.func (.func 37) #[] #[.pointer (some ⟨g, 0, none⟩)]) ∧ w.heap.size ≤ g ∧ g < w'.heap.size ∧ w'.cell? ⟨g, 0, none⟩ = some v ∧ Rd g w' v l ∧ Below w.heap.size w w' := by
  have hmf : ∀ (fn : Fn) (first cap : Array Value) (w : World), (Instr.makeFunc fn first cap).run Tryd.prog w = .ok (.func fn first cap) w := fun _ _ _ _ => rfl
  have HC := Lib.hid (clone_every hr hB hl)
  clear hr
  go_enter Tryd.func19, Tryd.ntmps19
  go_wp2_with fail
  refine HC.out.mono ?_
  rintro e w1 ⟨v, rfl, o1, b1⟩
  obtain ⟨q1, c1, rfl, _, _⟩ := (Rd.of_own o1).form
  have HB := Lib.hid b1
  have HR := Lib.hid (Rd.of_own o1)
  clear o1 b1
  go_wp2_with fail
  go_ret
  have hb : Below w1.heap.size w1 (w1.alloc (.cells #[.slice q1 l.length c1] 22)) := (Below.refl _ _).alloc (Nat.le_refl _) _
  refine ⟨w1.heap.size, .slice q1 l.length c1, rfl, HB.out.size, by simp, ?_, HR.out.below hb (Nat.le_refl _), HB.out.alloc HB.out.size _⟩
  rw [cell_of_row _ _ _ _ 22 (0, 0) (heap_alloc_new w1 _)]; rfl
end Go.Proofs.YtikokimnhanloaaDoor
