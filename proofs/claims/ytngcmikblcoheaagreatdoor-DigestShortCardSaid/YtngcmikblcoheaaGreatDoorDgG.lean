/-
  DigestShort's awake, continued: digest.Schema of a schema that is not right.
-/
import Derived.Test.YtngcmikblcoheaaGreatDoorDgF
namespace Go.Proofs.YtngcmikblcoheaaGreatDoor
open Go.ChangeShapes Go.WideShapes Go.ChangeAt Go.RowKit
set_option linter.unusedVariables false
def z32 : List Value := [.int .u8 0, .int .u8 0, .int .u8 0, .int .u8 0, .int .u8 0, .int .u8 0, .int .u8 0, .int .u8 0, .int .u8 0, .int .u8 0, .int .u8 0, .int .u8 0, .int .u8 0, .int .u8 0, .int .u8 0, .int .u8 0, .int .u8 0, .int .u8 0, .int .u8 0, .int .u8 0, .int .u8 0, .int .u8 0, .int .u8 0, .int .u8 0, .int .u8 0, .int .u8 0, .int .u8 0, .int .u8 0, .int .u8 0, .int .u8 0, .int .u8 0, .int .u8 0]
theorem storeN {ops : Array Oper} {Q : Exit → Act → World → Prop} {rest : List Oper} {o : Oper} {a : Act} {w : World} {t : TypeId} {g : Nat} {x y : Operand} {old : List Value} (hA : Arr w t g old) (ho : old.length = 32) (hs : o.guard = none ∧ o.op = .store 22 x y ∧ a.eval x = .pointer (some ⟨g, 0, none⟩) ∧ a.eval y = .agg #[.int .u8 0, .int .u8 0, .int .u8 0, .int .u8 0, .int .u8 0, .int .u8 0, .int .u8 0, .int .u8 0, .int .u8 0, .int .u8 0, .int .u8 0, .int .u8 0, .int .u8 0, .int .u8 0, .int .u8 0, .int .u8 0, .int .u8 0, .int .u8 0, .int .u8 0, .int .u8 0, .int .u8 0, .int .u8 0, .int .u8 0, .int .u8 0, .int .u8 0, .int .u8 0, .int .u8 0, .int .u8 0, .int .u8 0, .int .u8 0, .int .u8 0, .int .u8 0])
    (hk : wpList Tryz.prog ops Q rest (a.put o.dst undef) (w.setRow g z32.toArray)) : wpList Tryz.prog ops Q (o :: rest) a w :=
  store_arr hs.1 _ x y hs.2.1 (cs := z32) hA hs.2.2.1 hs.2.2.2 (by kernel_rfl) ho (by
    intro v hv
    simp only [z32, List.mem_cons, List.not_mem_nil, or_false, or_self] at hv
    subst hv; rfl) hk
set_option maxRecDepth 100000 in
set_option maxHeartbeats 2000000 in
theorem schema1 (W : World) (g : Nat) (hg : Arr W 49 g [.string ByteArray.empty, .slice none 0 0]) : Calls Tryz.prog 7 #[.agg #[.slice (some ⟨g, 0, none⟩) 1 1]] W fun r w' => r = .returned (.tuple #[.agg z32.toArray, .bool false]) ∧ Below W.heap.size W w' := by
  have HA := Lib.hid (input1 _ g ((hg.alloc (.cells #[.slice (some ⟨g, 0, none⟩) 1 1] 32)).alloc (.cells #[.int .u8 0, .int .u8 0, .int .u8 0, .int .u8 0, .int .u8 0, .int .u8 0, .int .u8 0, .int .u8 0, .int .u8 0, .int .u8 0, .int .u8 0, .int .u8 0, .int .u8 0, .int .u8 0, .int .u8 0, .int .u8 0, .int .u8 0, .int .u8 0, .int .u8 0, .int .u8 0, .int .u8 0, .int .u8 0, .int .u8 0, .int .u8 0, .int .u8 0, .int .u8 0, .int .u8 0, .int .u8 0, .int .u8 0, .int .u8 0, .int .u8 0, .int .u8 0] 22)))
  clear hg
  go_enter Tryz.func7, Tryz.ntmps7
  go_wp2_with fail
  refine HA.out.mono ?_
  rintro r w1 ⟨rfl, b1⟩
  have HR := (Arr.new' (W.alloc (.cells #[.slice (some ⟨g, 0, none⟩) 1 1] 32)) 22 #[.int .u8 0, .int .u8 0, .int .u8 0, .int .u8 0, .int .u8 0, .int .u8 0, .int .u8 0, .int .u8 0, .int .u8 0, .int .u8 0, .int .u8 0, .int .u8 0, .int .u8 0, .int .u8 0, .int .u8 0, .int .u8 0, .int .u8 0, .int .u8 0, .int .u8 0, .int .u8 0, .int .u8 0, .int .u8 0, .int .u8 0, .int .u8 0, .int .u8 0, .int .u8 0, .int .u8 0, .int .u8 0, .int .u8 0, .int .u8 0, .int .u8 0, .int .u8 0] z32 rfl).later b1
  rw [World.size_alloc] at HR
  have HR := Lib.hid HR
  have HB := Lib.hid (ba (ba b1))
  clear b1 HA
  go_wp2_with ((with_reducible refine storeN (x := .tmp 2) (y := .tmp 13) (o := ⟨none, _, _, _, _, _⟩) HR.out (Eq.refl 32) ?_ ?_); exact ⟨rfl, rfl, rfl, rfl⟩)
  refine bodyPost_ret (results_cell_tmp (p := 2) (q := 3) (ty := 22) rfl _ _ (W.heap.size + 1) 22 z32.toArray (0, 0) _ rfl (HR.out.row z32) Tryz.underlying22 rfl (by kernel_rfl)) rfl ⟨rfl, below_row HB.out (Nat.le_succ _) _⟩
end Go.Proofs.YtngcmikblcoheaaGreatDoor
