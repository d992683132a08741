/-
  []byte(s) of a string that is no constant.
-/
import Derived.Test.YtdnmgemjhpkekaaGreatDoorSame
import Derived.Test.YtdnmgemjhpkekaaGreatDoorApp
import Derived.Test.YtdnmgemjhpkekaaGreatDoorRowsOf
import Derived.Lib.ConvBytes
namespace Go.Proofs.YtdnmgemjhpkekaaGreatDoor
open Go.ChangeShapes Go.WideShapes Go.ChangeAt Go.RowKit
set_option linter.unusedVariables false

theorem str_length (s : ByteArray) : s.data.toList.length = s.size := by rw [Array.length_toList]; rfl
theorem conv_str (w : World) (s : ByteArray) (hs : s.size ≤ maxLen) : ∃ c w', (convert 9 22 (.string s)).run Tryz.prog w = .ok (.slice (some ⟨w.heap.size, 0, none⟩) s.size c) w' ∧ Rd w'.heap.size w' (.slice (some ⟨w.heap.size, 0, none⟩) s.size c) s.data.toList ∧ Below w.heap.size w w' := by
  refine ⟨_, _, Lib.run_convert_string_bytes w 9 22 5 s Tryz.underlying9 Tryz.underlying22 Tryz.underlying5, ?_, ?_⟩
  · refine .inr ⟨w.heap.size, 0, _, by rw [str_length], by rw [str_length]; exact grownCap_ge _ _ _ _, grownCap_le_maxLen _ _ _ _ hs, by rw [Lib.bytesWorld_size]; omega, fun i hi => ?_⟩
    rw [Nat.zero_add, Lib.bytesWorld_cell w _ s i (by rw [← str_length]; exact hi)]
    rfl
  · refine ⟨?_, ?_, ?_, by rw [Lib.bytesWorld_size]; omega, fun k hk => Lib.bytesWorld_at_old w _ s k hk⟩
    all_goals (unfold Lib.bytesWorld World.freeze; split <;> rfl)
theorem rd_two {w : World} {t : TypeId} {v0 v1 : Value} {l0 l1 : List UInt8} (h0 : Rd w.heap.size w v0 l0) (h1 : Rd w.heap.size w v1 l1) :
    RdAll (w.alloc (.cells #[v0, v1] t)).heap.size (w.alloc (.cells #[v0, v1] t)) (some ⟨w.heap.size, 0, none⟩) [l0, l1] := by
  intro _
  have hb : Below w.heap.size w (w.alloc (.cells #[v0, v1] t)) := (Below.refl _ _).alloc (Nat.le_refl _) _
  refine ⟨w.heap.size, 0, rfl, by simp, fun i hi => ?_⟩
  have hi2 : i < 2 := by simpa using hi
  rcases (show i = 0 ∨ i = 1 by omega) with rfl | rfl
  · refine ⟨v0, ?_, (h0.below hb (Nat.le_refl _)).mono hb.size⟩
    rw [cell_of_row _ _ _ #[v0, v1] t (0, 0) (heap_alloc_new w _)]; rfl
  · refine ⟨v1, ?_, (h1.below hb (Nat.le_refl _)).mono hb.size⟩
    rw [cell_of_row _ _ _ #[v0, v1] t (0, 0) (heap_alloc_new w _)]; rfl
end Go.Proofs.YtdnmgemjhpkekaaGreatDoor
