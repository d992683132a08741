/-
  wire.Text returns the length of the text as a number, then the bytes of the text.
-/
import Derived.Test.YtdnmgemjhpkekaaGreatDoorApp
import Derived.Test.YtdnmgemjhpkekaaGreatDoorPut
namespace Go.Proofs.YtdnmgemjhpkekaaGreatDoor
open Go.ChangeShapes Go.WideShapes Go.ChangeAt Go.RowKit

theorem wrap_size {n : Nat} (h : n < lim64) : IntKind.u64.wrap (n : Int) = (n : Int) := by
  unfold lim64 at h; rw [IntKind.wrap_u64]; omega

set_option maxRecDepth 100000 in
theorem text_any (s : ByteArray) (hs : s.size ≤ 140737488355318) (w : World) :
    Calls Tryz.prog 34 #[.string s] w (Owned w (put s.size ++ s.data.toList)) := by
  have hl : s.size < lim64 := by unfold lim64; omega
  have hp := put_len10 hl
  have HL := Lib.hid hl
  clear hl
  go_enter Tryz.func34, Tryz.ntmps34
  go_wp2_with (first | (go_at_call 60; refine (wput _ HL.out _).mono ?_; rintro e w1 ⟨v, rfl, hown, hb⟩) | (at_builtin; refine app_str rfl _ _ rfl rfl hown rfl (by omega) (by have := hb.size; omega) ?_; intro v1 w2 hown1 hg1))
  go_ret
  exact ⟨v1, rfl, hown1, below_grown hb hb.size (Nat.le_refl _) hown hg1⟩
end Go.Proofs.YtdnmgemjhpkekaaGreatDoor
