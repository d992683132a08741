/-
  vestryref01.Text; gathers what was in this file before.
-/
import Derived.Test.YtdnmgemjhpkekaaGreatDoorApp
import Derived.Test.YtdnmgemjhpkekaaGreatDoorRefPut
import Derived.Test.YtdnmgemjhpkekaaGreatDoorJoin
import Derived.Test.YtdnmgemjhpkekaaGreatDoorText
import Derived.Test.YtdnmgemjhpkekaaGreatDoorStr
import Derived.Test.YtdnmgemjhpkekaaGreatDoorRefJoin
namespace Go.Proofs.YtdnmgemjhpkekaaGreatDoor
open Go.ChangeShapes Go.WideShapes Go.ChangeAt Go.RowKit

set_option maxRecDepth 100000 in
theorem rtext_any (s : ByteArray) (hs : s.size ≤ 140737488355318) (w : World) :
    Calls Tryz.prog 43 #[.string s] w (Owned w (put s.size ++ s.data.toList)) := by
  have hl : s.size < lim64 := by unfold lim64; omega
  have hp := put_len10 hl
  have HL := Lib.hid hl
  clear hl
  go_enter Tryz.func43, Tryz.ntmps43
  go_wp2_with (first | (go_at_call 68; refine (rput _ HL.out _).mono ?_; rintro e w1 ⟨v, rfl, hown, hb⟩) | (at_builtin; refine app_str rfl _ _ rfl rfl hown rfl (by omega) (by have := hb.size; omega) ?_; intro v1 w2 hown1 hg1))
  go_ret
  exact ⟨v1, rfl, hown1, below_grown hb hb.size (Nat.le_refl _) hown hg1⟩

end Go.Proofs.YtdnmgemjhpkekaaGreatDoor
