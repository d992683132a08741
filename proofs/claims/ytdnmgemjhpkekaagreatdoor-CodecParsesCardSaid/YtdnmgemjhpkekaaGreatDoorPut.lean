/-
  wire.Put returns the groups of the number, in new memory.
-/
import Derived.Test.YtdnmgemjhpkekaaGreatDoorBase
namespace Go.Proofs.YtdnmgemjhpkekaaGreatDoor
open Go.ChangeShapes Go.WideShapes Go.ChangeAt Go.RowKit

set_option maxRecDepth 100000 in
set_option maxHeartbeats 400000 in
theorem wput (x0 : Nat) (hx : x0 < lim64) (w : World) : Calls Tryz.prog 60 #[.int .u64 x0] w (Owned w (put x0)) := by
  obtain ⟨i0, hi, hz0, hz1, hz2⟩ := info_parts Tryz.info5
  have HX := Lib.hid hx
  clear hx
  go_enter Tryz.func60, Tryz.ntmps60
  go_wp2
  go_loopw [0, 3] (fun xv v wr => ∃ (x : Nat) (acc : List UInt8), Hid (x < lim64) ∧ xv = .int .u64 x ∧ wr.ownsRow w.heap.size 5 1 v acc.length (bvs acc) ∧ Below w.heap.size w wr ∧ Hid (acc ++ put x = put x0))
    (fun xv _ _ => (intOf xv).toNat)
  case atStart => exact ⟨x0, [], HX, rfl, World.ownsRow_nil _ _ _ _, Below.refl _ _, by simp [Hid]⟩
  case round =>
    obtain ⟨x, acc, hxl, rfl, hown, hb, HP⟩ := hrel
    have hal : acc.length ≤ 10 := by
      have h1 := put_len10 HX.out
      rw [← HP.out, List.length_append] at h1; omega
    have hsz := hb.size
    by_cases hlt : x < 128
    · have hlt' : (x : Int) < 128 := by omega
      go_wp2_with (at_builtin; refine wpList_append_own _ rfl _ _ 22 rfl w.heap.size 5 i0 (.int .u8 0) 1 1 Tryz.underlying22 hi hz0 hz1 hz2 rfl (by decide) _ _ _ rfl (hown.alloc _) ⟨wr.heap.size, 0, none⟩ 1 1 [.int .u8 x] rfl rfl ?c1 ?c2 ?c3 ?c4 ?c5 ?_)
      case c1 => exact cell_one_new _ _ _
      case c2 => intro u hu; simp at hu; subst hu; rfl
      case c3 => unfold maxLen; omega
      case c4 => omega
      case c5 => simp; omega
      intro v' w1 hown' hgrow _
      have hb1 := below_append hb hsz (Nat.le_refl _) hown hgrow
      clear hown hgrow
      go_wp2
      go_ret
      refine ⟨v', rfl, ?_, hb1⟩
      rw [← HP.out, put_lt hlt]
      simpa [bvs, low x hlt] using hown'
    · have hge : 128 ≤ x := by omega
      have hge' : (128 : Int) ≤ x := by omega
      have hor := or128 x
      go_wp2_with (at_builtin; refine wpList_append_own _ rfl _ _ 22 rfl w.heap.size 5 i0 (.int .u8 0) 1 1 Tryz.underlying22 hi hz0 hz1 hz2 rfl (by decide) _ _ _ rfl (hown.alloc _) ⟨wr.heap.size, 0, none⟩ 1 1 [.int .u8 (pb x).toNat] rfl rfl ?d1 ?d2 ?d3 ?d4 ?d5 ?_)
      case d1 => exact cell_one_new _ _ _
      case d2 => intro u hu; simp at hu; subst hu; rfl
      case d3 => unfold maxLen; omega
      case d4 => omega
      case d5 => simp; omega
      intro v' w1 hown' hgrow _
      have hb1 := below_append hb hsz (Nat.le_refl _) hown hgrow
      clear hor hown hgrow
      go_wp2
      go_roundw
      case rel =>
        refine ⟨x / 128, acc ++ [pb x], Nat.lt_of_le_of_lt (Nat.div_le_self _ _) hxl, by rfl, ?_, hb1, ?_⟩
        · simpa [bvs, bv] using hown'
        · show (acc ++ [pb x]) ++ put (x / 128) = put x0
          rw [← HP.out, put_ge (x := x) hlt]; simp
      case measure => simp [intOf]; omega
end Go.Proofs.YtdnmgemjhpkekaaGreatDoor
