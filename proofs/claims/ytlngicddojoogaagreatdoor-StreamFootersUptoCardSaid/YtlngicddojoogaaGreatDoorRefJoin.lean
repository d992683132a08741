/-
  vestryref01.Join.
-/
import Derived.Test.YtlngicddojoogaaGreatDoorApp
import Derived.Test.YtlngicddojoogaaGreatDoorRowsOf
import Derived.Test.YtlngicddojoogaaGreatDoorSame
namespace Go.Proofs.YtlngicddojoogaaGreatDoor
open Go.ChangeShapes Go.WideShapes Go.ChangeAt Go.RowKit

set_option maxRecDepth 100000 in
set_option maxHeartbeats 400000 in
theorem rjoin_any {B : Nat} {w : World} {oa : Option Addr} {cap : Nat} {ls : List (List UInt8)} (hr : RdAll B w oa ls) (hB : B ≤ w.heap.size) (hn : ls.length ≤ 140737488355328) (ht : total ls ≤ 140737488355328) :
    Calls Tryz.prog 14 #[.slice oa ls.length cap] w (Owned w ls.flatten) := by
  by_cases hz : 0 < ls.length
  · obtain ⟨b, off, rfl, hbB, hc⟩ := hr hz
    go_enter Tryz.func14, Tryz.ntmps14
    go_wp2
    go_loopw [3, 4] (fun v iv wr => ∃ k : Nat, k ≤ ls.length ∧ iv = .int .i64 k ∧ wr.ownsRow w.heap.size 5 1 v (ls.take k).flatten.length (bvs (ls.take k).flatten) ∧ Below w.heap.size w wr) (fun _ iv _ => ls.length - (intOf iv).toNat)
    case atStart => exact ⟨0, Nat.zero_le _, rfl, World.ownsRow_nil _ _ _ _, Below.refl _ _⟩
    case round =>
      obtain ⟨k, hk, rfl, hown, hb⟩ := hrel
      have hsz := hb.size
      by_cases hlt : k < ls.length
      · obtain ⟨p, ou, cu, HT, hu', hru', hnx, hmu⟩ : ∃ (p : List UInt8) (ou : Option Addr) (cu : Nat), Hid ((ls.take (k + 1)).flatten = (ls.take k).flatten ++ p) ∧ wr.cell? ⟨b, off + k, none⟩ = some (.slice ou p.length cu) ∧ Rd B wr (.slice ou p.length cu) p ∧ (ls.take k).flatten.length + p.length ≤ total ls ∧ p.length ≤ maxLen := by
          obtain ⟨u, hu, hru⟩ := hc k hlt
          obtain ⟨ou, cu, rfl, hmu, _⟩ := hru.form
          have hnx := total_le ls (k + 1)
          rw [total_take ls k hlt, List.length_append] at hnx
          exact ⟨_, ou, cu, total_take ls k hlt, (hb.cell (by show b < w.heap.size; omega)).trans hu, hru.below hb (by omega), hnx, hmu⟩
        have hi1 : (k : Int) < ls.length := by omega
        have hi0 : (0 : Int) ≤ k := by omega
        clear hc
        go_wp2_with (at_builtin; refine app_bytes rfl _ _ rfl rfl hown rfl hru' (by omega) hsz ?_)
        intro v1 w1 hown1 hg1
        have hb1 := below_grown hb hsz (Nat.le_refl _) hown hg1
        clear hown hg1 hru'
        go_wp2
        go_roundw
        case rel => exact ⟨k + 1, by omega, by go_num, by rw [HT.out]; simpa using hown1, hb1⟩
        case measure => simp [intOf]; omega
      · obtain rfl : k = ls.length := by omega
        rw [List.take_length] at hown
        clear hc
        go_wp2
        go_ret
        exact ⟨_, rfl, hown, hb⟩
  · obtain rfl : ls = [] := List.eq_nil_of_length_eq_zero (by omega)
    go_enter Tryz.func14, Tryz.ntmps14
    go_wp2
    go_loopw [3, 4] (fun v iv wr => iv = .int .i64 0 ∧ wr.ownsRow w.heap.size 5 1 v ([] : List UInt8).length (bvs []) ∧ Below w.heap.size w wr) (fun _ iv _ => 0)
    case atStart => exact ⟨rfl, World.ownsRow_nil _ _ _ _, Below.refl _ _⟩
    case round =>
      obtain ⟨rfl, hown, hb⟩ := hrel
      go_wp2
      go_ret
      exact ⟨_, rfl, hown, hb⟩
end Go.Proofs.YtlngicddojoogaaGreatDoor
