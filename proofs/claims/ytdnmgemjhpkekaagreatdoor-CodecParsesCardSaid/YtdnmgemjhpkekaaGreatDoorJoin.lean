/-
  wire.Join returns the bytes of all parts in order, in new memory, where they are at most 2^47 together.
-/
import Derived.Test.YtdnmgemjhpkekaaGreatDoorApp
import Derived.Test.YtdnmgemjhpkekaaGreatDoorRowsOf
import Derived.Test.YtdnmgemjhpkekaaGreatDoorSame
namespace Go.Proofs.YtdnmgemjhpkekaaGreatDoor
open Go.ChangeShapes Go.WideShapes Go.ChangeAt Go.RowKit

set_option maxRecDepth 100000 in
set_option maxHeartbeats 400000 in
theorem join_any {B : Nat} {w : World} {oa : Option Addr} {cap : Nat} {ls : List (List UInt8)} (hr : RdAll B w oa ls) (hB : B ≤ w.heap.size) (hn : ls.length ≤ 140737488355328) (ht : total ls ≤ 140737488355328) :
    Calls Tryz.prog 61 #[.slice oa ls.length cap] w (Owned w ls.flatten) := by
  by_cases hz : 0 < ls.length
  · obtain ⟨b, off, rfl, hbB, hc⟩ := hr hz
    go_enter Tryz.func61, Tryz.ntmps61
    go_wp2
    go_loop [3, 11] (fun sv iv => ∃ k : Nat, k ≤ ls.length ∧ iv = .int .i64 k ∧ sv = .int .i64 (ls.take k).flatten.length) (fun _ iv => ls.length - (intOf iv).toNat)
    case atStart => exact ⟨0, Nat.zero_le _, rfl, rfl⟩
    case round =>
      obtain ⟨k, hk, rfl, rfl⟩ := hrel
      have htl := total_le ls k
      obtain ⟨s, hs⟩ : ∃ s, s = (ls.take k).flatten.length := ⟨_, rfl⟩
      by_cases hlt : k < ls.length
      · obtain ⟨u, hu, hru⟩ := hc k hlt
        obtain ⟨ou, cu, rfl, hmu, _⟩ := hru.form
        have hnx := total_le ls (k + 1)
        have hsm := total_take ls k hlt
        obtain ⟨m, hm⟩ : ∃ m, m = (ls.getD k []).length := ⟨_, rfl⟩
        have hsm' : ((ls.take (k + 1)).flatten).length = s + m := by rw [hsm, List.length_append, ← hs, ← hm]
        rw [← hs] at htl
        rw [hsm'] at hnx
        rw [← hm] at hu hmu
        have HS := Lib.hid hsm'
        rw [← hs]
        clear hsm hsm' hc hru hs hm
        have hi1 : (k : Int) < ls.length := by omega
        have hi0 : (0 : Int) ≤ k := by omega
        go_wp2
        go_round
        case rel => exact ⟨k + 1, by omega, by go_num, by rw [HS.out]; go_num⟩
        case measure => simp [intOf]; omega
      · obtain rfl : k = ls.length := by omega
        rw [List.take_length] at hs htl
        rw [List.take_length, ← hs]
        rw [← hs] at htl
        have HS := Lib.hid hs
        clear hs
        go_wp2_with (at_make; refine make_bytes rfl _ _ rfl (base := w.heap.size) s rfl rfl rfl (by omega) (Nat.le_refl _) ?_)
        intro v0 w0 hown0 hg0
        have hb0 : Below w.heap.size w w0 := (Below.refl _ _).grown hg0 (Nat.le_refl _) (by simp)
        go_wp2
        go_loopw [6, 24] (fun v iv wr => ∃ k : Nat, k ≤ ls.length ∧ iv = .int .i64 k ∧ wr.ownsRow w.heap.size 5 1 v (ls.take k).flatten.length (bvs (ls.take k).flatten) ∧ Below w.heap.size w wr) (fun _ iv _ => ls.length - (intOf iv).toNat)
        case atStart => exact ⟨0, Nat.zero_le _, rfl, hown0, hb0⟩
        case round =>
          obtain ⟨k, hk, rfl, hown, hb⟩ := hrel
          clear hown0 hb0 hg0
          have hsz := hb.size
          by_cases hlt : k < ls.length
          · obtain ⟨p, ou, cu, HT, hu', hru', hnx, hmu⟩ : ∃ (p : List UInt8) (ou : Option Addr) (cu : Nat), Hid ((ls.take (k + 1)).flatten = (ls.take k).flatten ++ p) ∧ wr.cell? ⟨b, off + k, none⟩ = some (.slice ou p.length cu) ∧ Rd B wr (.slice ou p.length cu) p ∧ (ls.take k).flatten.length + p.length ≤ total ls ∧ p.length ≤ maxLen := by
              obtain ⟨u, hu, hru⟩ := hc k hlt
              obtain ⟨ou, cu, rfl, hmu, _⟩ := hru.form
              have hnx := total_le ls (k + 1)
              rw [total_take ls k hlt, List.length_append] at hnx
              exact ⟨_, ou, cu, total_take ls k hlt, (hb.cell (by show b < w.heap.size; omega)).trans hu, hru.below hb (by omega), hnx, hmu⟩
            have hi1 : (k : Int) < ls.length := by omega
            have hi0 : (0 : Int) ≤ k := by omega
            clear hc
            go_wp2_with (at_builtin; refine app_bytes rfl _ _ rfl rfl hown rfl hru' (by omega) hsz ?_)
            intro v1 w1 hown1 hg1
            have hb1 := below_grown hb hsz (Nat.le_refl _) hown hg1
            clear hown hg1 hru'
            go_wp2
            go_roundw
            case rel => exact ⟨k + 1, by omega, by go_num, by rw [HT.out]; simpa using hown1, hb1⟩
            case measure => simp [intOf]; omega
          · obtain rfl : k = ls.length := by omega
            rw [List.take_length] at hown
            clear hc
            go_wp2
            go_ret
            exact ⟨_, rfl, hown, hb⟩
  · obtain rfl : ls = [] := List.eq_nil_of_length_eq_zero (by omega)
    go_enter Tryz.func61, Tryz.ntmps61
    go_wp2
    go_loop [3, 11] (fun sv iv => iv = .int .i64 0 ∧ sv = .int .i64 0) (fun _ iv => 0)
    case atStart => exact ⟨rfl, rfl⟩
    case round =>
      obtain ⟨rfl, rfl⟩ := hrel
      go_wp2_with (at_make; refine make_bytes rfl _ _ rfl (base := w.heap.size) 0 rfl rfl rfl (by omega) (Nat.le_refl _) ?_)
      intro v0 w0 hown0 hg0
      have hb0 : Below w.heap.size w w0 := (Below.refl _ _).grown hg0 (Nat.le_refl _) (by simp)
      go_wp2
      go_loopw [6, 24] (fun v iv wr => iv = .int .i64 0 ∧ wr.ownsRow w.heap.size 5 1 v ([] : List UInt8).length (bvs []) ∧ Below w.heap.size w wr) (fun _ iv _ => 0)
      case atStart => exact ⟨rfl, hown0, hb0⟩
      case round =>
        obtain ⟨rfl, hown, hb⟩ := hrel
        go_wp2
        go_ret
        exact ⟨_, rfl, hown, hb⟩
end Go.Proofs.YtdnmgemjhpkekaaGreatDoor
