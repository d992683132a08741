/-
  vestryref01.Read at any offset, and the method Cursor.Text, on any bytes.
-/
import Derived.Test.YtdnmgemjhpkekaaGreatDoorTuA
import Derived.Test.YtdnmgemjhpkekaaGreatDoorRefNumAt
import Derived.Test.YtdnmgemjhpkekaaGreatDoorConv
import Derived.Test.YtdnmgemjhpkekaaGreatDoorTake
namespace Go.Proofs.YtdnmgemjhpkekaaGreatDoor
open Go.ChangeShapes Go.WideShapes Go.ChangeAt Go.RowKit
set_option linter.unusedVariables false

theorem partP_num {most : Nat} {r : List UInt8} (h : (num r).2.2 ≠ 0) : partP most r = ([], 0, (num r).2.2) := by unfold partP; rw [if_pos h]
theorem partP_lim {most : Nat} {r : List UInt8} (h : (num r).2.2 = 0) (h2 : most < (num r).1) : partP most r = ([], 0, 15) := by unfold partP; rw [if_neg (by omega), if_pos h2]
theorem partP_short {most : Nat} {r : List UInt8} (h : (num r).2.2 = 0) (h2 : ¬ most < (num r).1) (h3 : r.length < (num r).2.1 + (num r).1) : partP most r = ([], 0, 1) := by unfold partP; rw [if_neg (by omega), if_neg h2, if_pos h3]
theorem partP_yes {most : Nat} {r : List UInt8} (h : (num r).2.2 = 0) (h2 : ¬ most < (num r).1) (h3 : ¬ r.length < (num r).2.1 + (num r).1) : partP most r = ((r.drop (num r).2.1).take (num r).1, (num r).2.1 + (num r).1, 0) := by unfold partP; rw [if_neg (by omega), if_neg h2, if_neg h3]
/-- Bytes in the middle of a slice, as a slice. -/
theorem rd_mid {B : Nat} {w : World} {b off cap cap' N n : Nat} {l : List UInt8} (h1 : l.length ≤ cap) (h2 : cap ≤ maxLen) (h3 : b < B) (hc : ∀ i, i < l.length → w.cell? ⟨b, off + i, none⟩ = some (bv (l.getD i 0))) (hn : N + n ≤ l.length) (hcap : n ≤ cap' ∧ cap' ≤ cap) :
    Rd B w (.slice (some ⟨b, off + N, none⟩) n cap') ((l.drop N).take n) := by
  have hl : ((l.drop N).take n).length = n := by rw [List.length_take, List.length_drop]; omega
  refine .inr ⟨b, off + N, cap', by rw [hl], by omega, by omega, h3, fun i hi => ?_⟩
  rw [hl] at hi
  have := hc (N + i) (by omega)
  rw [← Nat.add_assoc] at this
  rw [this]
  congr 2
  simp [List.getD_eq_getElem?_getD, List.getElem?_drop, hi]

set_option maxRecDepth 100000 in
set_option maxHeartbeats 800000 in
theorem rread_num {w : World} {L cap A most c : Nat} {oa : Option Addr} (hc : c ≠ 0) (HC : Hid (Calls Tryz.prog 52 #[.slice oa L cap, .int .i64 A] w fun e w' => e = .returned (.tuple #[.int .u64 0, .int .i64 A, .int .i64 c]) ∧ w = w')) : Calls Tryz.prog 54 #[.slice oa L cap, .int .i64 A, .int .i64 most] w fun e w' => e = .returned (.tuple #[.string ByteArray.empty, .int .i64 A, .int .i64 c]) ∧ w = w' := by
  have hc1 : ¬ (c : Int) = 0 := by omega
  have hc2 : ((c : Int) != 0) = true := by rw [bne_iff_ne]; exact hc1
  clear hc
  go_enter Tryz.func54, Tryz.ntmps54
  go_wp2_with fail
  refine HC.out.mono ?_
  rintro e w1 ⟨rfl, rfl⟩
  go_wp2_with fail
  go_ret3
  exact ⟨rfl, rfl⟩
set_option maxRecDepth 100000 in
set_option maxHeartbeats 800000 in
theorem rread_lim {w : World} {L cap A most n N : Nat} {oa : Option Addr} (hm : most ≤ 1000) (h : most < n) (HC : Hid (Calls Tryz.prog 52 #[.slice oa L cap, .int .i64 A] w fun e w' => e = .returned (.tuple #[.int .u64 n, .int .i64 N, .int .i64 0]) ∧ w = w')) : Calls Tryz.prog 54 #[.slice oa L cap, .int .i64 A, .int .i64 most] w fun e w' => e = .returned (.tuple #[.string ByteArray.empty, .int .i64 A, .int .i64 15]) ∧ w = w' := by
  have hw0 : ¬ (most : Int) < 0 := by omega
  have hw1 : IntKind.u64.wrap (most : Int) = most := by rw [IntKind.wrap_u64]; omega
  have h1 : (most : Int) < n := by omega
  clear h hm
  go_enter Tryz.func54, Tryz.ntmps54
  go_wp2_with fail
  refine HC.out.mono ?_
  rintro e w1 ⟨rfl, rfl⟩
  go_wp2_with fail
  go_ret3
  exact ⟨rfl, rfl⟩
set_option maxRecDepth 100000 in
set_option maxHeartbeats 800000 in
theorem rread_short {w : World} {L cap A most n N : Nat} {oa : Option Addr} (hm : most ≤ 1000) (h : n ≤ most) (hN : N ≤ L) (hL : L ≤ 1000000) (hs : L - N < n) (HC : Hid (Calls Tryz.prog 52 #[.slice oa L cap, .int .i64 A] w fun e w' => e = .returned (.tuple #[.int .u64 n, .int .i64 N, .int .i64 0]) ∧ w = w')) : Calls Tryz.prog 54 #[.slice oa L cap, .int .i64 A, .int .i64 most] w fun e w' => e = .returned (.tuple #[.string ByteArray.empty, .int .i64 A, .int .i64 1]) ∧ w = w' := by
  have hw0 : ¬ (most : Int) < 0 := by omega
  have hw1 : IntKind.u64.wrap (most : Int) = most := by rw [IntKind.wrap_u64]; omega
  have h1 : ¬ (most : Int) < n := by omega
  have h2 : IntKind.u64.wrap ((L : Int) - N) = (L : Int) - N := by rw [IntKind.wrap_u64]; omega
  have h3 : (L : Int) - N < n := by omega
  have h4 : (L : Int) ≤ 1000000 := by omega
  clear h hm
  go_enter Tryz.func54, Tryz.ntmps54
  go_wp2_with fail
  refine HC.out.mono ?_
  rintro e w1 ⟨rfl, rfl⟩
  go_wp2_with fail
  go_ret3
  exact ⟨rfl, rfl⟩
set_option maxRecDepth 100000 in
set_option maxHeartbeats 800000 in
theorem rread_yes {w : World} {L cap A most n N : Nat} {b off : Nat} {S : ByteArray} (hm : most ≤ 1000) (h : n ≤ most) (h0 : 0 < n) (hN : N + n ≤ L) (hL : L ≤ 1000000) (hcap : L ≤ cap) (hcm : cap ≤ maxLen) (hS : (convert 22 9 (.slice (some ⟨b, off + N, none⟩) n (cap - N))).run Tryz.prog w = .ok (.string S) w) (HC : Hid (Calls Tryz.prog 52 #[.slice (some ⟨b, off, none⟩) L cap, .int .i64 A] w fun e w' => e = .returned (.tuple #[.int .u64 n, .int .i64 N, .int .i64 0]) ∧ w = w')) : Calls Tryz.prog 54 #[.slice (some ⟨b, off, none⟩) L cap, .int .i64 A, .int .i64 most] w fun e w' => e = .returned (.tuple #[.string S, .int .i64 ((N + n : Nat) : Int), .int .i64 0]) ∧ w = w' := by
  have hw0 : ¬ (most : Int) < 0 := by omega
  have hw1 : IntKind.u64.wrap (most : Int) = most := by rw [IntKind.wrap_u64]; omega
  have h4 : (L : Int) ≤ 1000000 := by omega
  unfold maxLen at hcm
  have h1 : ¬ (most : Int) < n := by omega
  have h2 : IntKind.u64.wrap ((L : Int) - N) = (L : Int) - N := by rw [IntKind.wrap_u64]; omega
  have h3 : ¬ (L : Int) - N < n := by omega
  have h5 : IntKind.i64.wrap (n : Int) = n := by rw [IntKind.wrap_i64]; omega
  have h6 : (N : Int) + n ≤ L := by omega
  have h7 : (0 : Int) < n := by omega
  have h8 : N < cap := by omega
  have h9 : ¬ cap = N := by omega
  clear h hm
  go_enter Tryz.func54, Tryz.ntmps54
  go_wp2_with fail
  refine HC.out.mono ?_
  rintro e w1 ⟨rfl, rfl⟩
  go_wp2_with fail
  go_ret3
  exact ⟨rfl, rfl⟩
set_option maxRecDepth 100000 in
set_option maxHeartbeats 800000 in
theorem rread_nil {w : World} {L cap A most n N : Nat} {b off : Nat} {S : ByteArray} (hm : most ≤ 1000) (h : n ≤ most) (h0 : n = 0) (hck : N < cap) (hN : N + n ≤ L) (hL : L ≤ 1000000) (hcap : L ≤ cap) (hcm : cap ≤ maxLen) (hS : (convert 22 9 (.slice (some ⟨b, off + N, none⟩) 0 (cap - N))).run Tryz.prog w = .ok (.string S) w) (HC : Hid (Calls Tryz.prog 52 #[.slice (some ⟨b, off, none⟩) L cap, .int .i64 A] w fun e w' => e = .returned (.tuple #[.int .u64 n, .int .i64 N, .int .i64 0]) ∧ w = w')) : Calls Tryz.prog 54 #[.slice (some ⟨b, off, none⟩) L cap, .int .i64 A, .int .i64 most] w fun e w' => e = .returned (.tuple #[.string S, .int .i64 ((N + n : Nat) : Int), .int .i64 0]) ∧ w = w' := by
  have hw0 : ¬ (most : Int) < 0 := by omega
  have hw1 : IntKind.u64.wrap (most : Int) = most := by rw [IntKind.wrap_u64]; omega
  have h4 : (L : Int) ≤ 1000000 := by omega
  unfold maxLen at hcm
  subst h0
  rw [show (((0 : Nat) : Int)) = 0 from rfl] at HC
  rw [show N + 0 = N from rfl] at hN ⊢
  have h1 : (0 : Int) ≤ most := by omega
  have h2 : IntKind.u64.wrap ((L : Int) - N) = (L : Int) - N := by rw [IntKind.wrap_u64]; omega
  have h3 : (0 : Int) ≤ (L : Int) - N := by omega
  have h6 : (N : Int) ≤ L := by omega
  have h9 : ¬ cap = N := by omega
  clear h hm
  go_enter Tryz.func54, Tryz.ntmps54
  go_wp2_with fail
  refine HC.out.mono ?_
  rintro e w1 ⟨rfl, rfl⟩
  go_wp2_with fail
  go_ret3
  exact ⟨rfl, rfl⟩
set_option maxRecDepth 100000 in
set_option maxHeartbeats 800000 in
theorem rread_end {w : World} {L cap A most n N : Nat} {b off : Nat} {S : ByteArray} (hm : most ≤ 1000) (h : n ≤ most) (h0 : n = 0) (hck : N = cap) (hN : N + n ≤ L) (hL : L ≤ 1000000) (hcap : L ≤ cap) (hcm : cap ≤ maxLen) (hS : (convert 22 9 (.slice (some ⟨b, off, none⟩) 0 0)).run Tryz.prog w = .ok (.string S) w) (HC : Hid (Calls Tryz.prog 52 #[.slice (some ⟨b, off, none⟩) L cap, .int .i64 A] w fun e w' => e = .returned (.tuple #[.int .u64 n, .int .i64 N, .int .i64 0]) ∧ w = w')) : Calls Tryz.prog 54 #[.slice (some ⟨b, off, none⟩) L cap, .int .i64 A, .int .i64 most] w fun e w' => e = .returned (.tuple #[.string S, .int .i64 ((N + n : Nat) : Int), .int .i64 0]) ∧ w = w' := by
  have hw0 : ¬ (most : Int) < 0 := by omega
  have hw1 : IntKind.u64.wrap (most : Int) = most := by rw [IntKind.wrap_u64]; omega
  have h4 : (L : Int) ≤ 1000000 := by omega
  unfold maxLen at hcm
  subst h0
  rw [show (((0 : Nat) : Int)) = 0 from rfl] at HC
  rw [show N + 0 = N from rfl] at hN ⊢
  have h1 : (0 : Int) ≤ most := by omega
  have h2 : IntKind.u64.wrap ((L : Int) - N) = (L : Int) - N := by rw [IntKind.wrap_u64]; omega
  have h3 : (0 : Int) ≤ (L : Int) - N := by omega
  have h6 : (N : Int) ≤ L := by omega
  have h9 : cap = N := by omega
  clear hck
  subst h9
  clear h hm
  go_enter Tryz.func54, Tryz.ntmps54
  go_wp2_with fail
  refine HC.out.mono ?_
  rintro e w1 ⟨rfl, rfl⟩
  go_wp2_with fail
  go_ret3
  exact ⟨rfl, rfl⟩
end Go.Proofs.YtdnmgemjhpkekaaGreatDoor
