/-
  crc.remainder, follow, Sum: the register.
-/
import Derived.Test.YtikokimnhanloaaDoorApp
import Derived.Test.YtikokimnhanloaaDoorCrcMath
import Derived.Test.YtikokimnhanloaaDoorRowsOf
import Derived.Test.YtikokimnhanloaaDoorSame
namespace Go.Proofs.YtikokimnhanloaaDoor
open Go.ChangeShapes Go.WideShapes Go.ChangeAt Go.RowKit

theorem rem_step (r : Nat) (h : r < 4294967296) : bits .xor .u32 ((r : Int) / 2) (3988292384 * bits .and .u32 (r : Int) 1 % 4294967296) = ((tt r : Nat) : Int) := by
  have e1 : bits .and .u32 (r : Int) 1 = ((r % 2 : Nat) : Int) := by
    have := u32_and_nat r 1 h (by decide)
    rw [nat_mask1] at this
    exact this
  rw [e1]
  have e2 : 3988292384 * ((r % 2 : Nat) : Int) % 4294967296 = ((if r % 2 = 1 then gen else 0 : Nat) : Int) := by
    rcases Nat.mod_two_eq_zero_or_one r with h | h <;> rw [h] <;> rfl
  rw [e2]
  have e3 : (r : Int) / 2 = ((r / 2 : Nat) : Int) := by omega
  rw [e3, u32_xor_nat _ _ (by omega) (by split <;> decide)]
  rfl

set_option maxRecDepth 100000 in
theorem rem_any (x : Nat) (hx : x < 256) (w : World) : Calls Tryd.prog 48 #[.int .u8 x] w fun e w' => e = .returned (.int .u32 (tn 8 x)) ∧ w = w' := by
  go_enter Tryd.func48, Tryd.ntmps48
  go_wp2_with fail
  go_loop [3, 6] (fun v iv => ∃ (k r : Nat), k ≤ 8 ∧ iv = .int .i64 k ∧ r < lim32 ∧ v = .int .u32 r ∧ Hid (tn (8 - k) r = tn 8 x)) (fun _ iv => 8 - (intOf iv).toNat)
  case atStart => exact ⟨0, x, by omega, rfl, by unfold lim32; omega, by rfl, rfl⟩
  case round =>
    obtain ⟨k, r, hk, rfl, hr, rfl, HT⟩ := hrel
    by_cases hlt : k < 8
    · have HS := Lib.hid (rem_step r hr)
      go_wp2_with fail
      go_round
      case rel => exact ⟨k + 1, tt r, by omega, by go_num, tt_lt hr, by rw [HS.out], by show tn (8 - (k + 1)) (tt r) = _; rw [← HT.out, show 8 - k = (8 - (k + 1)) + 1 from by omega]; rfl⟩
      case measure => simp [intOf]; omega
    · obtain rfl : k = 8 := by omega
      go_wp2_with fail
      go_ret
      exact ⟨by rw [← HT.out]; rfl, rfl⟩

theorem compl (c : Nat) (hc : c < lim32) : bits .xor .u32 IntKind.u32.max (c : Int) = ((ones - c : Nat) : Int) := by
  have e : IntKind.u32.max = ((ones : Nat) : Int) := by decide
  rw [e, u32_xor_nat _ _ (by decide) hc, ones_xor c hc]
theorem byte_arg (r : Nat) (x : UInt8) : bits .xor .u8 ((r : Int) % 256) (x.toNat : Int) = (((r % 256) ^^^ x.toNat : Nat) : Int) := by
  have e : (r : Int) % 256 = ((r % 256 : Nat) : Int) := by omega
  rw [e, u8_xor_nat _ _ (by omega) x.toNat_lt]
theorem xor_lt8 {a b : Nat} (ha : a < 256) (hb : b < 256) : a ^^^ b < 256 := Nat.xor_lt_two_pow (n := 8) ha hb
theorem byte_res (r : Nat) (x : UInt8) (hr : r < lim32) : bits .xor .u32 ((r : Int) / 256) ((tn 8 ((r % 256) ^^^ x.toNat) : Nat) : Int) = ((tn 8 (r ^^^ x.toNat) : Nat) : Int) := by
  have e : (r : Int) / 256 = ((r / 256 : Nat) : Int) := by omega
  have h8 := xor_lt8 (show r % 256 < 256 by omega) x.toNat_lt
  rw [e, u32_xor_nat _ _ (by unfold lim32 at hr; omega) (tn_lt 8 (by unfold lim32; omega)), ← byte_step]

theorem take_next (l : List UInt8) (k : Nat) (h : k < l.length) : l.take (k + 1) = l.take k ++ [l.getD k 0] := by
  rw [List.take_succ_eq_append_getElem h]
  simp [List.getD_eq_getElem?_getD, List.getElem?_eq_getElem h]

set_option maxRecDepth 100000 in
theorem follow_any {B : Nat} {w : World} {vb : Value} {l : List UInt8} (hr : Rd B w vb l) (c : Nat) (hc : c < lim32) :
    Calls Tryd.prog 44 #[.int .u32 c, vb] w fun e w' => e = .returned (.int .u32 (ones - reg (ones - c) l : Nat)) ∧ w = w' := by
  obtain ⟨ov, cv, rfl, hmx, hcell⟩ := hr.form
  unfold maxLen at hmx
  have HC := Lib.hid (compl c hc)
  have hoc : ones - c < lim32 := by have := ones_lt; omega
  go_enter Tryd.func44, Tryd.ntmps44
  go_wp2_with fail
  go_loop [5, 12] (fun v iv => ∃ (k r : Nat), k ≤ l.length ∧ iv = .int .i64 k ∧ r < lim32 ∧ v = .int .u32 r ∧ Hid (r = reg (ones - c) (l.take k))) (fun _ iv => l.length - (intOf iv).toNat)
  case atStart => exact ⟨0, ones - c, by omega, rfl, hoc, by rw [HC.out], rfl⟩
  case round =>
    obtain ⟨k, r, hk, rfl, hrl, rfl, HT⟩ := hrel
    by_cases hlt : k < l.length
    · obtain ⟨b, off, rfl, _, _, hbB, hcc⟩ := hcell (by omega)
      obtain ⟨x, HX, hx⟩ : ∃ x : UInt8, Hid (l.take (k + 1) = l.take k ++ [x]) ∧ w.cell? ⟨b, off + k, none⟩ = some (.int .u8 x.toNat) := ⟨l.getD k 0, take_next l k hlt, hcc k hlt⟩
      have HA := Lib.hid (byte_arg r x)
      have HR := Lib.hid (byte_res r x hrl)
      have hi0 : (0 : Int) ≤ k := by omega
      have hi1 : (k : Int) < l.length := by omega
      clear hcell hcc
      go_wp2_with fail
      rw [HA.out]
      refine (rem_any _ (xor_lt8 (by omega) x.toNat_lt) _).mono ?_
      rintro e w1 ⟨rfl, rfl⟩
      go_wp2_with fail
      go_round
      case rel => exact ⟨k + 1, tn 8 (r ^^^ x.toNat), by omega, by go_num, tn_lt 8 (xor_lt32 hrl (by have := x.toNat_lt; unfold lim32; omega)), by rw [HR.out], by show _ = reg (ones - c) (l.take (k + 1)); rw [HX.out, reg_snoc, ← HT.out]⟩
      case measure => simp [intOf]; omega
    · obtain rfl : k = l.length := by omega
      have HD := Lib.hid (compl r hrl)
      go_wp2_with fail
      go_ret
      refine ⟨?_, rfl⟩
      rw [HD.out]
      have := HT.out
      rw [List.take_length] at this
      rw [← this]; rfl

set_option maxRecDepth 100000 in
theorem csum_any {B : Nat} {w : World} {oa : Option Addr} {cap : Nat} {ls : List (List UInt8)} (hr : RdAll B w oa ls) (hn : ls.length ≤ 140737488355328) :
    Calls Tryd.prog 39 #[.slice oa ls.length cap] w fun e w' => e = .returned (.int .u32 (crc ls.flatten)) ∧ w = w' := by
  go_enter Tryd.func39, Tryd.ntmps39
  go_wp2_with fail
  go_loop [3, 8] (fun v iv => ∃ (k r : Nat), k ≤ ls.length ∧ iv = .int .i64 k ∧ r < lim32 ∧ v = .int .u32 r ∧ Hid (r = ones - reg ones (ls.take k).flatten)) (fun _ iv => ls.length - (intOf iv).toNat)
  case atStart => exact ⟨0, 0, by omega, rfl, by decide, rfl, by show 0 = ones - reg ones []; rw [reg_nil, Nat.sub_self]⟩
  case round =>
    obtain ⟨k, r, hk, rfl, hrl, rfl, HT⟩ := hrel
    by_cases hlt : k < ls.length
    · obtain ⟨b, off, rfl, _, hc⟩ := hr (by omega)
      obtain ⟨u, hu, hru⟩ := hc k hlt
      obtain ⟨p, HX⟩ : ∃ p, Hid (p = ls.getD k [] ∧ (ls.take (k + 1)).flatten = (ls.take k).flatten ++ ls.getD k []) := ⟨_, rfl, total_take ls k hlt⟩
      rw [← HX.out.1] at hru
      have hi0 : (0 : Int) ≤ k := by omega
      have hi1 : (k : Int) < ls.length := by omega
      clear hr hc
      go_wp2_with fail
      refine (follow_any hru r hrl).mono ?_
      rintro e w1 ⟨rfl, rfl⟩
      go_wp2_with fail
      go_round
      case rel =>
        refine ⟨k + 1, _, by omega, by go_num, ?_, rfl, ?_⟩
        · have := ones_lt; omega
        · show _ = ones - reg ones (ls.take (k + 1)).flatten
          have h1 : ones - r = reg ones (ls.take k).flatten := by rw [HT.out, ones_sub (reg_lt _ _ ones_lt)]
          rw [HX.out.2, reg_append, h1, HX.out.1]
      case measure => simp [intOf]; omega
    · obtain rfl : k = ls.length := by omega
      go_wp2_with fail
      go_ret
      refine ⟨?_, rfl⟩
      have h := HT.out
      rw [List.take_length] at h
      have h2 : r = crc ls.flatten := by unfold crc; exact h
      rw [← h2]; rfl

/-- One part. -/
theorem csum_one {B : Nat} {w : World} {n : Nat} {t : TypeId} {v : Value} {l : List UInt8} (hr : Rd B w v l) (hB : B ≤ w.heap.size) :
    Calls Tryd.prog 39 #[.slice (some ⟨w.heap.size, 0, none⟩) 1 n] (w.alloc (.cells #[v] t)) fun e w' => e = .returned (.int .u32 (crc l)) ∧ w.alloc (.cells #[v] t) = w' := by
  have h := csum_any (B := w.heap.size + 1) (w := w.alloc (.cells #[v] t)) (oa := some ⟨w.heap.size, 0, none⟩) (cap := n) (ls := [l]) (by
    intro _
    refine ⟨_, 0, rfl, by omega, fun i hi => ?_⟩
    obtain rfl : i = 0 := by simpa using hi
    refine ⟨v, ?_, ?_⟩
    · rw [cell_of_row _ _ _ #[v] t (0, 0) (heap_alloc_new w _)]; rfl
    · exact ((hr.mono hB).below ((Below.refl _ _).alloc (Nat.le_refl _) _) (Nat.le_refl _)).mono (by omega)) (by simp)
  simpa using h
end Go.Proofs.YtikokimnhanloaaDoor
