/-
  vestryref01.Number reads the number at an offset, as numGo says; vestrylaw01.coded compares an error with a code.
-/
import Derived.Test.YtdnmgemjhpkekaaGreatDoorNumberM
namespace Go.Proofs.YtdnmgemjhpkekaaGreatDoor
open Go.ChangeShapes Go.WideShapes Go.ChangeAt Go.RowKit

theorem shl_add {x k g : Nat} (hx : x < 128 ^ k) (hk : k ≤ 9) (h9 : k = 9 → g ≤ 1) :
    IntKind.u64.wrap ((x : Int) + IntKind.u64.wrap (((g : Int) % 128) * 2 ^ (7 * k))) = ((x + g % 128 * 128 ^ k : Nat) : Int) := by
  have hlt := grp_lt hk h9
  have hnx := grp_next (g := g) hx
  have e1 : ((g : Int) % 128) = ((g % 128 : Nat) : Int) := by omega
  have w2 : (2 : Int) ^ (7 * k) = ((128 ^ k : Nat) : Int) := by rw [← pow128]; simp
  rw [e1, w2, ← Int.natCast_mul]
  have w3 : IntKind.u64.wrap ((g % 128 * 128 ^ k : Nat) : Int) = ((g % 128 * 128 ^ k : Nat) : Int) := by
    rw [IntKind.wrap_u64]
    generalize g % 128 * 128 ^ k = z at *
    omega
  rw [w3, ← Int.natCast_add, IntKind.wrap_u64]
  have hfin : x + g % 128 * 128 ^ k < 18446744073709551616 := by
    by_cases h : k = 9
    · subst h; have := h9 rfl
      have h1 : g % 128 * 128 ^ 9 ≤ 1 * 128 ^ 9 := Nat.mul_le_mul_right _ (by omega)
      have h2 : (128 : Nat) ^ 9 = 9223372036854775808 := by decide
      omega
    · have hp : 128 ^ (k + 1) ≤ 128 ^ 9 := Nat.pow_le_pow_right (by decide) (by omega)
      have : (128 : Nat) ^ 9 < 18446744073709551616 := by decide
      omega
  generalize x + g % 128 * 128 ^ k = z at *
  omega

set_option maxRecDepth 100000 in
set_option maxHeartbeats 800000 in
theorem rnumber_any {B : Nat} {w : World} {vb : Value} {l : List UInt8} (hr : Rd B w vb l) (hlen : l.length ≤ 1000000) :
    Calls Tryz.prog 52 #[vb, .int .i64 0] w fun e w' => e = .returned (.tuple #[.int .u64 (num l).1, .int .i64 (num l).2.1, .int .i64 (num l).2.2]) ∧ w = w' := by
  obtain ⟨oa, cap, rfl, _, hcell⟩ := hr.form
  by_cases hz : 0 < l.length
  · obtain ⟨b, off, rfl, _, _, _, hc⟩ := hcell hz
    clear hcell hr
    go_enter Tryz.func52, Tryz.ntmps52
    go_wp2
    go_loop [7, 8] (fun xv iv => ∃ (k x : Nat), k ≤ l.length ∧ iv = .int .i64 k ∧ xv = .int .u64 x ∧ Hid (x < 128 ^ k ∧ num l = numGo k x (l.drop k)) ∧ k ≤ 9)
      (fun _ iv => 11 - (intOf iv).toNat)
    case atStart => exact ⟨0, 0, Nat.zero_le _, rfl, rfl, ⟨by decide, rfl⟩, by omega⟩
    case round =>
      obtain ⟨k, x, hk, rfl, rfl, HP, hk9⟩ := hrel
      have hk11 : (k : Int) < 11 := by omega
      by_cases hlt : k < l.length
      · obtain ⟨g, HG, hg⟩ : ∃ g : UInt8, Hid (num l = numGo k x (g :: l.drop (k + 1))) ∧ w.cell? ⟨b, off + k, none⟩ = some (.int .u8 g.toNat) :=
          ⟨_, by have := HP.out.2; rw [drop_at l k hlt] at this; exact this, hc k hlt⟩
        have hi1 : (k : Int) < l.length := by omega
        have hi1' : ¬ (l.length : Int) ≤ k := by omega
        have hi0 : (0 : Int) ≤ k := by omega
        have hg0 : (0 : Int) ≤ (g.toNat : Int) := by omega
        have hgn := g.toNat_lt
        have hg1 : (g.toNat : Int) < 256 := by omega
        clear hc
        by_cases hA : k = 9 ∧ 1 < g.toNat
        · obtain ⟨rfl, hA⟩ := hA
          have hA' : (1 : Int) < g.toNat := by omega
          have hn := HG.out.trans (go_long ⟨rfl, hA⟩)
          have HN := Lib.hid hn
          clear hn
          go_wp2
          go_ret3
          exact ⟨by rw [HN.out]; rfl, rfl⟩
        · by_cases hB : 0 < k ∧ g.toNat = 0
          · have hn := HG.out.trans (go_min hA hB)
            have HN := Lib.hid hn
            clear hn
            obtain ⟨hB1, hB2⟩ := hB
            have hB1' : (0 : Int) < k := by omega
            have t2 : ((g.toNat : Int) == 0) = true := by rw [beq_iff_eq]; omega
            have hng : ¬ (1 : Int) < g.toNat := by omega
            have hng' : decide ((1 : Int) < g.toNat) = false := by simpa using hng
            clear hA hB2
            go_wp2
            all_goals go_ret3
            all_goals exact ⟨by rw [HN.out]; rfl, rfl⟩
          · obtain ⟨y, HY, hy⟩ : ∃ y : Nat, Hid (y = x + g.toNat % 128 * 128 ^ k) ∧ IntKind.u64.wrap ((x : Int) + IntKind.u64.wrap (((g.toNat : Int) % 128) * 2 ^ (7 * k))) = (y : Int) :=
              ⟨_, rfl, shl_add HP.out.1 hk9 (by omega)⟩
            have hng : k = 9 → ¬ 1 < g.toNat := fun e h => hA ⟨e, h⟩
            have hnz : 0 < k → ¬ g.toNat = 0 := fun e h => hB ⟨e, h⟩
            by_cases hC : g.toNat < 128
            · have hn := HG.out.trans (go_last hA hB hC)
              rw [← HY.out] at hn
              have HN := Lib.hid hn
              clear hn hA hB
              have hC' : (g.toNat : Int) < 128 := by omega
              have HNG := Lib.hid hng
              have HNZ := Lib.hid hnz
              clear hng hnz
              by_cases h9 : k = 9
              · have t0 : ((k : Int) == 9) = true := by rw [beq_iff_eq]; omega
                have t1 : ¬ (1 : Int) < g.toNat := by have := HNG.out h9; omega
                have t1' : decide ((1 : Int) < g.toNat) = false := by simpa using t1
                have t2 : ((g.toNat : Int) == 0) = false := by rw [beq_eq_false_iff_ne]; have := HNZ.out (by omega); omega
                have t3 : (0 : Int) < k := by omega
                clear h9
                go_wp2
                all_goals go_ret3
                all_goals exact ⟨by rw [HN.out]; rfl, rfl⟩
              · have t0 : ((k : Int) == 9) = false := by rw [beq_eq_false_iff_ne]; omega
                clear h9
                by_cases h0 : 0 < k
                · have t2 : ((g.toNat : Int) == 0) = false := by rw [beq_eq_false_iff_ne]; have := HNZ.out h0; omega
                  have t3 : (0 : Int) < k := by omega
                  go_wp2
                  all_goals go_ret3
                  all_goals exact ⟨by rw [HN.out]; rfl, rfl⟩
                · have t3 : ¬ (0 : Int) < k := by omega
                  have t3' : decide ((0 : Int) < k) = false := by simpa using t3
                  go_wp2
                  all_goals go_ret3
                  all_goals exact ⟨by rw [HN.out]; rfl, rfl⟩
            · have hk8 : k ≠ 9 := fun e => hA ⟨e, by omega⟩
              have hn := HG.out.trans (go_next hA hB hC)
              rw [← HY.out] at hn
              have HN := Lib.hid hn
              have hyl : y < 128 ^ (k + 1) := by rw [HY.out]; exact grp_next HP.out.1
              have HYL := Lib.hid hyl
              have hC' : (128 : Int) ≤ g.toNat := by omega
              have t1 : ((k : Int) == 9) = false := by rw [beq_eq_false_iff_ne]; omega
              have t2 : ((g.toNat : Int) == 0) = false := by rw [beq_eq_false_iff_ne]; omega
              clear hA hB hC hn hng hnz hyl
              go_wp2
              all_goals
                go_round
                case rel => exact ⟨k + 1, y, by omega, by go_num, rfl, ⟨HYL.out, HN.out⟩, by omega⟩
                case measure => simp [intOf]; omega
      · obtain rfl : k = l.length := by omega
        have hn : num l = (0, 0, 1) := by have := HP.out.2; rw [List.drop_length] at this; exact this
        have HN := Lib.hid hn
        clear hn hc
        go_wp2
        go_ret3
        exact ⟨by rw [HN.out]; rfl, rfl⟩
  · obtain rfl : l = [] := List.eq_nil_of_length_eq_zero (by omega)
    clear hcell hr
    go_enter Tryz.func52, Tryz.ntmps52
    go_wp2
    go_loop [7, 8] (fun xv iv => iv = .int .i64 0 ∧ xv = .int .u64 0) (fun _ iv => 0)
    case atStart => exact ⟨rfl, rfl⟩
    case round =>
      obtain ⟨rfl, rfl⟩ := hrel
      go_wp2
      go_ret3
      exact ⟨rfl, rfl⟩

end Go.Proofs.YtdnmgemjhpkekaaGreatDoor
