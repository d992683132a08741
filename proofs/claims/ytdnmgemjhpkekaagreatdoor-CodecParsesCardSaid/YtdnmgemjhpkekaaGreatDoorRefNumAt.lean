/-
  vestryref01.Number at any offset.
-/
import Derived.Test.YtdnmgemjhpkekaaGreatDoorRefNumber
namespace Go.Proofs.YtdnmgemjhpkekaaGreatDoor
open Go.ChangeShapes Go.WideShapes Go.ChangeAt Go.RowKit
set_option linter.unusedVariables false

set_option maxRecDepth 100000 in
set_option maxHeartbeats 800000 in
theorem rnumber_at {B : Nat} {w : World} {vb : Value} {l : List UInt8} (hr : Rd B w vb l) (hlen : l.length ≤ 1000000) (A : Nat) (hA0 : A ≤ l.length) :
    Calls Tryz.prog 52 #[vb, .int .i64 A] w fun e w' => e = .returned (.tuple #[.int .u64 (num (l.drop A)).1, .int .i64 ((A + (num (l.drop A)).2.1 : Nat) : Int), .int .i64 (num (l.drop A)).2.2]) ∧ w = w' := by
  obtain ⟨oa, cap, rfl, _, hcell⟩ := hr.form
  obtain ⟨m, hm⟩ : ∃ m, m = l.drop A := ⟨_, rfl⟩
  have hml : m.length = l.length - A := by rw [hm, List.length_drop]
  have hmg : ∀ k, m.getD k 0 = l.getD (A + k) 0 := fun k => by rw [hm]; simp [List.getD_eq_getElem?_getD, List.getElem?_drop]
  rw [← hm]
  clear hm
  by_cases hz : 0 < l.length
  · obtain ⟨b, off, rfl, _, _, _, hc⟩ := hcell hz
    clear hcell hr
    go_enter Tryz.func52, Tryz.ntmps52
    go_wp2
    go_loop [7, 8] (fun xv iv => ∃ (k x : Nat), A + k ≤ l.length ∧ iv = .int .i64 k ∧ xv = .int .u64 x ∧ Hid (x < 128 ^ k ∧ num m = numGo k x (m.drop k)) ∧ k ≤ 9)
      (fun _ iv => 11 - (intOf iv).toNat)
    case atStart => exact ⟨0, 0, by omega, rfl, rfl, ⟨by decide, rfl⟩, by omega⟩
    case round =>
      obtain ⟨k, x, hk, rfl, rfl, HP, hk9⟩ := hrel
      have hk11 : (k : Int) < 11 := by omega
      by_cases hlt : A + k < l.length
      · obtain ⟨g, HG, hg⟩ : ∃ g : UInt8, Hid (num m = numGo k x (g :: m.drop (k + 1))) ∧ w.cell? ⟨b, off + (A + k), none⟩ = some (.int .u8 g.toNat) :=
          ⟨_, by have := HP.out.2; rw [drop_at m k (by omega), hmg] at this; exact this, hc (A + k) hlt⟩
        have hi1 : (A : Int) + k < l.length := by omega
        have hi1' : ¬ (l.length : Int) ≤ (A : Int) + k := by omega
        have hi0 : (0 : Int) ≤ (A : Int) + k := by omega
        have hg0 : (0 : Int) ≤ (g.toNat : Int) := by omega
        have hgn := g.toNat_lt
        have hg1 : (g.toNat : Int) < 256 := by omega
        clear hc hmg hml
        by_cases hA : k = 9 ∧ 1 < g.toNat
        · obtain ⟨rfl, hA⟩ := hA
          have hA' : (1 : Int) < g.toNat := by omega
          have hn := HG.out.trans (go_long ⟨rfl, hA⟩)
          have HN := Lib.hid hn
          clear hn
          go_wp2
          go_ret3
          exact ⟨by rw [HN.out]; first | rfl | (simp only [Nat.add_zero]; rfl) | (refine congrArg _ (congrArg _ ?_); simp only [← Nat.add_assoc]; first | rfl | (simp; omega)), rfl⟩
        · by_cases hB : 0 < k ∧ g.toNat = 0
          · have hn := HG.out.trans (go_min hA hB)
            have HN := Lib.hid hn
            clear hn
            obtain ⟨hB1, hB2⟩ := hB
            have hB1' : (0 : Int) < k := by omega
            have t2 : ((g.toNat : Int) == 0) = true := by rw [beq_iff_eq]; omega
            have hng : ¬ (1 : Int) < g.toNat := by omega
            have hng' : decide ((1 : Int) < g.toNat) = false := by simpa using hng
            clear hA hB2
            go_wp2
            all_goals go_ret3
            all_goals exact ⟨by rw [HN.out]; first | rfl | (simp only [Nat.add_zero]; rfl) | (refine congrArg _ (congrArg _ ?_); simp only [← Nat.add_assoc]; first | rfl | (simp; omega)), rfl⟩
          · obtain ⟨y, HY, hy⟩ : ∃ y : Nat, Hid (y = x + g.toNat % 128 * 128 ^ k) ∧ IntKind.u64.wrap ((x : Int) + IntKind.u64.wrap (((g.toNat : Int) % 128) * 2 ^ (7 * k))) = (y : Int) :=
              ⟨_, rfl, shl_add HP.out.1 hk9 (by omega)⟩
            have hng : k = 9 → ¬ 1 < g.toNat := fun e h => hA ⟨e, h⟩
            have hnz : 0 < k → ¬ g.toNat = 0 := fun e h => hB ⟨e, h⟩
            by_cases hC : g.toNat < 128
            · have hn := HG.out.trans (go_last hA hB hC)
              rw [← HY.out] at hn
              have HN := Lib.hid hn
              clear hn hA hB
              have hC' : (g.toNat : Int) < 128 := by omega
              have HNG := Lib.hid hng
              have HNZ := Lib.hid hnz
              clear hng hnz
              by_cases h9 : k = 9
              · have t0 : ((k : Int) == 9) = true := by rw [beq_iff_eq]; omega
                have t1 : ¬ (1 : Int) < g.toNat := by have := HNG.out h9; omega
                have t1' : decide ((1 : Int) < g.toNat) = false := by simpa using t1
                have t2 : ((g.toNat : Int) == 0) = false := by rw [beq_eq_false_iff_ne]; have := HNZ.out (by omega); omega
                have t3 : (0 : Int) < k := by omega
                clear h9
                go_wp2
                all_goals go_ret3
                all_goals exact ⟨by rw [HN.out]; first | rfl | (simp only [Nat.add_zero]; rfl) | (refine congrArg _ (congrArg _ ?_); simp only [← Nat.add_assoc]; first | rfl | (simp; omega)), rfl⟩
              · have t0 : ((k : Int) == 9) = false := by rw [beq_eq_false_iff_ne]; omega
                clear h9
                by_cases h0 : 0 < k
                · have t2 : ((g.toNat : Int) == 0) = false := by rw [beq_eq_false_iff_ne]; have := HNZ.out h0; omega
                  have t3 : (0 : Int) < k := by omega
                  go_wp2
                  all_goals go_ret3
                  all_goals exact ⟨by rw [HN.out]; first | rfl | (simp only [Nat.add_zero]; rfl) | (refine congrArg _ (congrArg _ ?_); simp only [← Nat.add_assoc]; first | rfl | (simp; omega)), rfl⟩
                · have t3 : ¬ (0 : Int) < k := by omega
                  have t3' : decide ((0 : Int) < k) = false := by simpa using t3
                  go_wp2
                  all_goals go_ret3
                  all_goals exact ⟨by rw [HN.out]; first | rfl | (simp only [Nat.add_zero]; rfl) | (refine congrArg _ (congrArg _ ?_); simp only [← Nat.add_assoc]; first | rfl | (simp; omega)), rfl⟩
            · have hk8 : k ≠ 9 := fun e => hA ⟨e, by omega⟩
              have hn := HG.out.trans (go_next hA hB hC)
              rw [← HY.out] at hn
              have HN := Lib.hid hn
              have hyl : y < 128 ^ (k + 1) := by rw [HY.out]; exact grp_next HP.out.1
              have HYL := Lib.hid hyl
              have hC' : (128 : Int) ≤ g.toNat := by omega
              have t1 : ((k : Int) == 9) = false := by rw [beq_eq_false_iff_ne]; omega
              have t2 : ((g.toNat : Int) == 0) = false := by rw [beq_eq_false_iff_ne]; omega
              clear hA hB hC hn hng hnz hyl
              go_wp2
              all_goals
                go_round
                case rel => exact ⟨k + 1, y, by omega, by go_num, rfl, ⟨HYL.out, HN.out⟩, by omega⟩
                case measure => simp [intOf]; omega
      · have hn : num m = (0, 0, 1) := by have := HP.out.2; rw [List.drop_of_length_le (by omega)] at this; exact this
        have hend : (l.length : Int) ≤ (A : Int) + k := by omega
        have HN := Lib.hid hn
        clear hn hc hmg hml
        go_wp2
        go_ret3
        exact ⟨by rw [HN.out]; first | rfl | (simp only [Nat.add_zero]; rfl) | (refine congrArg _ (congrArg _ ?_); simp only [← Nat.add_assoc]; first | rfl | (simp; omega)), rfl⟩
  · obtain rfl : l = [] := List.eq_nil_of_length_eq_zero (by omega)
    obtain rfl : A = 0 := by simpa using hA0
    obtain rfl : m = [] := List.eq_nil_of_length_eq_zero (by simpa using hml)
    clear hcell hr
    go_enter Tryz.func52, Tryz.ntmps52
    go_wp2
    go_loop [7, 8] (fun xv iv => iv = .int .i64 0 ∧ xv = .int .u64 0) (fun _ iv => 0)
    case atStart => exact ⟨rfl, rfl⟩
    case round =>
      obtain ⟨rfl, rfl⟩ := hrel
      go_wp2
      go_ret3
      exact ⟨rfl, rfl⟩

end Go.Proofs.YtdnmgemjhpkekaaGreatDoor
