/-
  wire.number and Cursor.Number read the number with which bytes begin, as numGo says.
-/
import Derived.Test.YtdnmgemjhpkekaaGreatDoorRest
namespace Go.Proofs.YtdnmgemjhpkekaaGreatDoor
open Go.ChangeShapes Go.WideShapes Go.ChangeAt Go.RowKit

/-- Number, size, code of the error: the groups l from the i-th on, x is what the groups before gave. -/
def numGo : Nat → Nat → List UInt8 → Nat × Nat × Nat
  | _, _, [] => (0, 0, 1)
  | i, x, g :: r => if i = 9 ∧ 1 < g.toNat then (0, 0, 2) else if 0 < i ∧ g.toNat = 0 then (0, 0, 3) else
      if g.toNat < 128 then (x + g.toNat % 128 * 128 ^ i, i + 1, 0) else numGo (i + 1) (x + g.toNat % 128 * 128 ^ i) r
theorem go_long {i x : Nat} {g : UInt8} {r : List UInt8} (h : i = 9 ∧ 1 < g.toNat) : numGo i x (g :: r) = (0, 0, 2) := by rw [numGo, if_pos h]
theorem go_min {i x : Nat} {g : UInt8} {r : List UInt8} (h : ¬ (i = 9 ∧ 1 < g.toNat)) (h2 : 0 < i ∧ g.toNat = 0) : numGo i x (g :: r) = (0, 0, 3) := by rw [numGo, if_neg h, if_pos h2]
theorem go_last {i x : Nat} {g : UInt8} {r : List UInt8} (h : ¬ (i = 9 ∧ 1 < g.toNat)) (h2 : ¬ (0 < i ∧ g.toNat = 0)) (h3 : g.toNat < 128) : numGo i x (g :: r) = (x + g.toNat % 128 * 128 ^ i, i + 1, 0) := by rw [numGo, if_neg h, if_neg h2, if_pos h3]
theorem go_next {i x : Nat} {g : UInt8} {r : List UInt8} (h : ¬ (i = 9 ∧ 1 < g.toNat)) (h2 : ¬ (0 < i ∧ g.toNat = 0)) (h3 : ¬ g.toNat < 128) : numGo i x (g :: r) = numGo (i + 1) (x + g.toNat % 128 * 128 ^ i) r := by rw [numGo, if_neg h, if_neg h2, if_neg h3]
theorem drop_at (l : List UInt8) (k : Nat) (h : k < l.length) : l.drop k = l.getD k 0 :: l.drop (k + 1) := by
  rw [List.drop_eq_getElem_cons h]; simp [List.getD_eq_getElem?_getD, List.getElem?_eq_getElem h]
def num (l : List UInt8) : Nat × Nat × Nat := numGo 0 0 l

def NumPost (w : World) (r : Nat × Nat × Nat) (e : Ending) (w' : World) : Prop := e = .returned (.tuple #[.int .u64 r.1, .int .i64 r.2.1, errV r.2.2]) ∧ w = w'

set_option maxRecDepth 100000 in
set_option maxHeartbeats 800000 in
theorem number_any {B : Nat} {w : World} {vb : Value} {l : List UInt8} (hr : Rd B w vb l) :
    Calls Tryz.prog 89 #[vb] w (NumPost w (num l)) := by
  rcases hr with ⟨oa, rfl, rfl⟩ | ⟨b, off, cap, rfl, h1, h2, h3, hc⟩
  · go_enter Tryz.func89, Tryz.ntmps89
    go_wp2
    go_loop [2, 3, 4, 9] (fun xv sv ev iv => iv = .int .i64 0 ∧ sv = .int .i64 0 ∧ ev = .nilIface ∧ xv = .int .u64 0) (fun _ _ _ iv => 0)
    case atStart => exact ⟨rfl, rfl, rfl, rfl⟩
    case round =>
      obtain ⟨rfl, rfl, rfl, rfl⟩ := hrel
      go_wp2
      go_ret3
      exact ⟨rfl, rfl⟩
  · unfold maxLen at h2
    have hlen : l.length ≤ 9223372036854775807 := by omega
    go_enter Tryz.func89, Tryz.ntmps89
    go_wp2
    go_loop [2, 3, 4, 9] (fun xv sv ev iv => ∃ (k x : Nat), k ≤ l.length ∧ iv = .int .i64 k ∧ sv = .int .i64 0 ∧ ev = .nilIface ∧ xv = .int .u64 x ∧ Hid (x < 128 ^ k ∧ num l = numGo k x (l.drop k)) ∧ k ≤ 9)
      (fun _ _ _ iv => l.length - (intOf iv).toNat)
    case atStart => exact ⟨0, 0, Nat.zero_le _, rfl, rfl, rfl, rfl, ⟨by decide, rfl⟩, by omega⟩
    case round =>
      obtain ⟨k, x, hk, rfl, rfl, rfl, rfl, HP, hk9⟩ := hrel
      by_cases hlt : k < l.length
      · obtain ⟨g, HG, hg⟩ : ∃ g : UInt8, Hid (num l = numGo k x (g :: l.drop (k + 1))) ∧ w.cell? ⟨b, off + k, none⟩ = some (.int .u8 g.toNat) :=
          ⟨_, by have := HP.out.2; rw [drop_at l k hlt] at this; exact this, hc k hlt⟩
        have hi1 : (k : Int) < l.length := by omega
        have hi0 : (0 : Int) ≤ k := by omega
        have hg0 : (0 : Int) ≤ (g.toNat : Int) := by omega
        have hgn := g.toNat_lt
        have hg1 : (g.toNat : Int) < 256 := by omega
        clear hc h1 h2 h3
        by_cases hA : k = 9 ∧ 1 < g.toNat
        · obtain ⟨rfl, hA⟩ := hA
          have hA' : (1 : Int) < g.toNat := by omega
          have hn := HG.out.trans (go_long ⟨rfl, hA⟩)
          have HN := Lib.hid hn
          clear hn
          go_wp2
          go_ret3
          exact ⟨by rw [HN.out]; rfl, rfl⟩
        · by_cases hB : 0 < k ∧ g.toNat = 0
          · have hn := HG.out.trans (go_min hA hB)
            have HN := Lib.hid hn
            clear hn
            obtain ⟨hB1, hB2⟩ := hB
            have hB1' : (0 : Int) < k := by omega
            have t1 : ((k : Int) == 9 && decide ((1 : Int) < g.toNat)) = false := by simp; omega
            have t2 : ((g.toNat : Int) == 0) = true := by rw [beq_iff_eq]; omega
            have hng : ¬ (1 : Int) < g.toNat := by omega
            have hng' : decide ((1 : Int) < g.toNat) = false := by simpa using hng
            clear hA hB2
            go_wp2
            all_goals go_ret3
            all_goals exact ⟨by rw [HN.out]; rfl, rfl⟩
          · obtain ⟨y, HY, hy⟩ : ∃ y : Nat, Hid (y = x + g.toNat % 128 * 128 ^ k) ∧ bits .or .u64 (x : Int) (IntKind.u64.wrap (IntKind.u64.wrap (bits .and .u8 (g.toNat : Int) 127) * 2 ^ (7 * k))) = (y : Int) :=
              ⟨_, rfl, shl_or HP.out.1 hk9 hgn (by omega)⟩
            have hng : k = 9 → ¬ 1 < g.toNat := fun e h => hA ⟨e, h⟩
            have hnz : 0 < k → ¬ g.toNat = 0 := fun e h => hB ⟨e, h⟩
            by_cases hC : g.toNat < 128
            · have hn := HG.out.trans (go_last hA hB hC)
              rw [← HY.out] at hn
              have HN := Lib.hid hn
              clear hn hA hB
              have hC' : (g.toNat : Int) < 128 := by omega
              have HNG := Lib.hid hng
              have HNZ := Lib.hid hnz
              clear hng hnz
              by_cases h9 : k = 9
              · have t0 : ((k : Int) == 9) = true := by rw [beq_iff_eq]; omega
                have t1 : ¬ (1 : Int) < g.toNat := by have := HNG.out h9; omega
                have t1' : decide ((1 : Int) < g.toNat) = false := by simpa using t1
                have t2 : ((g.toNat : Int) == 0) = false := by rw [beq_eq_false_iff_ne]; have := HNZ.out (by omega); omega
                have t3 : (0 : Int) < k := by omega
                clear h9
                go_wp2
                all_goals go_ret3
                all_goals exact ⟨by rw [HN.out]; rfl, rfl⟩
              · have t0 : ((k : Int) == 9) = false := by rw [beq_eq_false_iff_ne]; omega
                clear h9
                by_cases h0 : 0 < k
                · have t2 : ((g.toNat : Int) == 0) = false := by rw [beq_eq_false_iff_ne]; have := HNZ.out h0; omega
                  have t3 : (0 : Int) < k := by omega
                  go_wp2
                  all_goals go_ret3
                  all_goals exact ⟨by rw [HN.out]; rfl, rfl⟩
                · have t3 : ¬ (0 : Int) < k := by omega
                  have t3' : decide ((0 : Int) < k) = false := by simpa using t3
                  go_wp2
                  all_goals go_ret3
                  all_goals exact ⟨by rw [HN.out]; rfl, rfl⟩
            · have hk8 : k ≠ 9 := fun e => hA ⟨e, by omega⟩
              have hn := HG.out.trans (go_next hA hB hC)
              rw [← HY.out] at hn
              have HN := Lib.hid hn
              have hyl : y < 128 ^ (k + 1) := by rw [HY.out]; exact grp_next HP.out.1
              have HYL := Lib.hid hyl
              have hC' : (128 : Int) ≤ g.toNat := by omega
              have t1 : ((k : Int) == 9) = false := by rw [beq_eq_false_iff_ne]; omega
              have t2 : ((g.toNat : Int) == 0) = false := by rw [beq_eq_false_iff_ne]; omega
              clear hA hB hC hn hng hnz hyl
              go_wp2
              all_goals
                go_round
                case rel => exact ⟨k + 1, y, by omega, by go_num, rfl, rfl, rfl, ⟨HYL.out, HN.out⟩, by omega⟩
                case measure => simp [intOf]; omega
      · obtain rfl : k = l.length := by omega
        have hn : num l = (0, 0, 1) := by have := HP.out.2; rw [List.drop_length] at this; exact this
        have HN := Lib.hid hn
        clear hn hc
        go_wp2
        go_ret3
        exact ⟨by rw [HN.out]; rfl, rfl⟩
end Go.Proofs.YtdnmgemjhpkekaaGreatDoor
