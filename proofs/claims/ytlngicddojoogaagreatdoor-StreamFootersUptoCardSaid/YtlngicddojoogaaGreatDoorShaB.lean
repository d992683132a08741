/-
  sha.schedule.
-/
import Derived.Test.YtlngicddojoogaaGreatDoorShaL
import Derived.BigQuiet
import Derived.Deep.QuietTactic
import Derived.StillTailTactics
import Derived.IntWalk
namespace Go.Proofs.YtlngicddojoogaaGreatDoor
open Go.ChangeShapes Go.WideShapes Go.ChangeAt Go.RowKit
set_option linter.unusedVariables false

/-- The words under way: block g holds l, nothing below B has turned. -/
def Mk (B : Nat) (w wr : World) (g : Nat) (l : List UInt32) : Prop := Arr wr 103 g (wvs l) ∧ Below B w wr
theorem Mk.cell {B : Nat} {w wr : World} {g : Nat} {l : List UInt32} (h : Mk B w wr g l) {i : Nat} (hi : i < l.length) : wr.cell? ⟨g, i, none⟩ = some (.int .u32 (l.getD i 0).toNat) := (h.1.cell i).trans (wvs_get l i hi)
theorem Mk.free {B : Nat} {w wr : World} {g : Nat} {l : List UInt32} (h : Mk B w wr g l) (i : Nat) : wr.frozen? ⟨g, i, none⟩ = false := h.1.free i
theorem Mk.set {B : Nat} {w wr : World} {g : Nat} {l : List UInt32} (h : Mk B w wr g l) (hg : B ≤ g) (i : Nat) (x : UInt32) {m : List UInt32} (hm : l.set i x = m) : Mk B w (wr.setCell ⟨g, i, none⟩ (.int .u32 x.toNat)) g m := by
  subst hm
  exact ⟨by rw [← wvs_set]; exact h.1.set i _, h.2.setCell hg _⟩
theorem Mk.drewN {B : Nat} {w wr : World} {g : Nat} {l : List UInt32} (h : Mk B w wr g l) (n : Nat) : Mk B w (wr.drewN n) g l := ⟨h.1.drewN n, h.2.trans (Joins.below_draws _ _ _)⟩

set_option maxRecDepth 100000 in
set_option maxHeartbeats 4000000 in
theorem sched_any (b : List UInt8) (hb : b.length = 64) (w : World) :
    Calls Tryz.prog 87 #[.agg (bvs b).toArray] w fun e w' => e = .returned (.agg (wvs (sched b)).toArray) ∧ Below w.heap.size w w' := by
  have HB := Lib.hid hb
  clear hb
  go_enter Tryz.func87, Tryz.ntmps87
  have hb0 := HB.out
  have hA0 : ∀ o, Arr ((w.alloc (.cells (bvs b).toArray 106)).alloc o) 106 w.heap.size (bvs b) := fun o => (Arr.new' w _ (bvs b).toArray (bvs b) (by simp)).alloc o
  go_wp2_with ((with_reducible refine load64b (x := .tmp 1) (o := ⟨some 10, _, _, _, _, _⟩) (hA0 _) HB.out ?_ ?_); exact ⟨rfl, rfl, rfl⟩)
  clear hb0 hA0
  go_loopw [11] (fun iv wr => ∃ i : Nat, i ≤ 64 ∧ iv = .int .i64 i ∧ Hid (Mk w.heap.size w wr (w.heap.size + 1) (mid b i))) (fun iv _ => 64 - (intOf iv).toNat)
  case atStart =>
    refine ⟨0, by omega, rfl, ?_, ((Below.refl _ _).alloc (Nat.le_refl _) _).alloc (by simp) _⟩
    rw [mid_zero]
    exact Arr.new2 _ _ _ _ _ rfl
  case round =>
    obtain ⟨i, hi, rfl, HM⟩ := hrel
    have hi0 : (0 : Int) ≤ i := by omega
    by_cases hlt : i < 64
    · have hlt1 : (i : Int) < 64 := by omega
      have hix := ixB b i hlt (by rw [HB.out]; exact hlt)
      have hq1 : (i : Int) / 4 < 64 := by omega
      have hq0 : (0 : Int) ≤ (i : Int) / 4 := by omega
      obtain ⟨c, hc, HC⟩ : ∃ c : UInt32, wr.cell? ⟨w.heap.size + 1, i / 4, none⟩ = some (.int .u32 c.toNat) ∧ Hid (c = (mid b i).getD (i / 4) 0) := ⟨_, HM.out.cell (by rw [mid_length]; omega), rfl⟩
      have hf := HM.out.free (i / 4)
      obtain ⟨x, hx⟩ : ∃ x, x = b.getD i 0 := ⟨_, rfl⟩
      rw [← hx] at hix
      have HX := Lib.hid hx
      clear hx
      go_wp2_with fail
      go_roundw
      case rel =>
        refine ⟨i + 1, by omega, by go_num, ?_⟩
        have hv := shl8_or' c x
        have hn := mid_next b i hlt
        rw [← HC.out, ← HX.out] at hn
        have := HM.out.set (by omega) (i / 4) _ hn
        rw [← hv] at this
        exact this
      case measure => simp [intOf]; omega
    · have HM1 : Hid (Mk w.heap.size w wr (w.heap.size + 1) (ext64 b 16)) := by rw [← mid_done, show 64 = i by omega]; exact HM.out
      rw [show (i : Int) = 64 by omega]
      clear HM hlt hi hi0
      go_wp2_with fail
      go_loopw [5] (fun iv wr => ∃ i : Nat, 16 ≤ i ∧ i ≤ 64 ∧ iv = .int .i64 i ∧ Hid (Mk w.heap.size w wr (w.heap.size + 1) (ext64 b i))) (fun iv _ => 64 - (intOf iv).toNat)
      case atStart => exact ⟨16, by omega, by omega, rfl, HM1.out⟩
      case round =>
        obtain ⟨i, h16, hi, rfl, HM⟩ := hrel
        clear HM1
        have hi0 : (16 : Int) ≤ i := by omega
        by_cases hlt : i < 64
        · have hlt1 : (i : Int) < 64 := by omega
          have HN := Lib.hid (ext64_next b i h16 hlt)
          obtain ⟨L, hL⟩ : ∃ L, L = ext64 b i := ⟨_, rfl⟩
          rw [← hL] at HM HN
          have HL : Hid (L.length = 64) := by rw [hL]; exact ext64_length b i h16 hi
          clear hL
          obtain ⟨x15, c15, E15⟩ : ∃ c : UInt32, wr.cell? ⟨w.heap.size + 1, i - 15, none⟩ = some (.int .u32 c.toNat) ∧ Hid (c = L.getD (i - 15) 0) := ⟨_, HM.out.cell (by rw [HL.out]; omega), rfl⟩
          obtain ⟨x2, c2, E2⟩ : ∃ c : UInt32, wr.cell? ⟨w.heap.size + 1, i - 2, none⟩ = some (.int .u32 c.toNat) ∧ Hid (c = L.getD (i - 2) 0) := ⟨_, HM.out.cell (by rw [HL.out]; omega), rfl⟩
          obtain ⟨x16, c16, E16⟩ : ∃ c : UInt32, wr.cell? ⟨w.heap.size + 1, i - 16, none⟩ = some (.int .u32 c.toNat) ∧ Hid (c = L.getD (i - 16) 0) := ⟨_, HM.out.cell (by rw [HL.out]; omega), rfl⟩
          obtain ⟨x7, c7, E7⟩ : ∃ c : UInt32, wr.cell? ⟨w.heap.size + 1, i - 7, none⟩ = some (.int .u32 c.toNat) ∧ Hid (c = L.getD (i - 7) 0) := ⟨_, HM.out.cell (by rw [HL.out]; omega), rfl⟩
          have hf := HM.out.free i
          have hcell := HM.out.cell (i := i) (by rw [HL.out]; omega)
          have t15 : ((i : Int) - 15).toNat = i - 15 := by omega
          have t2 : ((i : Int) - 2).toNat = i - 2 := by omega
          have t16 : ((i : Int) - 16).toNat = i - 16 := by omega
          have t7 : ((i : Int) - 7).toNat = i - 7 := by omega
          go_wp2_with fail
          go_quiet (fail)
          go_wp2_with fail
          have hs0 : bits .xor .u32 (bits .xor .u32 ((rotr x15 7).toNat : Int) ((rotr x15 18).toNat : Int)) ((x15.toNat : Int) / 8) = ((sg0 x15).toNat : Int) := sg0_val x15
          have hs1 : bits .xor .u32 (bits .xor .u32 ((rotr x2 17).toNat : Int) ((rotr x2 19).toNat : Int)) ((x2.toNat : Int) / 1024) = ((sg1 x2).toNat : Int) := sg1_val x2
          refine (right_any x15 _ (by decide) _).mono ?_
          rintro e w1 ⟨rfl, rfl⟩
          go_wp2_with fail
          refine (right_any x15 _ (by decide) _).mono ?_
          rintro e w1 ⟨rfl, rfl⟩
          go_wp2_with fail
          refine (right_any x2 _ (by decide) _).mono ?_
          rintro e w1 ⟨rfl, rfl⟩
          go_wp2_with fail
          refine (right_any x2 _ (by decide) _).mono ?_
          rintro e w1 ⟨rfl, rfl⟩
          go_wp2_with fail
          have hwa := w_add
          have g16 : IntKind.i64.wrap ((i : Int) - 16) = (i : Int) - 16 := IntWalk.i64_in _ (by omega)
          have g7 : IntKind.i64.wrap ((i : Int) - 7) = (i : Int) - 7 := IntWalk.i64_in _ (by omega)
          have k7 : (7 : Int) ≤ i := by omega
          have z16 : (0 : Int) ≤ (i : Int) - 16 := by omega
          have z7 : (0 : Int) ≤ (i : Int) - 7 := by omega
          have y16 : (i : Int) - 16 < 64 := by omega
          have y7 : (i : Int) - 7 < 64 := by omega
          refine region_tail 14 (by kernel_rfl) (by kernel_rfl) ?_
          simp only [List.take_succ_cons, List.take_zero, List.drop_succ_cons, List.drop_zero]
          repeat still_step
          refine wpStill_nil ?_
          go_wp2_with fail
          go_roundw
          case rel =>
            have hn := HN.out
            rw [← E16.out, ← E15.out, ← E7.out, ← E2.out] at hn
            refine ⟨i + 1, by omega, by omega, by go_num, ?_⟩
            rw [sum4]
            exact (HM.out.drewN _).set (by omega) i _ hn
          case measure => simp [intOf]; omega
        · have HM2 : Hid (Mk w.heap.size w wr (w.heap.size + 1) (sched b)) := by rw [← ext64_done, show 64 = i by omega]; exact HM.out
          rw [show (i : Int) = 64 by omega]
          clear HM hlt hi hi0 h16
          have hA := HM2.out.1
          have HSL := Lib.hid (sched_length b)
          have hO : (wvs (sched b)).length = 64 := by rw [wvs_length, HSL.out]
          have HO := Lib.hid hO
          clear hO
          go_wp2_with (first
            | ((with_reducible refine load64w (x := .tmp 2) (o := ⟨some 70, _, _, _, _, _⟩) hA HSL.out ?_ ?_); exact ⟨rfl, rfl, rfl⟩)
            | ((with_reducible refine store64w (x := .tmp 2) (y := .tmp 70) (l := sched b) (o := ⟨none, .store _ _ _, _, _, _, _⟩) hA HO.out HSL.out ?_ ?_); exact ⟨rfl, rfl, rfl, rfl⟩))
          exact bodyPost_ret (res64w rfl (HM2.out.1.row _) HSL.out rfl) rfl ⟨rfl, below_row HM2.out.2 (by omega) _⟩
end Go.Proofs.YtlngicddojoogaaGreatDoor
