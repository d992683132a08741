/-
  sha.Block.
-/
import Derived.Test.YtlngicddojoogaaGreatDoorShaB
namespace Go.Proofs.YtlngicddojoogaaGreatDoor
open Go.ChangeShapes Go.WideShapes Go.ChangeAt Go.RowKit
set_option linter.unusedVariables false

/-- The package's two tables lie where they were laid. -/
def Env (w : World) : Prop := (∃ t, Arr w t 0 (wvs st0.list)) ∧ ∃ t, Arr w t 2 (wvs kk)
theorem Env.below {w w' : World} (h : Env w) (hb : Below w.heap.size w w') : Env w' := ⟨h.1.imp fun _ h => h.later hb, h.2.imp fun _ h => h.later hb⟩
theorem kk_length : kk.length = 64 := rfl
theorem Env.k {w : World} (h : Env w) {i : Nat} (hi : i < 64) : w.cell? ⟨2, i, none⟩ = some (.int .u32 (kk.getD i 0).toNat) := by
  obtain ⟨t, h2⟩ := h.2
  exact (h2.cell i).trans (wvs_get kk i hi)
theorem list_length (s : S8) : s.list.length = 8 := rfl

set_option maxRecDepth 100000 in
set_option maxHeartbeats 4000000 in
theorem block_any (s : S8) (b : List UInt8) (hb : b.length = 64) (w : World) (he : Env w) :
    Calls Tryz.prog 71 #[.agg (wvs s.list).toArray, .agg (bvs b).toArray] w fun e w' => e = .returned (.agg (wvs (blk s b).list).toArray) ∧ Below w.heap.size w w' := by
  have HB := Lib.hid hb
  have HE := Lib.hid he
  have HL := Lib.hid (sched_length b)
  clear hb he
  obtain ⟨sl, hsl⟩ : ∃ sl, sl = s.list := ⟨_, rfl⟩
  rw [← hsl]
  have HSL := Lib.hid hsl
  clear hsl
  go_enter Tryz.func71, Tryz.ntmps71
  have hA0 : ∀ o, Arr (((w.alloc (.cells (wvs sl).toArray 97)).alloc (.cells (bvs b).toArray 106)).alloc o) 106 (w.heap.size + 1) (bvs b) := fun o => (Arr.new2 w _ _ (bvs b).toArray (bvs b) (by simp)).alloc o
  have hA1 : ∀ o o2, Arr (((w.alloc (.cells (wvs sl).toArray 97)).alloc o).alloc o2) 97 w.heap.size (wvs sl) := fun o o2 => ((Arr.new' w _ (wvs sl).toArray (wvs sl) (by simp)).alloc o).alloc o2
  have HA1 := Lib.hid hA1
  have HA2 := Lib.hid (fun cs : Array Value => Arr.new3 w (.cells (wvs sl).toArray 97) (.cells (bvs b).toArray 106) 97 cs cs.toList rfl)
  clear hA1
  go_wp2_with ((with_reducible refine load64b (x := .tmp 3) (o := ⟨some 20, _, _, _, _, _⟩) (hA0 _) HB.out ?_ ?_); exact ⟨rfl, rfl, rfl⟩)
  clear hA0
  refine (sched_any b HB.out _).mono ?_
  rintro e w1 ⟨rfl, b1⟩
  have HS1 := Lib.hid ((HA1.out _ _).later b1)
  obtain ⟨z, hz, HZ1⟩ : ∃ z : List Value, z.length = 8 ∧ Hid (Arr w1 97 (w.heap.size + 2) z) := ⟨_, rfl, (HA2.out _).later b1⟩
  have HZL := Lib.hid hz
  have hb1 : Below w.heap.size w w1 := ((((Below.refl _ _).alloc (Nat.le_refl _) _).alloc (by simp) _).alloc (by simp; omega) _).trans (b1.mono (by simp; omega))
  have HB1 := Lib.hid hb1
  have HE1 := Lib.hid (HE.out.below hb1)
  clear b1 hb1 HA1 HA2 hz
  go_wp2_with ((with_reducible refine new64w (x := .tmp 5) (y := .tmp 21) (l := sched b) (o := ⟨none, .store _ _ _, _, _, _, _⟩) HL.out ?_ ?_); exact ⟨rfl, rfl, rfl, rfl, rfl⟩)
  have h2 : Below w1.heap.size w1 (w1.alloc (.cells (wvs (sched b)).toArray 103)) := (Below.refl _ _).alloc (Nat.le_refl _) _
  have HB2 := Lib.hid (HB1.out.alloc HB1.out.size (.cells (wvs (sched b)).toArray 103))
  have HE2 := Lib.hid (HE1.out.below h2)
  have HW2 := Lib.hid (Arr.new' w1 103 (wvs (sched b)).toArray (wvs (sched b)) (by simp))
  have HS2 := Lib.hid (HS1.out.later h2)
  have HZ2 := Lib.hid (HZ1.out.later h2)
  clear h2 HB1 HE1 HS1 HZ1
  generalize w1.alloc (.cells (wvs (sched b)).toArray 103) = w2 at HB2 HE2 HW2 HS2 HZ2 ⊢
  obtain ⟨a0, b0, c0, d0, e0, f0, g0, h0⟩ := s
  have q0 : w2.cell? ⟨w.heap.size, 0, none⟩ = some (.int .u32 a0.toNat) := (HS2.out.cell 0).trans (by rw [HSL.out]; rfl)
  have q1 : w2.cell? ⟨w.heap.size, 1, none⟩ = some (.int .u32 b0.toNat) := (HS2.out.cell 1).trans (by rw [HSL.out]; rfl)
  have q2 : w2.cell? ⟨w.heap.size, 2, none⟩ = some (.int .u32 c0.toNat) := (HS2.out.cell 2).trans (by rw [HSL.out]; rfl)
  have q3 : w2.cell? ⟨w.heap.size, 3, none⟩ = some (.int .u32 d0.toNat) := (HS2.out.cell 3).trans (by rw [HSL.out]; rfl)
  have q4 : w2.cell? ⟨w.heap.size, 4, none⟩ = some (.int .u32 e0.toNat) := (HS2.out.cell 4).trans (by rw [HSL.out]; rfl)
  have q5 : w2.cell? ⟨w.heap.size, 5, none⟩ = some (.int .u32 f0.toNat) := (HS2.out.cell 5).trans (by rw [HSL.out]; rfl)
  have q6 : w2.cell? ⟨w.heap.size, 6, none⟩ = some (.int .u32 g0.toNat) := (HS2.out.cell 6).trans (by rw [HSL.out]; rfl)
  have q7 : w2.cell? ⟨w.heap.size, 7, none⟩ = some (.int .u32 h0.toNat) := (HS2.out.cell 7).trans (by rw [HSL.out]; rfl)
  go_quiet (fail)
  have hA2 := HW2.out.drewN nq
  go_wp2_with ((with_reducible refine load64w (x := .tmp 5) (o := ⟨some 38, _, _, _, _, _⟩) hA2 HL.out ?_ ?_); exact ⟨rfl, rfl, rfl⟩)
  clear hA2 q0 q1 q2 q3 q4 q5 q6 q7
  go_loopw [39, 6, 7, 8, 9, 10, 11, 12, 13] (fun iv va vb vc vd ve vf vg vh wr => ∃ (i : Nat) (A B C D E F G H : UInt32), i ≤ 64 ∧ iv = .int .i64 i ∧ va = .int .u32 A.toNat ∧ vb = .int .u32 B.toNat ∧ vc = .int .u32 C.toNat ∧ vd = .int .u32 D.toNat ∧ ve = .int .u32 E.toNat ∧ vf = .int .u32 F.toNat ∧ vg = .int .u32 G.toNat ∧ vh = .int .u32 H.toNat ∧ Hid (rounds kk (sched b) i ⟨a0, b0, c0, d0, e0, f0, g0, h0⟩ = ⟨A, B, C, D, E, F, G, H⟩) ∧ Hid (∃ n, wr = w2.drewN n)) (fun iv _ _ _ _ _ _ _ _ _ => 64 - (intOf iv).toNat)
  case atStart => exact ⟨0, a0, b0, c0, d0, e0, f0, g0, h0, by omega, rfl, rfl, rfl, rfl, rfl, rfl, rfl, rfl, rfl, rfl, _, rfl⟩
  case round =>
    obtain ⟨i, A, B, C, D, E, F, G, H, hi, rfl, rfl, rfl, rfl, rfl, rfl, rfl, rfl, rfl, HR, HD⟩ := hrel
    have hi0 : (0 : Int) ≤ i := by omega
    by_cases hlt : i < 64
    · have hlt1 : (i : Int) < 64 := by omega
      obtain ⟨x, hx⟩ : ∃ x, x = (sched b).getD i 0 := ⟨_, rfl⟩
      have hix := ixW (sched b) i hlt (by rw [HL.out]; exact hlt)
      obtain ⟨k, hk⟩ : ∃ k, k = kk.getD i 0 := ⟨_, rfl⟩
      have hkc : wr.cell? ⟨2, i, none⟩ = some (.int .u32 k.toNat) := by
        obtain ⟨nd, hnd⟩ := HD.out
        rw [hk, hnd]; exact HE2.out.k hlt
      rw [← hx] at hix
      have HX := Lib.hid hx
      have HK := Lib.hid hk
      have r1 := Wp_wrap
      have r2 := Wp_mod
      have r3 := Wx_val
      have r4 := Wa_val
      have r5 := Wn_val
      have r6 := Wn_val'
      clear hx hk
      go_wp2_with fail
      go_quiet ((go_at_call 88; exact quiet_left (right_any _ _ (by decide) _)))
      have eT : Wp (Wp (Wp (Wp H (Wx (Wx (rotr E 6) (rotr E 11)) (rotr E 25))) (Wx (Wa E F) (Wa (Wn E) G))) k) x = rt ⟨A, B, C, D, E, F, G, H⟩ k x := rfl
      rw [eT]
      have HT := Lib.hid eT
      clear eT
      obtain ⟨T, hT⟩ : ∃ T, T = rt ⟨A, B, C, D, E, F, G, H⟩ k x := ⟨_, rfl⟩
      rw [← hT]
      have HTT := Lib.hid hT
      clear hT HT
      go_wp2_with fail
      refine (right_any A _ (by decide) _).mono ?_
      rintro e w3 ⟨rfl, rfl⟩
      go_wp2_with fail
      refine (right_any A _ (by decide) _).mono ?_
      rintro e w3 ⟨rfl, rfl⟩
      go_wp2_with fail
      refine (right_any A _ (by decide) _).mono ?_
      rintro e w3 ⟨rfl, rfl⟩
      go_wp2_with fail
      go_roundw
      case rel =>
        refine ⟨i + 1, _, A, B, C, _, E, F, G, by omega, by go_num, rfl, rfl, rfl, rfl, rfl, rfl, rfl, rfl, ?_, ?_⟩
        · show rounds kk (sched b) (i + 1) _ = _
          rw [rounds, HR.out, ← HK.out, ← HX.out, HTT.out]; rfl
        · obtain ⟨nd, hnd⟩ := HD.out
          exact ⟨_, by rw [hnd, World.drewN_drewN]⟩
      case measure => simp [intOf]; omega
    · rw [show (i : Int) = 64 by omega]
      have HR2 : Hid (rounds kk (sched b) 64 ⟨a0, b0, c0, d0, e0, f0, g0, h0⟩ = ⟨A, B, C, D, E, F, G, H⟩) := by rw [show 64 = i by omega]; exact HR.out
      clear HR hlt hi hi0
      go_wp2_with fail
      have hS3 : Arr wr 97 w.heap.size (wvs sl) := by obtain ⟨nd, hnd⟩ := HD.out; rw [hnd]; exact HS2.out.drewN nd
      have hZ3 : Arr wr 97 (w.heap.size + 2) z := by obtain ⟨nd, hnd⟩ := HD.out; rw [hnd]; exact HZ2.out.drewN nd
      have hB3 : Below w.heap.size w wr := by obtain ⟨nd, hnd⟩ := HD.out; rw [hnd]; exact HB2.out.trans (Joins.below_draws _ _ _)
      have hls : sl.length = 8 := by rw [HSL.out]; rfl
      have HS3 : Hid (Arr wr 97 w.heap.size (wvs (part8 sl [A, B, C, D, E, F, G, H] 0)) ∧ Arr wr 97 (w.heap.size + 2) z ∧ Below w.heap.size w wr) := ⟨by rw [part8_zero _ _ hls]; exact hS3, hZ3, hB3⟩
      clear hS3 hZ3 hB3 hls HD HB2 HE2 HW2 HS2 HZ2
      rw [show (#[Value.int .u32 A.toNat, Value.int .u32 B.toNat, Value.int .u32 C.toNat, Value.int .u32 D.toNat, Value.int .u32 E.toNat, Value.int .u32 F.toNat, Value.int .u32 G.toNat, Value.int .u32 H.toNat] : Array Value) = (wvs [A, B, C, D, E, F, G, H]).toArray from rfl]
      obtain ⟨vl, hvl⟩ : ∃ vl, vl = [A, B, C, D, E, F, G, H] := ⟨_, rfl⟩
      rw [← hvl] at HS3 ⊢
      have HVL := Lib.hid hvl
      have HVN : Hid (vl.length = 8) := by rw [hvl]; rfl
      clear hvl
      go_loopw [110] (fun iv wr => ∃ i : Nat, i ≤ 8 ∧ iv = .int .i64 i ∧ Hid (Arr wr 97 w.heap.size (wvs (part8 sl vl i)) ∧ Arr wr 97 (w.heap.size + 2) z ∧ Below w.heap.size w wr)) (fun iv _ => 8 - (intOf iv).toNat)
      case atStart => exact ⟨0, by omega, rfl, HS3.out⟩
      case round =>
        obtain ⟨i, hi, rfl, HM⟩ := hrel
        clear HS3
        have hi0 : (0 : Int) ≤ i := by omega
        by_cases hlt : i < 8
        · have hlt1 : (i : Int) < 8 := by omega
          have HN := Lib.hid (part8_next sl vl i hlt)
          have HPL := Lib.hid (part8_length sl vl i)
          obtain ⟨c, hc, HC⟩ : ∃ c : UInt32, wr.cell? ⟨w.heap.size, i, none⟩ = some (.int .u32 c.toNat) ∧ Hid (c = (part8 sl vl i).getD i 0) := ⟨_, (HM.out.1.cell i).trans (wvs_get _ i (by rw [HPL.out]; exact hlt)), rfl⟩
          have hf := HM.out.1.free i
          have hix := ix8 vl i hlt (by rw [HVN.out]; exact hlt)
          obtain ⟨x, hx⟩ : ∃ x, x = vl.getD i 0 := ⟨_, rfl⟩
          rw [← hx] at hix
          have HX := Lib.hid hx
          have r1 := Wp_wrap
          have r2 := Wp_mod
          clear hx
          go_wp2_with fail
          go_roundw
          case rel =>
            refine ⟨i + 1, by omega, by go_num, ?_⟩
            have hn := HN.out
            rw [← HC.out, ← HX.out] at hn
            refine ⟨?_, HM.out.2.1.setCell (by show w.heap.size + 2 ≠ w.heap.size; omega) _, HM.out.2.2.setCell (Nat.le_refl _) _⟩
            rw [← hn, ← wvs_set]
            exact HM.out.1.set i _
          case measure => simp [intOf]; omega
        · rw [show (i : Int) = 8 by omega]
          have HM2 : Hid (Arr wr 97 w.heap.size (wvs (blk ⟨a0, b0, c0, d0, e0, f0, g0, h0⟩ b).list) ∧ Arr wr 97 (w.heap.size + 2) z ∧ Below w.heap.size w wr) := by
            have h := HM.out
            rw [show i = 8 by omega, HSL.out, HVL.out] at h
            rw [show (blk ⟨a0, b0, c0, d0, e0, f0, g0, h0⟩ b).list = part8 (S8.list ⟨a0, b0, c0, d0, e0, f0, g0, h0⟩) [A, B, C, D, E, F, G, H] 8 from by unfold blk; rw [HR2.out]; rfl]
            exact h
          clear HM hlt hi hi0
          obtain ⟨R, hR⟩ : ∃ R, R = (blk ⟨a0, b0, c0, d0, e0, f0, g0, h0⟩ b).list := ⟨_, rfl⟩
          have HRL : Hid (R.length = 8) := by rw [hR]; rfl
          rw [← hR] at HM2
          have HRE := Lib.hid hR
          clear hR
          have hM := HM2.out.1
          have hZ := HM2.out.2.1
          go_wp2_with (first
            | ((with_reducible refine load8w (x := .tmp 2) (o := ⟨some 121, _, _, _, _, _⟩) hM HRL.out ?_ ?_); exact ⟨rfl, rfl, rfl⟩)
            | ((with_reducible refine store8w (x := .tmp 4) (y := .tmp 121) (l := R) (o := ⟨none, .store _ _ _, _, _, _, _⟩) hZ HZL.out HRL.out ?_ ?_); exact ⟨rfl, rfl, rfl, rfl⟩))
          exact bodyPost_ret (res8w rfl (hZ.row _) HRL.out rfl) rfl ⟨by rw [HRE.out], below_row HM2.out.2.2 (by omega) _⟩
end Go.Proofs.YtlngicddojoogaaGreatDoor
