/-
  The reference's Block.
-/
import Derived.Test.YtomoopadeknfbaaDoorShaD
import Derived.Test.YtomoopadeknfbaaDoorShaN
import Derived.LoopN
import Derived.Test.YtomoopadeknfbaaDoorShaS
namespace Go.Proofs.YtomoopadeknfbaaDoor
open Go.ChangeShapes Go.WideShapes Go.ChangeAt Go.RowKit
set_option linter.unusedVariables false

theorem rot_still (x : UInt32) (k : Int) (hk : k ∈ turns) (w : World) :
    Calls Tryd.prog 31 #[.int .u32 x.toNat, .int .u64 k] w fun e w' => e = .returned (.int .u32 (rotr x k.toNat).toNat) ∧ w' = w :=
  (rot_any x k hk w).mono fun e w' ⟨h1, h2⟩ => ⟨h1, h2.symm⟩
theorem mulmod (c : UInt32) (x : UInt8) : ((c.toNat : Int) * 256 + (x.toNat : Int)) % 4294967296 = ((c * 256 + x.toUInt32).toNat : Int) := by
  have hx : x.toNat < 256 := x.toNat_lt
  rw [UInt32.toNat_add, UInt32.toNat_mul, UInt8.toNat_toUInt32]
  simp
/-- What the reference's Block keeps: the words under way in g4, the bytes in g1, the table in g2, the state in g0, a place for the result in g3. -/
structure Rb (w wr : World) (sl KK : List UInt32) (b : List UInt8) (z : List Value) (l : List UInt32) : Prop where
  s : Arr wr 47 w.heap.size (wvs sl)
  b : Arr wr 40 (w.heap.size + 1) (bvs b)
  t : Arr wr 53 (w.heap.size + 2) (wvs KK)
  z : Arr wr 47 (w.heap.size + 3) z
  m : Arr wr 53 (w.heap.size + 4) (wvs l)
  below : Below w.heap.size w wr
theorem Rb.later {w wr w' : World} {sl KK : List UInt32} {b : List UInt8} {z : List Value} {l : List UInt32} (h : Rb w wr sl KK b z l) (hb : Below wr.heap.size wr w') : Rb w w' sl KK b z l :=
  ⟨h.s.later hb, h.b.later hb, h.t.later hb, h.z.later hb, h.m.later hb, h.below.trans (hb.mono h.below.size)⟩
theorem Rb.set {w wr : World} {sl KK : List UInt32} {b : List UInt8} {z : List Value} {l m : List UInt32} (h : Rb w wr sl KK b z l) (i : Nat) (x : UInt32) (hm : l.set i x = m) : Rb w (wr.setCell ⟨w.heap.size + 4, i, none⟩ (.int .u32 x.toNat)) sl KK b z m := by
  subst hm
  refine ⟨h.s.setCell (by show w.heap.size ≠ w.heap.size + 4; omega) _, h.b.setCell (by show w.heap.size + 1 ≠ w.heap.size + 4; omega) _, h.t.setCell (by show w.heap.size + 2 ≠ w.heap.size + 4; omega) _, h.z.setCell (by show w.heap.size + 3 ≠ w.heap.size + 4; omega) _, ?_, h.below.setCell (by show w.heap.size ≤ w.heap.size + 4; omega) _⟩
  rw [← wvs_set]; exact h.m.set i _
theorem Rb.other {w wr : World} {sl KK : List UInt32} {b : List UInt8} {z : List Value} {l : List UInt32} (h : Rb w wr sl KK b z l) {G : Nat} (hG : w.heap.size + 4 < G) (i : Nat) (v : Value) : Rb w (wr.setCell ⟨G, i, none⟩ v) sl KK b z l :=
  ⟨h.s.setCell (by show w.heap.size ≠ G; omega) _, h.b.setCell (by show w.heap.size + 1 ≠ G; omega) _, h.t.setCell (by show w.heap.size + 2 ≠ G; omega) _, h.z.setCell (by show w.heap.size + 3 ≠ G; omega) _, h.m.setCell (by show w.heap.size + 4 ≠ G; omega) _, h.below.setCell (by show w.heap.size ≤ G; omega) _⟩
theorem add_comm8 (s t : S8) : s.add t = t.add s := by
  unfold S8.add
  simp only [UInt32.add_comm]
theorem Rb.drewN {w wr : World} {sl KK : List UInt32} {b : List UInt8} {z : List Value} {l : List UInt32} (h : Rb w wr sl KK b z l) (n : Nat) : Rb w (wr.drewN n) sl KK b z l :=
  h.later (Joins.below_draws _ _ _)

set_option maxRecDepth 100000 in
set_option maxHeartbeats 4000000 in
theorem rblock_any (s : S8) (b : List UInt8) (hb : b.length = 64) (w : World) :
    Calls Tryd.prog 29 #[.agg (wvs s.list).toArray, .agg (bvs b).toArray, .agg (wvs kk).toArray] w fun e w' => e = .returned (.agg (wvs (blk s b).list).toArray) ∧ Below w.heap.size w w' := by
  have HB := Lib.hid hb
  clear hb
  obtain ⟨sl, hsl⟩ : ∃ sl, sl = s.list := ⟨_, rfl⟩
  rw [← hsl]
  have HSL := Lib.hid hsl
  have HSN : Hid (sl.length = 8) := by rw [hsl]; rfl
  clear hsl
  obtain ⟨KK, hKK⟩ : ∃ KK, KK = kk := ⟨_, rfl⟩
  rw [← hKK]
  have HKN : Hid (KK.length = 64) := by rw [hKK]; rfl
  have HKK := Lib.hid hKK
  clear hKK
  have HST : Hid (∀ z y : Array Value, y.toList = wvs (List.replicate 64 0) → Rb w (((((w.alloc (.cells (wvs sl).toArray 47)).alloc (.cells (bvs b).toArray 40)).alloc (.cells (wvs KK).toArray 53)).alloc (.cells z 47)).alloc (.cells y 53)) sl KK b z.toList (List.replicate 64 0)) := by
    intro z y hy
    have e3 := Arr.new' (((w.alloc (.cells (wvs sl).toArray 47)).alloc (.cells (bvs b).toArray 40)).alloc (.cells (wvs KK).toArray 53)) 47 z z.toList rfl
    have e4 := Arr.new' ((((w.alloc (.cells (wvs sl).toArray 47)).alloc (.cells (bvs b).toArray 40)).alloc (.cells (wvs KK).toArray 53)).alloc (.cells z 47)) 53 y _ hy
    rw [show (((w.alloc (.cells (wvs sl).toArray 47)).alloc (.cells (bvs b).toArray 40)).alloc (.cells (wvs KK).toArray 53)).heap.size = w.heap.size + 3 by simp] at e3
    rw [show ((((w.alloc (.cells (wvs sl).toArray 47)).alloc (.cells (bvs b).toArray 40)).alloc (.cells (wvs KK).toArray 53)).alloc (.cells z 47)).heap.size = w.heap.size + 4 by simp] at e4
    exact ⟨((((Arr.new' w _ _ (wvs sl) (by simp)).alloc _).alloc _).alloc _).alloc _, (((Arr.new2 w _ _ _ (bvs b) (by simp)).alloc _).alloc _).alloc _, ((Arr.new3 w _ _ _ _ (wvs KK) (by simp)).alloc _).alloc _, e3.alloc _, e4,
      (((((Below.refl _ _).alloc (Nat.le_refl _) _).alloc (by simp) _).alloc (by simp; omega) _).alloc (by simp; omega) _).alloc (by simp; omega) _⟩
  go_enter Tryd.func29, Tryd.ntmps29
  go_wp2_with fail
  go_loopw [8] (fun iv wr => ∃ (i : Nat) (z : List Value), i ≤ 16 ∧ iv = .int .i64 i ∧ z.length = 8 ∧ Hid (Rb w wr sl KK b z (mid b (4 * i)))) (fun iv _ => 16 - (intOf iv).toNat)
  case atStart => exact ⟨0, _, by omega, rfl, rfl, by rw [Nat.mul_zero, mid_zero]; exact HST.out _ _ rfl⟩
  case round =>
    obtain ⟨i, z, hi, rfl, hz, HM⟩ := hrel
    clear HST
    have HZ := Lib.hid hz
    clear hz
    have hi0 : (0 : Int) ≤ i := by omega
    by_cases hlt : i < 16
    · have hlt1 : (i : Int) < 16 := by omega
      obtain ⟨wo, hwo⟩ : ∃ wo, wo = wr := ⟨_, rfl⟩
      subst hwo
      go_wp2_with fail
      go_loopw [9] (fun kv wr => ∃ k : Nat, k ≤ 4 ∧ kv = .int .i64 k ∧ Hid (Rb w wr sl KK b z (mid b (4 * i + k)))) (fun kv _ => 4 - (intOf kv).toNat)
      case atStart => exact ⟨0, by omega, rfl, HM.out⟩
      case round =>
        obtain ⟨k, hk, rfl, HK⟩ := hrel
        clear HM
        have hk0 : (0 : Int) ≤ k := by omega
        by_cases hlk : k < 4
        · have hlk1 : (k : Int) < 4 := by omega
          have HN := Lib.hid (mid_next b (4 * i + k) (by omega))
          rw [show (4 * i + k) / 4 = i by omega] at HN
          obtain ⟨c, hc, HC⟩ : ∃ c : UInt32, wr.cell? ⟨w.heap.size + 4, i, none⟩ = some (.int .u32 c.toNat) ∧ Hid (c = (mid b (4 * i + k)).getD i 0) := ⟨_, (HK.out.m.cell i).trans (wvs_get _ i (by rw [mid_length]; omega)), rfl⟩
          have hf := HK.out.m.free i
          obtain ⟨x, hx, HX⟩ : ∃ x : UInt8, wr.cell? ⟨w.heap.size + 1, 4 * i + k, none⟩ = some (.int .u8 x.toNat) ∧ Hid (x = b.getD (4 * i + k) 0) := ⟨_, (HK.out.b.cell (4 * i + k)).trans (bvs_getElem b _ (by rw [HB.out]; omega)), rfl⟩
          have g1 : IntKind.i64.wrap (4 * (i : Int)) = 4 * (i : Int) := IntWalk.i64_in _ (by omega)
          have g2 : IntKind.i64.wrap (4 * (i : Int) + k) = 4 * (i : Int) + k := IntWalk.i64_in _ (by omega)
          have g3 : (0 : Int) ≤ 4 * (i : Int) + k := by omega
          have g4 : 4 * (i : Int) + k < 64 := by omega
          have g5 : (4 * (i : Int) + k).toNat = 4 * i + k := by omega
          have g6 : (i : Int) < 64 := by omega
          go_wp2_with fail
          refine region_tail 13 (by kernel_rfl) (by kernel_rfl) ?_
          simp only [List.take_succ_cons, List.take_zero, List.drop_succ_cons, List.drop_zero]
          repeat still_step
          refine wpStill_nil ?_
          go_wp2_with fail
          go_roundw
          case rel =>
            refine ⟨k + 1, by omega, by go_num, ?_⟩
            have hn := HN.out
            rw [← HC.out, ← HX.out] at hn
            rw [mulmod]
            exact (HK.out.set i _ hn).drewN 1
          case measure => simp [intOf]; omega
        · rw [show (k : Int) = 4 by omega]
          have HK2 : Hid (Rb w wr sl KK b z (mid b (4 * (i + 1)))) := by
            rw [show 4 * (i + 1) = 4 * i + k by omega]; exact HK.out
          clear HK hlk hk hk0
          go_wp2_with fail
          go_roundw
          case rel => exact ⟨i + 1, z, by omega, by go_num, HZ.out, HK2.out⟩
          case measure => simp [intOf]; omega
    · rw [show (i : Int) = 16 by omega]
      have HM2 : Hid (Rb w wr sl KK b z (ext64 b 16)) := by
        rw [← mid_done, show 64 = 4 * i by omega]; exact HM.out
      clear HM hlt hi hi0
      go_wp2_with fail
      go_loopw [10] (fun iv wr => ∃ i : Nat, 16 ≤ i ∧ i ≤ 64 ∧ iv = .int .i64 i ∧ Hid (Rb w wr sl KK b z (ext64 b i))) (fun iv _ => 64 - (intOf iv).toNat)
      case atStart => exact ⟨16, by omega, by omega, rfl, HM2.out⟩
      case round =>
        obtain ⟨i, h16, hi, rfl, HM⟩ := hrel
        clear HM2
        have hi0 : (16 : Int) ≤ i := by omega
        by_cases hlt : i < 64
        · have hlt1 : (i : Int) < 64 := by omega
          have HN := Lib.hid (ext64_next b i h16 hlt)
          obtain ⟨L, hL⟩ : ∃ L, L = ext64 b i := ⟨_, rfl⟩
          rw [← hL] at HM HN
          have HL : Hid (L.length = 64) := by rw [hL]; exact ext64_length b i h16 hi
          clear hL
          obtain ⟨x15, c15, E15⟩ : ∃ c : UInt32, wr.cell? ⟨w.heap.size + 4, i - 15, none⟩ = some (.int .u32 c.toNat) ∧ Hid (c = L.getD (i - 15) 0) := ⟨_, (HM.out.m.cell _).trans (wvs_get _ _ (by rw [HL.out]; omega)), rfl⟩
          obtain ⟨x2, c2, E2⟩ : ∃ c : UInt32, wr.cell? ⟨w.heap.size + 4, i - 2, none⟩ = some (.int .u32 c.toNat) ∧ Hid (c = L.getD (i - 2) 0) := ⟨_, (HM.out.m.cell _).trans (wvs_get _ _ (by rw [HL.out]; omega)), rfl⟩
          obtain ⟨x16, c16, E16⟩ : ∃ c : UInt32, wr.cell? ⟨w.heap.size + 4, i - 16, none⟩ = some (.int .u32 c.toNat) ∧ Hid (c = L.getD (i - 16) 0) := ⟨_, (HM.out.m.cell _).trans (wvs_get _ _ (by rw [HL.out]; omega)), rfl⟩
          obtain ⟨x7, c7, E7⟩ : ∃ c : UInt32, wr.cell? ⟨w.heap.size + 4, i - 7, none⟩ = some (.int .u32 c.toNat) ∧ Hid (c = L.getD (i - 7) 0) := ⟨_, (HM.out.m.cell _).trans (wvs_get _ _ (by rw [HL.out]; omega)), rfl⟩
          have hf := HM.out.m.free i
          have hcell := (HM.out.m.cell i).trans (wvs_get _ i (by rw [HL.out]; omega))
          have t15 : ((i : Int) - 15).toNat = i - 15 := by omega
          have t2 : ((i : Int) - 2).toNat = i - 2 := by omega
          have t16 : ((i : Int) - 16).toNat = i - 16 := by omega
          have t7 : ((i : Int) - 7).toNat = i - 7 := by omega
          have hs0 : bits .xor .u32 (bits .xor .u32 ((rotr x15 7).toNat : Int) ((rotr x15 18).toNat : Int)) ((x15.toNat : Int) / 8) = ((sg0 x15).toNat : Int) := sg0_val x15
          have hs1 : bits .xor .u32 (bits .xor .u32 ((rotr x2 17).toNat : Int) ((rotr x2 19).toNat : Int)) ((x2.toNat : Int) / 1024) = ((sg1 x2).toNat : Int) := sg1_val x2
          have g16 : IntKind.i64.wrap ((i : Int) - 16) = (i : Int) - 16 := IntWalk.i64_in _ (by omega)
          have g7 : IntKind.i64.wrap ((i : Int) - 7) = (i : Int) - 7 := IntWalk.i64_in _ (by omega)
          have k7 : (7 : Int) ≤ i := by omega
          have k15 : (15 : Int) ≤ i := by omega
          have k2 : (2 : Int) ≤ i := by omega
          have z16 : (0 : Int) ≤ (i : Int) - 16 := by omega
          have z7 : (0 : Int) ≤ (i : Int) - 7 := by omega
          have y16 : (i : Int) - 16 < 64 := by omega
          have y7 : (i : Int) - 7 < 64 := by omega
          have y15 : (i : Int) - 15 < 64 := by omega
          have y2 : (i : Int) - 2 < 64 := by omega
          go_wp2_with fail
          refine region_tail 28 (by kernel_rfl) (by kernel_rfl) ?_
          simp only [List.take_succ_cons, List.take_zero, List.drop_succ_cons, List.drop_zero]
          repeat first | still_step | still_call (rot_still _ _ (by decide) _)
          refine wpStill_nil ?_
          go_wp2_with fail
          go_roundw
          case rel =>
            have hn := HN.out
            rw [← E16.out, ← E15.out, ← E7.out, ← E2.out] at hn
            refine ⟨i + 1, by omega, by omega, by go_num, ?_⟩
            rw [sum4]
            exact (HM.out.set i _ hn).drewN 1
          case measure => simp [intOf]; omega
        · rw [show (i : Int) = 64 by omega]
          have HM2 : Hid (Rb w wr sl KK b z (sched b)) := by rw [← ext64_done, show 64 = i by omega]; exact HM.out
          have HSC := Lib.hid (sched_length b)
          clear HM hlt hi hi0 h16
          have hS := HM2.out.s
          obtain ⟨G, hG⟩ : ∃ G, G = wr.heap.size := ⟨_, rfl⟩
          have HG : Hid (w.heap.size + 4 < G) := by rw [hG]; exact HM2.out.m.lt
          go_wp2_with (first
            | ((with_reducible refine load8w (x := .tmp 3) (o := ⟨some 82, _, _, _, _, _⟩) hS HSN.out ?_ ?_); exact ⟨rfl, rfl, rfl⟩)
            | ((with_reducible refine at8w wr.heap.size (x := .tmp 13) (y := .tmp 82) (l := sl) (o := ⟨none, .store _ _ _, _, _, _, _⟩) HSN.out ?_ ?_); exact ⟨rfl, rfl, rfl, rfl, rfl, rfl⟩))
          have HM5 := Lib.hid (HM2.out.later ((Below.refl wr.heap.size wr).alloc (Nat.le_refl _) (.cells (wvs sl).toArray 47)))
          have HV5 : Hid (Arr (wr.alloc (.cells (wvs sl).toArray 47)) 47 G (wvs sl)) := by rw [hG]; exact Arr.new' wr _ _ _ (by simp)
          generalize wr.alloc (.cells (wvs sl).toArray 47) = w5 at HM5 HV5 ⊢
          rw [← hG]
          clear hS HM2 hG
          obtain ⟨a0, b0, c0, d0, e0, f0, g0, h0⟩ := s
          rw [HSL.out] at HV5
          go_loopw [14] (fun iv wr => ∃ (i : Nat) (A B C D E F g' H : UInt32), i ≤ 64 ∧ iv = .int .i64 i ∧ Hid (rounds KK (sched b) i ⟨a0, b0, c0, d0, e0, f0, g0, h0⟩ = ⟨A, B, C, D, E, F, g', H⟩) ∧ Hid (Rb w wr sl KK b z (sched b)) ∧ Hid (Arr wr 47 G (wvs (S8.list ⟨A, B, C, D, E, F, g', H⟩)))) (fun iv _ => 64 - (intOf iv).toNat)
          case atStart => exact ⟨0, a0, b0, c0, d0, e0, f0, g0, h0, by omega, rfl, rfl, HM5.out, HV5.out⟩
          case round =>
            obtain ⟨i, A, B, C, D, E, F, H', H, hi, rfl, HR, HM, HV⟩ := hrel
            clear HM5 HV5
            have hi0 : (0 : Int) ≤ i := by omega
            by_cases hlt : i < 64
            · have hlt1 : (i : Int) < 64 := by omega
              obtain ⟨x, hx⟩ : ∃ x, x = (sched b).getD i 0 := ⟨_, rfl⟩
              obtain ⟨k, hk⟩ : ∃ k, k = KK.getD i 0 := ⟨_, rfl⟩
              have cx : wr.cell? ⟨w.heap.size + 4, i, none⟩ = some (.int .u32 x.toNat) := by rw [hx]; exact (HM.out.m.cell i).trans (wvs_get _ i (by rw [HSC.out]; exact hlt))
              have ck : wr.cell? ⟨w.heap.size + 2, i, none⟩ = some (.int .u32 k.toNat) := by rw [hk]; exact (HM.out.t.cell i).trans (wvs_get _ i (by rw [HKN.out]; exact hlt))
              have HX := Lib.hid hx
              have HK := Lib.hid hk
              obtain ⟨⟨q0, q1, q2, q3, q4, q5, q6, q7⟩, _⟩ := cells8 HV.out
              have r1 := Wp_wrap
              have r2 := Wp_mod
              have r3 := Wx_val
              have r4 := Wa_val
              have r5 := Wn_val
              have r6 := Wn_val'
              clear hx hk
              go_wp2_with fail
              go_quiet ((go_at_call 31; exact quiet_left (rot_any _ _ (by decide) _)))
              have eT : Wp (Wp (Wp (Wp H (Wx (Wx (rotr E 6) (rotr E 11)) (rotr E 25))) (Wx (Wa E F) (Wa (Wn E) H'))) k) x = rt ⟨A, B, C, D, E, F, H', H⟩ k x := rfl
              rw [eT]
              clear eT
              obtain ⟨T, hT⟩ : ∃ T, T = rt ⟨A, B, C, D, E, F, H', H⟩ k x := ⟨_, rfl⟩
              rw [← hT]
              have HTT := Lib.hid hT
              clear hT
              have HM6 := Lib.hid (HM.out.drewN nq)
              have HV6 := Lib.hid (HV.out.drewN nq)
              clear q0 q1 q2 q3 q4 q5 q6 q7 cx ck HM HV
              generalize wr.drewN nq = w6 at HM6 HV6 ⊢
              obtain ⟨⟨q0, q1, q2, q3, q4, q5, q6, q7⟩, _⟩ := cells8 HV6.out
              go_wp2_with fail
              go_quiet ((go_at_call 31; exact quiet_left (rot_any _ _ (by decide) _)))
              have eU : Wp (Wx (Wx (rotr A 2) (rotr A 13)) (rotr A 22)) (Wx (Wx (Wa A B) (Wa A C)) (Wa B C)) = ru ⟨A, B, C, D, E, F, H', H⟩ := rfl
              rw [eU]
              clear eU
              obtain ⟨U, hU⟩ : ∃ U, U = ru ⟨A, B, C, D, E, F, H', H⟩ := ⟨_, rfl⟩
              rw [← hU]
              have HUU := Lib.hid hU
              clear hU
              have HM7 := Lib.hid (HM6.out.drewN nq)
              have HV7 := Lib.hid (HV6.out.drewN nq)
              clear q0 q1 q2 q3 q4 q5 q6 q7 HM6 HV6
              generalize w6.drewN nq = w7 at HM7 HV7 ⊢
              obtain ⟨⟨q0, q1, q2, q3, q4, q5, q6, q7⟩, ⟨z0, z1, z2, z3, z4, z5, z6, z7⟩⟩ := cells8 HV7.out
              go_wp2_with fail
              refine wp_loop_rounds 8 ?_
              rw [rounds_succ]
              go_wp2_with fail
              rw [rounds_succ]
              go_wp2_with fail
              rw [rounds_succ]
              go_wp2_with fail
              rw [rounds_succ]
              go_wp2_with fail
              rw [rounds_succ]
              go_wp2_with fail
              rw [rounds_succ]
              go_wp2_with fail
              rw [rounds_succ]
              go_wp2_with fail
              rw [rounds_succ]
              go_wp2_with fail
              go_roundw
              case rel =>
                refine ⟨i + 1, Wp T U, A, B, C, Wp D T, E, F, H', by omega, by go_num, ?_, ?_, ?_⟩
                · show rounds KK (sched b) (i + 1) _ = _
                  rw [rounds, HR.out, ← HK.out, ← HX.out, HTT.out, HUU.out]; rfl
                · show Rb _ _ _ _ _ _ _
                  repeat (first | (with_reducible exact HM7.out) | refine Rb.other ?_ HG.out _ _)
                · have h9 := ((((((((HV7.out.set 7 (.int .u32 H'.toNat)).set 6 (.int .u32 F.toNat)).set 5 (.int .u32 E.toNat)).set 4 (.int .u32 D.toNat)).set 3 (.int .u32 C.toNat)).set 2 (.int .u32 B.toNat)).set 1 (.int .u32 A.toNat)).set 4 (.int .u32 (Wp D T).toNat)).set 0 (.int .u32 (Wp T U).toNat)
                  exact h9
              case measure => simp [intOf]; omega
            · rw [show (i : Int) = 64 by omega]
              have HR2 : Hid (rounds KK (sched b) 64 ⟨a0, b0, c0, d0, e0, f0, g0, h0⟩ = ⟨A, B, C, D, E, F, H', H⟩) := by rw [show 64 = i by omega]; exact HR.out
              clear HR hlt hi hi0
              obtain ⟨V, hV⟩ : ∃ V, V = S8.list ⟨A, B, C, D, E, F, H', H⟩ := ⟨_, rfl⟩
              rw [← hV] at HV
              have HVN : Hid (V.length = 8) := by rw [hV]; rfl
              have HVE := Lib.hid hV
              clear hV
              have HV0 : Hid (Arr wr 47 G (wvs (part8 V sl 0))) := by rw [part8_zero _ _ HVN.out]; exact HV.out
              clear HV
              go_wp2_with fail
              go_loopw [18] (fun iv wr => ∃ i : Nat, i ≤ 8 ∧ iv = .int .i64 i ∧ Hid (Rb w wr sl KK b z (sched b)) ∧ Hid (Arr wr 47 G (wvs (part8 V sl i)))) (fun iv _ => 8 - (intOf iv).toNat)
              case atStart => exact ⟨0, by omega, rfl, HM.out, HV0.out⟩
              case round =>
                obtain ⟨i, hi, rfl, HM, HV⟩ := hrel
                clear HV0
                have hi0 : (0 : Int) ≤ i := by omega
                by_cases hlt : i < 8
                · have hlt1 : (i : Int) < 8 := by omega
                  have HN := Lib.hid (part8_next V sl i hlt)
                  have HPL := Lib.hid (part8_length V sl i)
                  obtain ⟨c, hc, HC⟩ : ∃ c : UInt32, wr.cell? ⟨G, i, none⟩ = some (.int .u32 c.toNat) ∧ Hid (c = (part8 V sl i).getD i 0) := ⟨_, (HV.out.cell i).trans (wvs_get _ i (by rw [HPL.out]; exact hlt)), rfl⟩
                  obtain ⟨x, hx, HX⟩ : ∃ c : UInt32, wr.cell? ⟨w.heap.size, i, none⟩ = some (.int .u32 c.toNat) ∧ Hid (c = sl.getD i 0) := ⟨_, (HM.out.s.cell i).trans (wvs_get _ i (by rw [HSN.out]; exact hlt)), rfl⟩
                  have hf := HV.out.free i
                  have r1 := Wp_wrap
                  have r2 := Wp_mod
                  go_wp2_with fail
                  refine region_tail 8 (by kernel_rfl) (by kernel_rfl) ?_
                  simp only [List.take_succ_cons, List.take_zero, List.drop_succ_cons, List.drop_zero]
                  repeat still_step
                  refine wpStill_nil ?_
                  go_wp2_with fail
                  go_roundw
                  case rel =>
                    have hn := HN.out
                    rw [← HC.out, ← HX.out] at hn
                    refine ⟨i + 1, by omega, by go_num, (HM.out.other HG.out i _).drewN 1, ?_⟩
                    rw [← hn, ← wvs_set]
                    exact (HV.out.set i _).drewN 1
                  case measure => simp [intOf]; omega
                · rw [show (i : Int) = 8 by omega]
                  obtain ⟨R, hR⟩ : ∃ R, R = (blk ⟨a0, b0, c0, d0, e0, f0, g0, h0⟩ b).list := ⟨_, rfl⟩
                  have hM : Arr wr 47 G (wvs R) := by
                    have h := HV.out
                    rw [show i = 8 by omega, HVE.out, HSL.out, part8_done, add_comm8] at h
                    rw [hR]
                    unfold blk
                    rw [← HKK.out, HR2.out]
                    exact h
                  have HRN : Hid (R.length = 8) := by rw [hR]; rfl
                  have HRE := Lib.hid hR
                  have hZ := HM.out.z
                  have HBL := Lib.hid HM.out.below
                  clear hR HV HM hlt hi hi0
                  go_wp2_with (first
                    | ((with_reducible refine load8w (x := .tmp 13) (o := ⟨some 183, _, _, _, _, _⟩) hM HRN.out ?_ ?_); exact ⟨rfl, rfl, rfl⟩)
                    | ((with_reducible refine store8w (g := w.heap.size + 3) (x := .tmp 6) (y := .tmp 183) (l := R) (o := ⟨none, .store _ _ _, _, _, _, _⟩) hZ HZ.out HRN.out ?_ ?_); exact ⟨rfl, rfl, rfl, rfl⟩))
                  exact bodyPost_ret (res8w rfl (hZ.row _) HRN.out rfl) rfl ⟨by rw [HRE.out], below_row HBL.out (by omega) _⟩
end Go.Proofs.YtomoopadeknfbaaDoor
