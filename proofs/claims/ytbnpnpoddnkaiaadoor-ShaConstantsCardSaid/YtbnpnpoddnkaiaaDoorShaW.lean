/-
  vestrylaw06.awake.
-/
import Derived.Test.YtbnpnpoddnkaiaaDoorShaS
namespace Go.Proofs.YtbnpnpoddnkaiaaDoor
open Go.ChangeShapes Go.WideShapes Go.ChangeAt Go.RowKit
set_option linter.unusedVariables false

theorem dg0 : (digest []).getD 0 0 = 227 ∧ (digest []).getD 1 0 = 176 ∧ (digest []).getD 2 0 = 196 ∧ (digest []).getD 31 0 = 85 := by decide +kernel
theorem dg1 : (digest [97, 98, 99]).getD 0 0 = 186 ∧ (digest [97, 98, 99]).getD 1 0 = 120 ∧ (digest [97, 98, 99]).getD 2 0 = 22 ∧ (digest [97, 98, 99]).getD 31 0 = 173 := by decide +kernel
theorem kk0 : ((kk.getD 0 0).toNat : Int) = 1116352408 := by decide +kernel
theorem digest_length (l : List UInt8) : (digest l).length = 32 := joinS_length _
theorem pad0_len : (padding 0).length = 64 := by decide +kernel
/-- One slice in a fresh array reads as one part. -/
theorem rd_one {B : Nat} {w : World} {t : TypeId} {v0 : Value} {l0 : List UInt8} (h0 : Rd B w v0 l0) (hB : B ≤ w.heap.size) :
    RdAll (w.heap.size + 1) (w.alloc (.cells #[v0] t)) (some ⟨w.heap.size, 0, none⟩) [l0] := by
  intro _
  have hb : Below w.heap.size w (w.alloc (.cells #[v0] t)) := (Below.refl _ _).alloc (Nat.le_refl _) _
  refine ⟨w.heap.size, 0, rfl, by omega, fun i hi => ?_⟩
  obtain rfl : i = 0 := by simpa using hi
  refine ⟨v0, ?_, (h0.below hb hB).mono (by omega)⟩
  rw [cell_of_row _ _ _ #[v0] t (0, 0) (heap_alloc_new w _)]; rfl
theorem rd_mark (w : World) (l : List UInt8) (cs : Array Value) (fr : Nat × Nat) (hcs : cs.toList = bvs l) (n : Nat) (hn : n = l.length) (hm : l.length ≤ maxLen) : Rd (w.heap.size + 1) (w.alloc (.cells cs 5 fr)) (.slice (some ⟨w.heap.size, 0, none⟩) n n) l := by
  subst hn
  refine .inr ⟨_, 0, _, rfl, Nat.le_refl _, hm, by omega, fun i hi => ?_⟩
  rw [Nat.zero_add, cell_of_row _ _ i cs 5 fr (heap_alloc_new w _)]
  rw [← Array.getElem?_toList, hcs]
  exact bvs_getElem l i hi
theorem dcell {w : World} {t : TypeId} {g : Nat} {l : List UInt8} (h : Arr w t g (bvs l)) (i : Nat) (hi : i < l.length) (n : Nat) (hn : (l.getD i 0).toNat = n) : w.cell? ⟨g, i, none⟩ = some (.int .u8 n) := by
  rw [h.cell i, bvs_getElem l i hi]
  unfold bv; rw [hn]

set_option maxRecDepth 100000 in
set_option maxHeartbeats 4000000 in
theorem shawake_any (w : World) (he : Env w) : Calls Tryd.prog 8 #[] w fun e w' => e = .returned (.bool true) ∧ Below w.heap.size w w' := by
  have HE := Lib.hid he
  have HS0 : Hid (Calls Tryd.prog 10 #[.slice none 0 0] w fun e w' => e = .returned (.agg (bvs (digest [])).toArray) ∧ Below w.heap.size w w') :=
    sum_any (B := w.heap.size) (ls := []) (oa := none) (cap := 0) (fun h => absurd h (by simp)) (Nat.le_refl _) (by simp) (by simp [total]) he
  clear he
  obtain ⟨D0, hD0⟩ : ∃ D0, D0 = digest [] := ⟨_, rfl⟩
  rw [← hD0] at HS0
  have HN0 : Hid (D0.length = 32) := by rw [hD0]; exact digest_length _
  have HD0 := Lib.hid hD0
  obtain ⟨D1, hD1⟩ : ∃ D1, D1 = digest [97, 98, 99] := ⟨_, rfl⟩
  have HN1 : Hid (D1.length = 32) := by rw [hD1]; exact digest_length _
  have HD1 := Lib.hid hD1
  clear hD0 hD1
  go_enter Tryd.func8, Tryd.ntmps8
  go_wp2_with fail
  refine HS0.out.mono ?_
  rintro e w1 ⟨rfl, b1⟩
  have HB1 := Lib.hid b1
  clear b1 HS0
  have h2 : Below w1.heap.size w1 (w1.alloc (.cells (bvs D0).toArray 26)) := (Below.refl _ _).alloc (Nat.le_refl _) _
  have HB2 := Lib.hid (HB1.out.trans (h2.mono HB1.out.size))
  have HA2 := Lib.hid (Arr.new' w1 26 (bvs D0).toArray (bvs D0) (by simp))
  clear h2
  have hcv := Joins.run_convert_bytes_const_at (P := Tryd.prog) (w1.alloc (.cells (bvs D0).toArray 26)) 24 5 #[.int .u8 97, .int .u8 98, .int .u8 99] 3 3 (w1.heap.size + 1) (by simp) Tryd.underlying24 Tryd.underlying5
  have hsz : (w1.alloc (.cells (bvs D0).toArray 26)).heap.size = w1.heap.size + 1 := by simp
  go_wp2_with ((with_reducible refine at32b w1.heap.size (x := .tmp 1) (y := .tmp 7) (l := D0) (o := ⟨none, .store _ _ _, _, _, _, _⟩) HN0.out ?_ ?_); exact ⟨rfl, rfl, rfl, rfl, rfl, rfl⟩)
  generalize w1.alloc (.cells (bvs D0).toArray 26) = w2 at HB2 HA2 hsz ⊢
  rw [← hsz]
  have HSZ := Lib.hid hsz
  clear hsz hcv
  have h3 : Below w2.heap.size w2 ((w2.alloc (.cells #[.int .u8 97, .int .u8 98, .int .u8 99] 5 (3, 4))).alloc (.cells #[.slice (some ⟨w2.heap.size, 0, none⟩) 3 3] 24)) := ((Below.refl _ _).alloc (Nat.le_refl _) _).alloc (by simp) _
  have hs3 : (w2.alloc (.cells #[.int .u8 97, .int .u8 98, .int .u8 99] 5 (3, 4))).heap.size = w2.heap.size + 1 := by simp
  have hr3 := rd_one (t := 24) (rd_mark w2 [97, 98, 99] #[.int .u8 97, .int .u8 98, .int .u8 99] (3, 4) rfl 3 rfl (by decide)) (by rw [hs3]; exact Nat.le_refl _)
  rw [hs3] at hr3
  have HE3 := Lib.hid (HE.out.below (HB2.out.trans (h3.mono HB2.out.size)))
  have HSM := Lib.hid (sum_any (cap := 1) hr3 (by simp) (by simp) (by simp [total]) HE3.out)
  rw [show [[97, 98, 99]].flatten = ([97, 98, 99] : List UInt8) from rfl, ← HD1.out] at HSM
  have HB3 := Lib.hid (HB2.out.trans (h3.mono HB2.out.size))
  have HA3 := Lib.hid (HA2.out.later h3)
  clear h3 hs3 hr3
  refine HSM.out.mono ?_
  rintro e w4 ⟨rfl, b4⟩
  have HB4 := Lib.hid (HB3.out.trans (b4.mono HB3.out.size))
  have HA4 := Lib.hid (HA3.out.later b4)
  clear b4 HSM HA3 HB3 HA2 HB2
  have h5 : Below w4.heap.size w4 (w4.alloc (.cells (bvs D1).toArray 26)) := (Below.refl _ _).alloc (Nat.le_refl _) _
  have HB5 := Lib.hid (HB4.out.trans (h5.mono HB4.out.size))
  have HA5 := Lib.hid (HA4.out.later h5)
  have HC5 := Lib.hid (Arr.new' w4 26 (bvs D1).toArray (bvs D1) (by simp))
  clear h5 HA4 HB4
  go_wp2_with ((with_reducible refine at32b w4.heap.size (x := .tmp 2) (y := .tmp 11) (l := D1) (o := ⟨none, .store _ _ _, _, _, _, _⟩) HN1.out ?_ ?_); exact ⟨rfl, rfl, rfl, rfl, rfl, rfl⟩)
  generalize w4.alloc (.cells (bvs D1).toArray 26) = w5 at HB5 HA5 HC5 ⊢
  have HE5 := Lib.hid (HE.out.below HB5.out)
  refine (const_any 0 (by omega) _ HE5.out).mono ?_
  rintro e w6 ⟨rfl, rfl⟩
  rw [kk0]
  go_wp2_with fail
  refine (const_out 64 (.inr (by omega)) _).mono ?_
  rintro e w6 ⟨rfl, rfl⟩
  have a0 := dcell HA5.out 0 (by rw [HN0.out]; omega) 227 (by rw [HD0.out, dg0.1]; rfl)
  have a1 := dcell HA5.out 1 (by rw [HN0.out]; omega) 176 (by rw [HD0.out, dg0.2.1]; rfl)
  have a2 := dcell HA5.out 2 (by rw [HN0.out]; omega) 196 (by rw [HD0.out, dg0.2.2.1]; rfl)
  have a3 := dcell HA5.out 31 (by rw [HN0.out]; omega) 85 (by rw [HD0.out, dg0.2.2.2]; rfl)
  have c0 := dcell HC5.out 0 (by rw [HN1.out]; omega) 186 (by rw [HD1.out, dg1.1]; rfl)
  have c1 := dcell HC5.out 1 (by rw [HN1.out]; omega) 120 (by rw [HD1.out, dg1.2.1]; rfl)
  have c2 := dcell HC5.out 2 (by rw [HN1.out]; omega) 22 (by rw [HD1.out, dg1.2.2.1]; rfl)
  have c3 := dcell HC5.out 31 (by rw [HN1.out]; omega) 173 (by rw [HD1.out, dg1.2.2.2]; rfl)
  have HST := Lib.hid (start_any w5 HE5.out)
  obtain ⟨SL, hSL⟩ : ∃ SL, SL = st0.list := ⟨_, rfl⟩
  rw [← hSL] at HST
  have hx8 : ∀ w', (Instr.index 32 (.agg (wvs SL).toArray) (.int .i64 0)).run Tryd.prog w' = .ok (.int .u32 1779033703) w' := fun w' => by
    have := ix8 SL 0 (by omega) (by rw [hSL]; decide) w'
    rw [hSL] at this ⊢
    exact this
  clear hSL
  go_wp2_with fail
  refine HST.out.mono ?_
  rintro e w6 ⟨rfl, b6⟩
  have HB6 := Lib.hid (HB5.out.trans (b6.mono HB5.out.size))
  clear b6 HST a0 a1 a2 a3 c0 c1 c2 c3
  go_wp2_with fail
  refine (pad_any 0 (by omega) _).mono ?_
  rintro e w7 ⟨v7, rfl, o7, b7⟩
  have HB7 := Lib.hid (HB6.out.trans (b7.mono HB6.out.size))
  obtain ⟨q7, c7, hv7⟩ := own_form0 o7
  rw [pad0_len] at hv7
  subst hv7
  clear o7 b7
  go_wp2_with fail
  go_ret
  exact ⟨rfl, HB7.out⟩
end Go.Proofs.YtbnpnpoddnkaiaaDoor
