/-
  vestrylaw06.ShaConstants: the walk.
-/
import Derived.Test.YtbnpnpoddnkaiaaDoorShaW
import Derived.Test.YtbnpnpoddnkaiaaDoorShaT
import Derived.Test.YtbnpnpoddnkaiaaDoorShaK0
import Derived.Test.YtbnpnpoddnkaiaaDoorShaK1
import Derived.Test.YtbnpnpoddnkaiaaDoorShaK2
import Derived.Test.YtbnpnpoddnkaiaaDoorShaK3
import Derived.Test.YtbnpnpoddnkaiaaDoorShaK4
import Derived.Test.YtbnpnpoddnkaiaaDoorStepW
namespace Go.Proofs.YtbnpnpoddnkaiaaDoor
open Go.ChangeShapes Go.WideShapes Go.ChangeAt Go.RowKit
set_option linter.unusedVariables false

theorem prime_at (i : Nat) (h : i < 64) : primeM 400 2 i = some (pl.getD i 0) := by
  have := List.all_eq_true.1 primes i (List.mem_range.2 h)
  exact eq_of_beq this
theorem root3_at : (i : Nat) → i < 64 → rootM (pl.getD i 0) 3 = some (kk.getD i 0).toNat
  | 0, _ => rk0
  | 1, _ => rk1
  | 2, _ => rk2
  | 3, _ => rk3
  | 4, _ => rk4
  | 5, _ => rk5
  | 6, _ => rk6
  | 7, _ => rk7
  | 8, _ => rk8
  | 9, _ => rk9
  | 10, _ => rk10
  | 11, _ => rk11
  | 12, _ => rk12
  | 13, _ => rk13
  | 14, _ => rk14
  | 15, _ => rk15
  | 16, _ => rk16
  | 17, _ => rk17
  | 18, _ => rk18
  | 19, _ => rk19
  | 20, _ => rk20
  | 21, _ => rk21
  | 22, _ => rk22
  | 23, _ => rk23
  | 24, _ => rk24
  | 25, _ => rk25
  | 26, _ => rk26
  | 27, _ => rk27
  | 28, _ => rk28
  | 29, _ => rk29
  | 30, _ => rk30
  | 31, _ => rk31
  | 32, _ => rk32
  | 33, _ => rk33
  | 34, _ => rk34
  | 35, _ => rk35
  | 36, _ => rk36
  | 37, _ => rk37
  | 38, _ => rk38
  | 39, _ => rk39
  | 40, _ => rk40
  | 41, _ => rk41
  | 42, _ => rk42
  | 43, _ => rk43
  | 44, _ => rk44
  | 45, _ => rk45
  | 46, _ => rk46
  | 47, _ => rk47
  | 48, _ => rk48
  | 49, _ => rk49
  | 50, _ => rk50
  | 51, _ => rk51
  | 52, _ => rk52
  | 53, _ => rk53
  | 54, _ => rk54
  | 55, _ => rk55
  | 56, _ => rk56
  | 57, _ => rk57
  | 58, _ => rk58
  | 59, _ => rk59
  | 60, _ => rk60
  | 61, _ => rk61
  | 62, _ => rk62
  | 63, _ => rk63
  | n + 64, h => absurd h (by omega)
theorem root2_at : (i : Nat) → i < 8 → rootM (pl.getD i 0) 2 = some (st0.list.getD i 0).toNat
  | 0, _ => rs0
  | 1, _ => rs1
  | 2, _ => rs2
  | 3, _ => rs3
  | 4, _ => rs4
  | 5, _ => rs5
  | 6, _ => rs6
  | 7, _ => rs7
  | n + 8, h => absurd h (by omega)
theorem pl_small (i : Nat) (h : i < 64) : pl.getD i 0 < 65536 := by
  have : (List.range 64).all (fun i => decide (pl.getD i 0 < 65536)) = true := by decide +kernel
  exact of_decide_eq_true (List.all_eq_true.1 this i (List.mem_range.2 h))
/-- What the region keeps. -/
def Sc (w0 w' : World) : Prop := Env w' ∧ Below w0.heap.size w0 w'
theorem Sc.later {w0 w1 w2 : World} (h : Sc w0 w1) (hb : Below w1.heap.size w1 w2) : Sc w0 w2 := ⟨h.1.below (hb.mono (Nat.le_refl _)), h.2.trans (hb.mono h.2.size)⟩
set_option maxRecDepth 100000 in
set_option maxHeartbeats 4000000 in
theorem shaconst_in (i : Nat) (hi : i < 64) (w : World) (he : Env w) :
    Calls Tryd.prog 5 #[.int .i64 i] w fun e w' => e = .returned (.bool true) ∧ Below w.heap.size w w' := by
  have HE := Lib.hid he
  have h1 : (0 : Int) ≤ i := by omega
  have h2 : (i : Int) ≤ 63 := by omega
  obtain ⟨cv, hcv⟩ : ∃ cv, cv = (kk.getD i 0).toNat := ⟨_, rfl⟩
  have HC := Lib.hid (const_any i hi)
  rw [← hcv] at HC
  obtain ⟨p1, hp1⟩ : ∃ p1, p1 = pl.getD i 0 := ⟨_, rfl⟩
  have HP1 : Hid (∀ w', Sc w w' → Calls Tryd.prog 18 #[.int .i64 i] w' fun e w'' => ∃ v, e = .returned v ∧ (v = .int .i64 p1 ∧ Sc w w'')) := fun w' h =>
    (prime_any i p1 (by omega) (by rw [hp1]; exact prime_at i hi) w').mono fun e w'' ⟨h1, h2⟩ => ⟨_, h1, rfl, h2 ▸ h⟩
  have HR1 : Hid (∀ w', Sc w w' → Calls Tryd.prog 17 #[.int .i64 p1, .int .i64 3] w' fun e w'' => ∃ v, e = .returned v ∧ (v = .int .u32 cv ∧ Sc w w'')) := fun w' h =>
    (root_any p1 3 cv (by rw [hp1]; exact pl_small i hi) (.inr rfl) (by rw [hp1, hcv]; exact root3_at i hi) w').mono fun e w'' ⟨h1, h2⟩ => ⟨_, h1, rfl, h.later h2⟩
  obtain ⟨j, hj⟩ : ∃ j, j = i % 8 := ⟨_, rfl⟩
  have hj8 : j < 8 := by omega
  have hij : (i : Int).tmod 8 = (j : Int) := by rw [Int.tmod_eq_emod_of_nonneg h1]; omega
  obtain ⟨SL, hSL⟩ : ∃ SL, SL = st0.list := ⟨_, rfl⟩
  obtain ⟨sv, hsv⟩ : ∃ sv, sv = (SL.getD j 0).toNat := ⟨_, rfl⟩
  obtain ⟨p2, hp2⟩ : ∃ p2, p2 = pl.getD j 0 := ⟨_, rfl⟩
  have HP2 : Hid (∀ w', Sc w w' → Calls Tryd.prog 18 #[.int .i64 j] w' fun e w'' => ∃ v, e = .returned v ∧ (v = .int .i64 p2 ∧ Sc w w'')) := fun w' h =>
    (prime_any j p2 (by omega) (by rw [hp2]; exact prime_at j (by omega)) w').mono fun e w'' ⟨h1, h2⟩ => ⟨_, h1, rfl, h2 ▸ h⟩
  have HR2 : Hid (∀ w', Sc w w' → Calls Tryd.prog 17 #[.int .i64 p2, .int .i64 2] w' fun e w'' => ∃ v, e = .returned v ∧ (v = .int .u32 sv ∧ Sc w w'')) := fun w' h =>
    (root_any p2 2 sv (by rw [hp2]; exact pl_small j (by omega)) (.inl rfl) (by rw [hp2, hsv, hSL]; exact root2_at j hj8) w').mono fun e w'' ⟨h1, h2⟩ => ⟨_, h1, rfl, h.later h2⟩
  have HST : Hid (∀ w', Sc w w' → Calls Tryd.prog 19 #[] w' fun e w'' => ∃ v, e = .returned v ∧ (v = .agg (wvs SL).toArray ∧ Sc w w'')) := fun w' h =>
    (start_any w' h.1).mono fun e w'' ⟨h1, h2⟩ => ⟨_, h1, by rw [hSL], h.later h2⟩
  have hx8 : ∀ w', (Instr.index 32 (.agg (wvs SL).toArray) (.int .i64 j)).run Tryd.prog w' = .ok (.int .u32 sv) w' := fun w' => by
    have := ix8 SL j hj8 (by rw [hSL]; exact hj8) w'
    rw [← hsv] at this
    exact this
  clear he hcv hp1 hp2 hsv hSL hj hj8
  go_enter Tryd.func5, Tryd.ntmps5
  go_wp2_with fail
  refine (shawake_any _ HE.out).mono ?_
  rintro e w1 ⟨rfl, b1⟩
  have HKS : Hid (Sc w w1) := ⟨HE.out.below b1, b1⟩
  clear b1 HE
  go_wp2_with fail
  refine (HC.out _ HKS.out.1).mono ?_
  rintro e w2 ⟨rfl, rfl⟩
  clear HC
  go_wp2_with fail
  refine wp_region_noPanic ?_
  refine wp_region_held_drew (S := Sc w) (by kernel_rfl) (HKS.out.later (Below.refl _ _).drew) (fun hHeld => ?_)
  try simp only [Act.put]
  generalize w1.drew = w3 at hHeld ⊢
  clear HKS
  refine wpAnyH_take (i := 0) (oi := ⟨some 24, _, _, _, _, _⟩) (v := .bool true) rfl (by kernel_rfl) (by kernel_rfl) (by kernel_rfl) (fun _ _ _ h => h) (.inl ⟨by rfl, fun w' hSw => ?_⟩) hHeld ?_
  focus (have hx8' := hx8 w'; clear hx8; clear hHeld; go_simp)
  try simp only [Act.put, List.setIfInBounds_toArray, List.set_cons_zero, List.set_cons_succ]
  refine wpAnyH_take (i := 1) (oi := ⟨some 25, _, _, _, _, _⟩) (v := .bool true) rfl (by kernel_rfl) (by kernel_rfl) (by kernel_rfl) (fun _ _ _ h => h) (.inl ⟨by rfl, fun w' hSw => ?_⟩) hHeld ?_
  focus (have hx8' := hx8 w'; clear hx8; clear hHeld; go_simp)
  try simp only [Act.put, List.setIfInBounds_toArray, List.set_cons_zero, List.set_cons_succ]
  refine wpAnyH_take (i := 2) (oi := ⟨some 26, _, _, _, _, _⟩) (v := .int .u32 cv) rfl (by kernel_rfl) (by kernel_rfl) (by kernel_rfl) (fun _ _ _ h => h) (.inl ⟨by rfl, fun w' hSw => ?_⟩) hHeld ?_
  focus (have hx8' := hx8 w'; clear hx8; clear hHeld; go_simp)
  try simp only [Act.put, List.setIfInBounds_toArray, List.set_cons_zero, List.set_cons_succ]
  refine wpAnyH_take (i := 3) (oi := ⟨some 27, _, _, _, _, _⟩) (v := .int .i64 i) rfl (by kernel_rfl) (by kernel_rfl) (by kernel_rfl) (fun _ _ _ h => h) (.inl ⟨by rfl, fun w' hSw => ?_⟩) hHeld ?_
  focus (have hx8' := hx8 w'; clear hx8; clear hHeld; go_simp)
  try simp only [Act.put, List.setIfInBounds_toArray, List.set_cons_zero, List.set_cons_succ]
  refine wpAnyH_ready (rs := [4]) (by kernel_rfl) (by simp) ?_
  refine AllReadyH.cons (o := ⟨some 28, _, _, _, _, _⟩) rfl (fun K' hK' => ?_) AllReadyH.nil
  refine stepw_call (by rfl) ?_ (HP1.out _ hHeld) ?_
  focus go_simp
  rintro v w4 ⟨rfl, hkn⟩
  refine hK'.out _ _ hkn (fun _ => ?_)
  clear hK' K' hHeld
  have hHeld := hkn
  clear hkn
  try simp only [Act.put, List.setIfInBounds_toArray, List.set_cons_zero, List.set_cons_succ]
  refine wpAnyH_ready (rs := [5]) (by kernel_rfl) (by simp) ?_
  refine AllReadyH.cons (o := ⟨some 29, _, _, _, _, _⟩) rfl (fun K' hK' => ?_) AllReadyH.nil
  refine stepw_call (by rfl) ?_ (HR1.out _ hHeld) ?_
  focus go_simp
  rintro v w5 ⟨rfl, hkn⟩
  refine hK'.out _ _ hkn (fun _ => ?_)
  clear hK' K' hHeld
  have hHeld := hkn
  clear hkn
  try simp only [Act.put, List.setIfInBounds_toArray, List.set_cons_zero, List.set_cons_succ]
  refine wpAnyH_take (i := 6) (oi := ⟨some 30, _, _, _, _, _⟩) (v := .bool true) rfl (by kernel_rfl) (by kernel_rfl) (by kernel_rfl) (fun _ _ _ h => h) (.inl ⟨by rfl, fun w' hSw => ?_⟩) hHeld ?_
  focus (have hx8' := hx8 w'; clear hx8; clear hHeld; go_simp)
  try simp only [Act.put, List.setIfInBounds_toArray, List.set_cons_zero, List.set_cons_succ]
  refine wpAnyH_take (i := 7) (oi := ⟨some 31, _, _, _, _, _⟩) (v := .bool true) rfl (by kernel_rfl) (by kernel_rfl) (by kernel_rfl) (fun _ _ _ h => h) (.inl ⟨by rfl, fun w' hSw => ?_⟩) hHeld ?_
  focus (have hx8' := hx8 w'; clear hx8; clear hHeld; go_simp)
  try simp only [Act.put, List.setIfInBounds_toArray, List.set_cons_zero, List.set_cons_succ]
  refine wpAnyH_take (i := 8) (oi := ⟨some 32, _, _, _, _, _⟩) (v := .bool true) rfl (by kernel_rfl) (by kernel_rfl) (by kernel_rfl) (fun _ _ _ h => h) (.inl ⟨by rfl, fun w' hSw => ?_⟩) hHeld ?_
  focus (have hx8' := hx8 w'; clear hx8; clear hHeld; go_simp)
  try simp only [Act.put, List.setIfInBounds_toArray, List.set_cons_zero, List.set_cons_succ]
  refine wpAnyH_take (i := 10) (oi := ⟨some 34, _, _, _, _, _⟩) (v := .int .i64 i) rfl (by kernel_rfl) (by kernel_rfl) (by kernel_rfl) (fun _ _ _ h => h) (.inl ⟨by rfl, fun w' hSw => ?_⟩) hHeld ?_
  focus (have hx8' := hx8 w'; clear hx8; clear hHeld; go_simp)
  try simp only [Act.put, List.setIfInBounds_toArray, List.set_cons_zero, List.set_cons_succ]
  refine wpAnyH_take (i := 11) (oi := ⟨some 35, _, _, _, _, _⟩) (v := .int .i64 j) rfl (by kernel_rfl) (by kernel_rfl) (by kernel_rfl) (fun _ _ _ h => h) (.inl ⟨by rfl, fun w' hSw => ?_⟩) hHeld ?_
  focus (have hx8' := hx8 w'; clear hx8; clear hHeld; go_simp)
  try simp only [Act.put, List.setIfInBounds_toArray, List.set_cons_zero, List.set_cons_succ]
  refine wpAnyH_take (i := 13) (oi := ⟨some 37, _, _, _, _, _⟩) (v := .int .i64 i) rfl (by kernel_rfl) (by kernel_rfl) (by kernel_rfl) (fun _ _ _ h => h) (.inl ⟨by rfl, fun w' hSw => ?_⟩) hHeld ?_
  focus (have hx8' := hx8 w'; clear hx8; clear hHeld; go_simp)
  try simp only [Act.put, List.setIfInBounds_toArray, List.set_cons_zero, List.set_cons_succ]
  refine wpAnyH_take (i := 14) (oi := ⟨some 38, _, _, _, _, _⟩) (v := .int .i64 j) rfl (by kernel_rfl) (by kernel_rfl) (by kernel_rfl) (fun _ _ _ h => h) (.inl ⟨by rfl, fun w' hSw => ?_⟩) hHeld ?_
  focus (have hx8' := hx8 w'; clear hx8; clear hHeld; go_simp)
  try simp only [Act.put, List.setIfInBounds_toArray, List.set_cons_zero, List.set_cons_succ]
  refine wpAnyH_ready (rs := [9]) (by kernel_rfl) (by simp) ?_
  refine AllReadyH.cons (o := ⟨some 33, _, _, _, _, _⟩) rfl (fun K' hK' => ?_) AllReadyH.nil
  refine stepw_call (by rfl) ?_ (HST.out _ hHeld) ?_
  focus go_simp
  rintro v w6 ⟨rfl, hkn⟩
  refine hK'.out _ _ hkn (fun _ => ?_)
  clear hK' K' hHeld
  have hHeld := hkn
  clear hkn
  try simp only [Act.put, List.setIfInBounds_toArray, List.set_cons_zero, List.set_cons_succ]
  refine wpAnyH_take (i := 12) (oi := ⟨some 36, _, _, _, _, _⟩) (v := .int .u32 sv) rfl (by kernel_rfl) (by kernel_rfl) (by kernel_rfl) (fun _ _ _ h => h) (.inl ⟨by rfl, fun w' hSw => ?_⟩) hHeld ?_
  focus (have hx8' := hx8 w'; clear hx8; clear hHeld; go_simp)
  try simp only [Act.put, List.setIfInBounds_toArray, List.set_cons_zero, List.set_cons_succ]
  refine wpAnyH_ready (rs := [15]) (by kernel_rfl) (by simp) ?_
  refine AllReadyH.cons (o := ⟨some 39, _, _, _, _, _⟩) rfl (fun K' hK' => ?_) AllReadyH.nil
  refine stepw_call (by rfl) ?_ (HP2.out _ hHeld) ?_
  focus go_simp
  rintro v w7 ⟨rfl, hkn⟩
  refine hK'.out _ _ hkn (fun _ => ?_)
  clear hK' K' hHeld
  have hHeld := hkn
  clear hkn
  try simp only [Act.put, List.setIfInBounds_toArray, List.set_cons_zero, List.set_cons_succ]
  refine wpAnyH_ready (rs := [16]) (by kernel_rfl) (by simp) ?_
  refine AllReadyH.cons (o := ⟨some 40, _, _, _, _, _⟩) rfl (fun K' hK' => ?_) AllReadyH.nil
  refine stepw_call (by rfl) ?_ (HR2.out _ hHeld) ?_
  focus go_simp
  rintro v w8 ⟨rfl, hkn⟩
  refine hK'.out _ _ hkn (fun _ => ?_)
  clear hK' K' hHeld
  have hHeld := hkn
  clear hkn
  try simp only [Act.put, List.setIfInBounds_toArray, List.set_cons_zero, List.set_cons_succ]
  refine wpAnyH_take (i := 17) (oi := ⟨some 41, _, _, _, _, _⟩) (v := .bool true) rfl (by kernel_rfl) (by kernel_rfl) (by kernel_rfl) (fun _ _ _ h => h) (.inl ⟨by rfl, fun w' hSw => ?_⟩) hHeld ?_
  focus (have hx8' := hx8 w'; clear hx8; clear hHeld; go_simp)
  try simp only [Act.put, List.setIfInBounds_toArray, List.set_cons_zero, List.set_cons_succ]
  refine wpAnyH_take (i := 18) (oi := ⟨some 42, _, _, _, _, _⟩) (v := .bool true) rfl (by kernel_rfl) (by kernel_rfl) (by kernel_rfl) (fun _ _ _ h => h) (.inl ⟨by rfl, fun w' hSw => ?_⟩) hHeld ?_
  focus (have hx8' := hx8 w'; clear hx8; clear hHeld; go_simp)
  try simp only [Act.put, List.setIfInBounds_toArray, List.set_cons_zero, List.set_cons_succ]
  refine wpAnyH_take (i := 19) (oi := ⟨some 2, _, _, _, _, _⟩) (v := .bool true) rfl (by kernel_rfl) (by kernel_rfl) (by kernel_rfl) (fun _ _ _ h => h) (.inl ⟨by rfl, fun w' hSw => ?_⟩) hHeld ?_
  focus (have hx8' := hx8 w'; clear hx8; clear hHeld; go_simp)
  try simp only [Act.put, List.setIfInBounds_toArray, List.set_cons_zero, List.set_cons_succ]
  refine wpAnyH_done (by kernel_rfl) ?_ _
  refine NoPanic.normal ?_
  have HBZ := Lib.hid hHeld.2
  clear hHeld
  go_wp2_with fail
  go_ret
  exact ⟨rfl, HBZ.out⟩
theorem shaconst_out (i : Int) (hi : i < 0 ∨ 63 < i) (w : World) (he : Env w) :
    Calls Tryd.prog 5 #[.int .i64 i] w fun e w' => e = .returned (.bool true) ∧ Below w.heap.size w w' := by
  have HE := Lib.hid he
  have HC := Lib.hid (const_out i hi)
  clear he
  by_cases h : i < 0
  · go_enter Tryd.func5, Tryd.ntmps5
    go_wp2_with fail
    refine (shawake_any _ HE.out).mono ?_
    rintro e w1 ⟨rfl, b1⟩
    have HB := Lib.hid b1
    clear b1
    go_wp2_with fail
    refine (HC.out _).mono ?_
    rintro e w2 ⟨rfl, rfl⟩
    go_wp2_with fail
    go_ret
    exact ⟨rfl, HB.out⟩
  · have h2 : 63 < i := by omega
    go_enter Tryd.func5, Tryd.ntmps5
    go_wp2_with fail
    refine (shawake_any _ HE.out).mono ?_
    rintro e w1 ⟨rfl, b1⟩
    have HB := Lib.hid b1
    clear b1
    go_wp2_with fail
    refine (HC.out _).mono ?_
    rintro e w2 ⟨rfl, rfl⟩
    go_wp2_with fail
    go_ret
    exact ⟨rfl, HB.out⟩
end Go.Proofs.YtbnpnpoddnkaiaaDoor
