/-
  vestrylaw06.ShaPaddings: the walk.
-/
import Derived.Test.YtbnpnpoddnkaiaaDoorShaW
namespace Go.Proofs.YtbnpnpoddnkaiaaDoor
open Go.ChangeShapes Go.WideShapes Go.ChangeAt Go.RowKit
set_option linter.unusedVariables false

theorem eqB_self (l : List UInt8) : eqB l l = true := eqB_all rfl (fun i _ => rfl)
set_option maxRecDepth 100000 in
set_option maxHeartbeats 1000000 in
theorem paddings_walk (n : Nat) (hn : n < 4294967296) (w : World) (he : Env w) :
    Calls Tryd.prog 6 #[.int .u32 n] w fun e w' => e = .returned (.bool true) ∧ Below w.heap.size w w' := by
  have HE := Lib.hid he
  have h0 : (0 : Int) ≤ n := by omega
  have h1 : (n : Int) ≤ 4294967295 := by omega
  have HP := Lib.hid (pad_any n (by omega))
  have HR := Lib.hid (rpad_any n (by omega))
  obtain ⟨P, hP⟩ : ∃ P, P = padding n := ⟨_, rfl⟩
  rw [← hP] at HP HR
  obtain ⟨L, hL⟩ : ∃ L, L = P.length := ⟨_, rfl⟩
  have hl1 : (L : Int) ≤ 72 := by
    have := padding_length n
    have hz : zeros n < 64 := by unfold zeros; omega
    rw [← hP] at this; omega
  have hl0 : (0 : Int) ≤ L := by omega
  have hm : ((n : Int) + L) % 64 = 0 := by
    have := padding_whole n
    rw [← hP, ← hL] at this
    omega
  have HL := Lib.hid hL
  clear he hn hP hL
  go_enter Tryd.func6, Tryd.ntmps6
  go_wp2_with fail
  refine (shawake_any _ HE.out).mono ?_
  rintro e w1 ⟨rfl, b1⟩
  have HB1 := Lib.hid b1
  clear b1
  go_wp2_with fail
  refine (HP.out _).mono ?_
  rintro e w2 ⟨v2, rfl, o2, b2⟩
  have HB2 := Lib.hid (HB1.out.trans (b2.mono HB1.out.size))
  have HR2 := Lib.hid (Rd.of_own o2)
  obtain ⟨q2, c2, hv2⟩ := own_form0 o2
  rw [← HL.out] at hv2
  subst hv2
  clear o2 b2 HB1
  go_wp2_with fail
  refine (HR.out _).mono ?_
  rintro e w3 ⟨v3, rfl, o3, b3⟩
  have HB3 := Lib.hid (HB2.out.trans (b3.mono HB2.out.size))
  have HSA := Lib.hid (same_any (HR2.out.below b3 (Nat.le_refl _)) (Rd.of_own o3))
  rw [eqB_self] at HSA
  clear o3 b3 HB2
  go_wp2_with fail
  refine HSA.out.mono ?_
  rintro e w4 ⟨rfl, d4, rfl⟩
  have HB4 := Lib.hid (HB3.out.trans (Joins.below_draws w.heap.size w3 d4))
  go_wp2_with fail
  go_ret
  exact ⟨rfl, HB4.out⟩
end Go.Proofs.YtbnpnpoddnkaiaaDoor
