/-
  Words turned: sha.right and the reference's rot.
-/
import Derived.Test.YtlngicddojoogaaGreatDoorShaMath
import Derived.Test.YtlngicddojoogaaGreatDoorArr
namespace Go.Proofs.YtlngicddojoogaaGreatDoor
open Go.ChangeShapes Go.WideShapes Go.ChangeAt Go.RowKit
set_option linter.unusedVariables false

theorem rot_val (x : UInt32) (n : Nat) (h1 : 1 ≤ n) (h2 : n ≤ 31) : bits .or .u32 (IntKind.u32.wrap ((x.toNat : Int) * 2 ^ (32 - n))) ((x.toNat : Int) / 2 ^ n) = ((rotr x n).toNat : Int) := by
  rw [w_shl x (32 - n) (by omega), w_shr x n (by omega), w_or, UInt32.or_comm]; rfl
theorem rot_val' (x : UInt32) (n : Nat) (h1 : 1 ≤ n) (h2 : n ≤ 31) : bits .or .u32 ((x.toNat : Int) / 2 ^ n) (IntKind.u32.wrap ((x.toNat : Int) * 2 ^ (32 - n))) = ((rotr x n).toNat : Int) := by
  rw [w_shl x (32 - n) (by omega), w_shr x n (by omega), w_or]; rfl
def turns : List Int := [2, 6, 7, 11, 13, 17, 18, 19, 22, 25]
theorem turns_le {k : Int} (h : k ∈ turns) : 1 ≤ k.toNat ∧ k.toNat ≤ 31 := by
  simp only [turns, List.mem_cons, List.not_mem_nil, or_false] at h; omega
set_option maxRecDepth 100000 in
theorem rotl_any (x : UInt32) (k : Int) (hk : k ∈ turns) (w : World) :
    Calls Tryz.prog 110 #[.int .u32 x.toNat, .int .i64 (-k)] w fun e w' => e = .returned (.int .u32 (rotr x k.toNat).toNat) ∧ w = w' := by
  have HV := Lib.hid (rot_val x k.toNat (turns_le hk).1 (turns_le hk).2)
  have e2 : bits .and .u64 (IntKind.u64.wrap (-2)) 31 = 30 := by kernel_rfl
  have e6 : bits .and .u64 (IntKind.u64.wrap (-6)) 31 = 26 := by kernel_rfl
  have e7 : bits .and .u64 (IntKind.u64.wrap (-7)) 31 = 25 := by kernel_rfl
  have e11 : bits .and .u64 (IntKind.u64.wrap (-11)) 31 = 21 := by kernel_rfl
  have e13 : bits .and .u64 (IntKind.u64.wrap (-13)) 31 = 19 := by kernel_rfl
  have e17 : bits .and .u64 (IntKind.u64.wrap (-17)) 31 = 15 := by kernel_rfl
  have e18 : bits .and .u64 (IntKind.u64.wrap (-18)) 31 = 14 := by kernel_rfl
  have e19 : bits .and .u64 (IntKind.u64.wrap (-19)) 31 = 13 := by kernel_rfl
  have e22 : bits .and .u64 (IntKind.u64.wrap (-22)) 31 = 10 := by kernel_rfl
  have e25 : bits .and .u64 (IntKind.u64.wrap (-25)) 31 = 7 := by kernel_rfl
  simp only [turns, List.mem_cons, List.not_mem_nil, or_false] at hk
  rcases hk with rfl | rfl | rfl | rfl | rfl | rfl | rfl | rfl | rfl | rfl
  all_goals go_enter Tryz.func110, Tryz.ntmps110
  all_goals go_wp2_with fail
  all_goals go_ret
  all_goals exact ⟨by rw [← HV.out]; rfl, rfl⟩
set_option maxRecDepth 100000 in
theorem right_any (x : UInt32) (k : Int) (hk : k ∈ turns) (w : World) :
    Calls Tryz.prog 88 #[.int .u32 x.toNat, .int .i64 k] w fun e w' => e = .returned (.int .u32 (rotr x k.toNat).toNat) ∧ w = w' := by
  simp only [turns, List.mem_cons, List.not_mem_nil, or_false] at hk
  rcases hk with rfl | rfl | rfl | rfl | rfl | rfl | rfl | rfl | rfl | rfl
  all_goals go_enter Tryz.func88, Tryz.ntmps88
  all_goals go_wp2_with fail
  all_goals refine (rotl_any x _ (by decide) _).mono ?_
  all_goals rintro e w1 ⟨rfl, rfl⟩
  all_goals go_wp2_with fail
  all_goals go_ret
  all_goals exact ⟨rfl, rfl⟩
set_option maxRecDepth 100000 in
theorem rot_any (x : UInt32) (k : Int) (hk : k ∈ turns) (w : World) :
    Calls Tryz.prog 72 #[.int .u32 x.toNat, .int .u64 k] w fun e w' => e = .returned (.int .u32 (rotr x k.toNat).toNat) ∧ w = w' := by
  have HV := Lib.hid (rot_val' x k.toNat (turns_le hk).1 (turns_le hk).2)
  simp only [turns, List.mem_cons, List.not_mem_nil, or_false] at hk
  rcases hk with rfl | rfl | rfl | rfl | rfl | rfl | rfl | rfl | rfl | rfl
  all_goals go_enter Tryz.func72, Tryz.ntmps72
  all_goals go_wp2_with fail
  all_goals go_ret
  all_goals exact ⟨by rw [← HV.out]; rfl, rfl⟩
end Go.Proofs.YtlngicddojoogaaGreatDoor
