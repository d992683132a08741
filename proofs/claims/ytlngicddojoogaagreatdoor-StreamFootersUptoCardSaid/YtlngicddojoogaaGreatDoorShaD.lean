/-
  sha.Start, sha.Constant, sha.join; the reference's Start and Table.
-/
import Derived.Test.YtlngicddojoogaaGreatDoorShaC
namespace Go.Proofs.YtlngicddojoogaaGreatDoor
open Go.ChangeShapes Go.WideShapes Go.ChangeAt Go.RowKit
set_option linter.unusedVariables false


set_option maxRecDepth 100000 in
theorem rstart_any (w : World) : Calls Tryz.prog 51 #[] w fun e w' => e = .returned (.agg (wvs st0.list).toArray) ∧ Below w.heap.size w w' := by
  go_enter Tryz.func51, Tryz.ntmps51
  go_wp2_with ((with_reducible refine new8w (x := .tmp 0) (y := .tmp 1) (l := st0.list) (o := ⟨none, .store _ _ _, _, _, _, _⟩) rfl ?_ ?_); exact ⟨rfl, rfl, rfl, rfl, rfl⟩)
  exact bodyPost_ret (res8w rfl (Arr.new' w 97 (wvs st0.list).toArray (wvs st0.list) (by simp)) rfl rfl) rfl ⟨rfl, (Below.refl _ _).alloc (Nat.le_refl _) _⟩
set_option maxRecDepth 100000 in
set_option maxHeartbeats 2000000 in
theorem rtable_any (w : World) : Calls Tryz.prog 52 #[] w fun e w' => e = .returned (.agg (wvs kk).toArray) ∧ Below w.heap.size w w' := by
  obtain ⟨lk, hlk⟩ : ∃ lk, lk = kk := ⟨_, rfl⟩
  have HLK : Hid (lk.length = 64) := by rw [hlk]; rfl
  rw [← hlk]
  have hv : (#[Value.int .u32 1116352408, Value.int .u32 1899447441, Value.int .u32 3049323471, Value.int .u32 3921009573, Value.int .u32 961987163, Value.int .u32 1508970993, Value.int .u32 2453635748, Value.int .u32 2870763221, Value.int .u32 3624381080, Value.int .u32 310598401, Value.int .u32 607225278, Value.int .u32 1426881987, Value.int .u32 1925078388, Value.int .u32 2162078206, Value.int .u32 2614888103, Value.int .u32 3248222580, Value.int .u32 3835390401, Value.int .u32 4022224774, Value.int .u32 264347078, Value.int .u32 604807628, Value.int .u32 770255983, Value.int .u32 1249150122, Value.int .u32 1555081692, Value.int .u32 1996064986, Value.int .u32 2554220882, Value.int .u32 2821834349, Value.int .u32 2952996808, Value.int .u32 3210313671, Value.int .u32 3336571891, Value.int .u32 3584528711, Value.int .u32 113926993, Value.int .u32 338241895, Value.int .u32 666307205, Value.int .u32 773529912, Value.int .u32 1294757372, Value.int .u32 1396182291, Value.int .u32 1695183700, Value.int .u32 1986661051, Value.int .u32 2177026350, Value.int .u32 2456956037, Value.int .u32 2730485921, Value.int .u32 2820302411, Value.int .u32 3259730800, Value.int .u32 3345764771, Value.int .u32 3516065817, Value.int .u32 3600352804, Value.int .u32 4094571909, Value.int .u32 275423344, Value.int .u32 430227734, Value.int .u32 506948616, Value.int .u32 659060556, Value.int .u32 883997877, Value.int .u32 958139571, Value.int .u32 1322822218, Value.int .u32 1537002063, Value.int .u32 1747873779, Value.int .u32 1955562222, Value.int .u32 2024104815, Value.int .u32 2227730452, Value.int .u32 2361852424, Value.int .u32 2428436474, Value.int .u32 2756734187, Value.int .u32 3204031479, Value.int .u32 3329325298] : Array Value) = (wvs lk).toArray := by rw [hlk]; kernel_rfl
  have HV := Lib.hid hv
  clear hlk hv
  go_enter Tryz.func52, Tryz.ntmps52
  go_wp2_with ((with_reducible refine new64w (x := .tmp 0) (y := .tmp 1) (l := lk) (o := ⟨none, .store _ _ _, _, _, _, _⟩) HLK.out ?_ ?_); exact ⟨rfl, rfl, rfl, by rw [← HV.out]; rfl, rfl⟩)
  exact bodyPost_ret (res64w rfl (Arr.new' w 103 (wvs lk).toArray (wvs lk) (by simp)) HLK.out rfl) rfl ⟨rfl, (Below.refl _ _).alloc (Nat.le_refl _) _⟩
end Go.Proofs.YtlngicddojoogaaGreatDoor
