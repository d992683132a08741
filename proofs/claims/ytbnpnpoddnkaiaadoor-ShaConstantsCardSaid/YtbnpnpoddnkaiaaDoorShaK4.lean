/-
  The start by the reference's way of reckoning; the primes.
-/
import Derived.Test.YtbnpnpoddnkaiaaDoorU64
import Derived.Test.YtbnpnpoddnkaiaaDoorShaMath
namespace Go.Proofs.YtbnpnpoddnkaiaaDoor
def pl : List Nat := [2, 3, 5, 7, 11, 13, 17, 19, 23, 29, 31, 37, 41, 43, 47, 53, 59, 61, 67, 71, 73, 79, 83, 89, 97, 101, 103, 107, 109, 113, 127, 131, 137, 139, 149, 151, 157, 163, 167, 173, 179, 181, 191, 193, 197, 199, 211, 223, 227, 229, 233, 239, 241, 251, 257, 263, 269, 271, 277, 281, 283, 293, 307, 311]
theorem primes : (List.range 64).all (fun i => primeM 400 2 i == some (pl.getD i 0)) = true := by decide +kernel
theorem rs0 : rootM 2 2 = some (st0.list.getD 0 0).toNat := by decide +kernel
theorem rs1 : rootM 3 2 = some (st0.list.getD 1 0).toNat := by decide +kernel
theorem rs2 : rootM 5 2 = some (st0.list.getD 2 0).toNat := by decide +kernel
theorem rs3 : rootM 7 2 = some (st0.list.getD 3 0).toNat := by decide +kernel
theorem rs4 : rootM 11 2 = some (st0.list.getD 4 0).toNat := by decide +kernel
theorem rs5 : rootM 13 2 = some (st0.list.getD 5 0).toNat := by decide +kernel
theorem rs6 : rootM 17 2 = some (st0.list.getD 6 0).toNat := by decide +kernel
theorem rs7 : rootM 19 2 = some (st0.list.getD 7 0).toNat := by decide +kernel
end Go.Proofs.YtbnpnpoddnkaiaaDoor
