/-
  The constants by the reference's way of reckoning, primes 0 to 15.
-/
import Derived.Test.YtbnpnpoddnkaiaaDoorU64
import Derived.Test.YtbnpnpoddnkaiaaDoorShaMath
namespace Go.Proofs.YtbnpnpoddnkaiaaDoor
theorem rk0 : rootM 2 3 = some (kk.getD 0 0).toNat := by decide +kernel
theorem rk1 : rootM 3 3 = some (kk.getD 1 0).toNat := by decide +kernel
theorem rk2 : rootM 5 3 = some (kk.getD 2 0).toNat := by decide +kernel
theorem rk3 : rootM 7 3 = some (kk.getD 3 0).toNat := by decide +kernel
theorem rk4 : rootM 11 3 = some (kk.getD 4 0).toNat := by decide +kernel
theorem rk5 : rootM 13 3 = some (kk.getD 5 0).toNat := by decide +kernel
theorem rk6 : rootM 17 3 = some (kk.getD 6 0).toNat := by decide +kernel
theorem rk7 : rootM 19 3 = some (kk.getD 7 0).toNat := by decide +kernel
theorem rk8 : rootM 23 3 = some (kk.getD 8 0).toNat := by decide +kernel
theorem rk9 : rootM 29 3 = some (kk.getD 9 0).toNat := by decide +kernel
theorem rk10 : rootM 31 3 = some (kk.getD 10 0).toNat := by decide +kernel
theorem rk11 : rootM 37 3 = some (kk.getD 11 0).toNat := by decide +kernel
theorem rk12 : rootM 41 3 = some (kk.getD 12 0).toNat := by decide +kernel
theorem rk13 : rootM 43 3 = some (kk.getD 13 0).toNat := by decide +kernel
theorem rk14 : rootM 47 3 = some (kk.getD 14 0).toNat := by decide +kernel
theorem rk15 : rootM 53 3 = some (kk.getD 15 0).toNat := by decide +kernel
end Go.Proofs.YtbnpnpoddnkaiaaDoor
