/-
  The constants by the reference's way of reckoning, primes 16 to 31.
-/
import Derived.Test.YtbnpnpoddnkaiaaDoorU64
import Derived.Test.YtbnpnpoddnkaiaaDoorShaMath
namespace Go.Proofs.YtbnpnpoddnkaiaaDoor
theorem rk16 : rootM 59 3 = some (kk.getD 16 0).toNat := by decide +kernel
theorem rk17 : rootM 61 3 = some (kk.getD 17 0).toNat := by decide +kernel
theorem rk18 : rootM 67 3 = some (kk.getD 18 0).toNat := by decide +kernel
theorem rk19 : rootM 71 3 = some (kk.getD 19 0).toNat := by decide +kernel
theorem rk20 : rootM 73 3 = some (kk.getD 20 0).toNat := by decide +kernel
theorem rk21 : rootM 79 3 = some (kk.getD 21 0).toNat := by decide +kernel
theorem rk22 : rootM 83 3 = some (kk.getD 22 0).toNat := by decide +kernel
theorem rk23 : rootM 89 3 = some (kk.getD 23 0).toNat := by decide +kernel
theorem rk24 : rootM 97 3 = some (kk.getD 24 0).toNat := by decide +kernel
theorem rk25 : rootM 101 3 = some (kk.getD 25 0).toNat := by decide +kernel
theorem rk26 : rootM 103 3 = some (kk.getD 26 0).toNat := by decide +kernel
theorem rk27 : rootM 107 3 = some (kk.getD 27 0).toNat := by decide +kernel
theorem rk28 : rootM 109 3 = some (kk.getD 28 0).toNat := by decide +kernel
theorem rk29 : rootM 113 3 = some (kk.getD 29 0).toNat := by decide +kernel
theorem rk30 : rootM 127 3 = some (kk.getD 30 0).toNat := by decide +kernel
theorem rk31 : rootM 131 3 = some (kk.getD 31 0).toNat := by decide +kernel
end Go.Proofs.YtbnpnpoddnkaiaaDoor
