/-
  The constants by the reference's way of reckoning, primes 32 to 47.
-/
import Derived.Test.YtbnpnpoddnkaiaaDoorU64
import Derived.Test.YtbnpnpoddnkaiaaDoorShaMath
namespace Go.Proofs.YtbnpnpoddnkaiaaDoor
theorem rk32 : rootM 137 3 = some (kk.getD 32 0).toNat := by decide +kernel
theorem rk33 : rootM 139 3 = some (kk.getD 33 0).toNat := by decide +kernel
theorem rk34 : rootM 149 3 = some (kk.getD 34 0).toNat := by decide +kernel
theorem rk35 : rootM 151 3 = some (kk.getD 35 0).toNat := by decide +kernel
theorem rk36 : rootM 157 3 = some (kk.getD 36 0).toNat := by decide +kernel
theorem rk37 : rootM 163 3 = some (kk.getD 37 0).toNat := by decide +kernel
theorem rk38 : rootM 167 3 = some (kk.getD 38 0).toNat := by decide +kernel
theorem rk39 : rootM 173 3 = some (kk.getD 39 0).toNat := by decide +kernel
theorem rk40 : rootM 179 3 = some (kk.getD 40 0).toNat := by decide +kernel
theorem rk41 : rootM 181 3 = some (kk.getD 41 0).toNat := by decide +kernel
theorem rk42 : rootM 191 3 = some (kk.getD 42 0).toNat := by decide +kernel
theorem rk43 : rootM 193 3 = some (kk.getD 43 0).toNat := by decide +kernel
theorem rk44 : rootM 197 3 = some (kk.getD 44 0).toNat := by decide +kernel
theorem rk45 : rootM 199 3 = some (kk.getD 45 0).toNat := by decide +kernel
theorem rk46 : rootM 211 3 = some (kk.getD 46 0).toNat := by decide +kernel
theorem rk47 : rootM 223 3 = some (kk.getD 47 0).toNat := by decide +kernel
end Go.Proofs.YtbnpnpoddnkaiaaDoor
