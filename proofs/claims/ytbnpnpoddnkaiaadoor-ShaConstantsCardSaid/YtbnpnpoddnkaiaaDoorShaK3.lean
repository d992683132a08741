/-
  The constants by the reference's way of reckoning, primes 48 to 63.
-/
import Derived.Test.YtbnpnpoddnkaiaaDoorU64
import Derived.Test.YtbnpnpoddnkaiaaDoorShaMath
namespace Go.Proofs.YtbnpnpoddnkaiaaDoor
theorem rk48 : rootM 227 3 = some (kk.getD 48 0).toNat := by decide +kernel
theorem rk49 : rootM 229 3 = some (kk.getD 49 0).toNat := by decide +kernel
theorem rk50 : rootM 233 3 = some (kk.getD 50 0).toNat := by decide +kernel
theorem rk51 : rootM 239 3 = some (kk.getD 51 0).toNat := by decide +kernel
theorem rk52 : rootM 241 3 = some (kk.getD 52 0).toNat := by decide +kernel
theorem rk53 : rootM 251 3 = some (kk.getD 53 0).toNat := by decide +kernel
theorem rk54 : rootM 257 3 = some (kk.getD 54 0).toNat := by decide +kernel
theorem rk55 : rootM 263 3 = some (kk.getD 55 0).toNat := by decide +kernel
theorem rk56 : rootM 269 3 = some (kk.getD 56 0).toNat := by decide +kernel
theorem rk57 : rootM 271 3 = some (kk.getD 57 0).toNat := by decide +kernel
theorem rk58 : rootM 277 3 = some (kk.getD 58 0).toNat := by decide +kernel
theorem rk59 : rootM 281 3 = some (kk.getD 59 0).toNat := by decide +kernel
theorem rk60 : rootM 283 3 = some (kk.getD 60 0).toNat := by decide +kernel
theorem rk61 : rootM 293 3 = some (kk.getD 61 0).toNat := by decide +kernel
theorem rk62 : rootM 307 3 = some (kk.getD 62 0).toNat := by decide +kernel
theorem rk63 : rootM 311 3 = some (kk.getD 63 0).toNat := by decide +kernel
end Go.Proofs.YtbnpnpoddnkaiaaDoor
