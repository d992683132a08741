/-
  A byte slice turned into a string.
-/
import Derived.Test.YtdnmgemjhpkekaaGreatDoorBase
import Derived.Laws.BytesArg
namespace Go.Proofs.YtdnmgemjhpkekaaGreatDoor
open Go.ChangeShapes Go.WideShapes Go.ChangeAt Go.RowKit

def str (l : List UInt8) : ByteArray := ⟨l.toArray⟩
theorem str_size (l : List UInt8) : (str l).size = l.length := rfl
theorem str_data (s : ByteArray) : str s.data.toList = s := rfl

theorem conv_bytes {B : Nat} {w : World} {oa : Option Addr} {n cap : Nat} {l : List UInt8} (hr : Rd B w (.slice oa n cap) l) :
    (convert 22 9 (.slice oa n cap)).run Tryz.prog w = .ok (.string (str l)) w := by
  rcases hr with ⟨oa', hv, rfl⟩ | ⟨b, off, cap', hv, h1, h2, h3, hc⟩
  · simp only [Value.slice.injEq] at hv
    obtain ⟨rfl, rfl, rfl⟩ := hv
    cases oa with
    | none => exact run_convert_bytes_nil w _ _ Tryz.underlying22 Tryz.underlying5 0 0 _ Tryz.underlying9
    | some a =>
      rw [run_convert_bytes_string w _ _ _ _ 0 0 Tryz.underlying22 Tryz.underlying5 Tryz.underlying9]
      rw [run_bytesToString w a 0 0 [] (by simpa using run_loadCells_list (P := Tryz.prog) w a [] (fun j v hj => by simp at hj))]
      rfl
  · simp only [Value.slice.injEq] at hv
    obtain ⟨rfl, rfl, rfl⟩ := hv
    rw [run_convert_bytes_arg w _ _ Tryz.underlying22 Tryz.underlying5 b off l.length cap (l.map fun x => (x.toNat : Int)) (by simp) (fun i hi => by
      rw [hc i hi]; simp [bv, List.getD_eq_getElem?_getD, List.getElem?_eq_getElem hi]) _ Tryz.underlying9]
    unfold strOfNums str
    congr 3
    congr 1
    rw [List.map_map]
    conv => rhs; rw [← List.map_id l]
    apply List.map_congr_left
    intro x _
    show UInt8.ofNat ((x.toNat : Int)).toNat = x
    rw [Int.toNat_natCast, UInt8.ofNat_toNat]

end Go.Proofs.YtdnmgemjhpkekaaGreatDoor
