/-
  A slice of byte slices in memory.
-/
import Derived.Test.YtdnmgemjhpkekaaGreatDoorBase
namespace Go.Proofs.YtdnmgemjhpkekaaGreatDoor
open Go.ChangeShapes Go.WideShapes Go.ChangeAt Go.RowKit

/-- The value reads as a slice of byte slices that read as ls. -/
def RdAll (B : Nat) (w : World) (oa : Option Addr) (ls : List (List UInt8)) : Prop :=
  0 < ls.length → ∃ b off, oa = some ⟨b, off, none⟩ ∧ b < B ∧ ∀ i, i < ls.length → ∃ u, w.cell? ⟨b, off + i, none⟩ = some u ∧ Rd B w u (ls.getD i [])

theorem RdAll.below {B C : Nat} {w w' : World} {oa : Option Addr} {ls : List (List UInt8)} (h : RdAll B w oa ls) (hb : Below C w w') (hC : B ≤ C) : RdAll B w' oa ls := by
  intro h0
  obtain ⟨b, off, e, hB, hc⟩ := h h0
  refine ⟨b, off, e, hB, fun i hi => ?_⟩
  obtain ⟨u, hu, hr⟩ := hc i hi
  exact ⟨u, (hb.cell (by show b < C; omega)).trans hu, hr.below hb hC⟩

def total (ls : List (List UInt8)) : Nat := ls.flatten.length
theorem total_take (ls : List (List UInt8)) (k : Nat) (h : k < ls.length) : (ls.take (k + 1)).flatten = (ls.take k).flatten ++ ls.getD k [] := by
  rw [List.take_succ_eq_append_getElem h, List.flatten_append]
  simp [List.getD_eq_getElem?_getD, List.getElem?_eq_getElem h]
theorem total_le (ls : List (List UInt8)) (k : Nat) : (ls.take k).flatten.length ≤ total ls := by
  unfold total
  conv => rhs; rw [← List.take_append_drop k ls, List.flatten_append, List.length_append]
  omega
end Go.Proofs.YtdnmgemjhpkekaaGreatDoor
