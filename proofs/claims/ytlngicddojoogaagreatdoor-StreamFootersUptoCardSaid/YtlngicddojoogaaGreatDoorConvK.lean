/-
  []byte("const") where the literal's row was laid earlier: the conversion marks the row and changes no cell.
-/
import Derived.Test.YtlngicddojoogaaGreatDoorApp
import Derived.Test.YtlngicddojoogaaGreatDoorArr
import Derived.Laws.IdiomStrings
namespace Go.Proofs.YtlngicddojoogaaGreatDoor
open Go.ChangeShapes Go.WideShapes Go.ChangeAt Go.RowKit
set_option linter.unusedVariables false

theorem cell_freeze (w : World) (a p : Addr) (n : Nat) : (w.freeze a n).cell? p = w.cell? p := by
  unfold World.freeze
  split
  · rfl
  · simp only [World.cell?, Array.getElem?_modify]
    by_cases h : a.block = p.block
    · rw [if_pos h]
      cases hq : w.heap[p.block]? with
      | none => rfl
      | some o =>
        cases o with
        | cells c e m => obtain ⟨lo, hi⟩ := m; rfl
        | _ => rfl
    · rw [if_neg h]
theorem below_freeze {B : Nat} (w : World) (a : Addr) (n : Nat) (h : B ≤ a.block) : Below B w (w.freeze a n) := by
  unfold World.freeze
  split
  · exact Below.refl _ _
  · exact ⟨rfl, rfl, rfl, by simp, fun k hk => by
      simp only [Array.getElem?_modify]
      rw [if_neg (by omega)]⟩
theorem size_freeze (w : World) (a : Addr) (n : Nat) : (w.freeze a n).heap.size = w.heap.size := by
  unfold World.freeze
  split
  · rfl
  · simp
theorem Rd.freeze {B : Nat} {w : World} {v : Value} {l : List UInt8} (h : Rd B w v l) (a : Addr) (n : Nat) : Rd B (w.freeze a n) v l := by
  rcases h with h | ⟨b, off, cap, hv, h1, h2, h3, hc⟩
  · exact .inl h
  · exact .inr ⟨b, off, cap, hv, h1, h2, h3, fun i hi => by rw [cell_freeze]; exact hc i hi⟩
theorem convF {w : World} {g : Nat} {C : Array Value} (n c : Nat) (h : w.heap[g]? = some (.cells C 5 (0, 0))) :
    (convert 27 27 (.slice (some ⟨g, 0, none⟩) n c)).run Tryz.prog w = .ok (.slice (some ⟨g, 0, none⟩) n c) (w.freeze ⟨g, C.size, none⟩ 1) := by
  have hsh : w.shape? g = some (5, C.size) := by
    unfold World.shape?
    rw [h]
  simp [convert, run_underlying Tryz.underlying27, run_underlying Tryz.underlying5, markStringish, hsh]
end Go.Proofs.YtlngicddojoogaaGreatDoor
