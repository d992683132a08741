/-
  wire.New returns a cursor over a copy of the bytes.
-/
import Derived.Test.YtdnmgemjhpkekaaGreatDoorJoin
namespace Go.Proofs.YtdnmgemjhpkekaaGreatDoor
open Go.ChangeShapes Go.WideShapes Go.ChangeAt Go.RowKit

/-- Block c of w is a cursor over the bytes l, of which 'at' were read. -/
def Cur (w : World) (c : Nat) (l : List UInt8) (at' : Nat) : Prop :=
  ∃ v, w.heap[c]? = some (.cells #[v, .int .i64 at'] 116 (0, 0)) ∧ Rd c w v l ∧ at' ≤ l.length ∧ l.length ≤ 140737488355328

theorem Cur.below {C : Nat} {w w' : World} {c at' : Nat} {l : List UInt8} (h : Cur w c l at') (hb : Below C w w') (hc : c < C) : Cur w' c l at' := by
  obtain ⟨v, h1, h2, h3, h4⟩ := h
  exact ⟨v, (hb.block c hc).trans h1, h2.below hb (by omega), h3, h4⟩
theorem Cur.lt {w : World} {c at' : Nat} {l : List UInt8} (h : Cur w c l at') : c < w.heap.size := by
  obtain ⟨v, h1, _⟩ := h
  exact (Array.getElem?_eq_some_iff.1 h1).1

def NewPost (w : World) (l : List UInt8) (e : Ending) (w' : World) : Prop :=
  ∃ c, e = .returned (.pointer (some ⟨c, 0, none⟩)) ∧ w.heap.size ≤ c ∧ Cur w' c l 0 ∧ Below w.heap.size w w'

set_option maxRecDepth 100000 in
set_option maxHeartbeats 400000 in
theorem new_any {B : Nat} {w : World} {vb : Value} {l : List UInt8} (hr : Rd B w vb l) (hB : B ≤ w.heap.size) (hl : l.length ≤ 140737488355328) :
    Calls Tryz.prog 45 #[vb] w (NewPost w l) := by
  obtain ⟨ov, cv, rfl, _, _⟩ := hr.form
  go_enter Tryz.func45, Tryz.ntmps45
  have hb0 : Below w.heap.size w (w.alloc (.cells #[.slice ov l.length cv] 22)) := (Below.refl _ _).alloc (Nat.le_refl _) _
  have hra : RdAll (w.heap.size + 1) (w.alloc (.cells #[.slice ov l.length cv] 22)) (some ⟨w.heap.size, 0, none⟩) [l] := by
    intro _
    refine ⟨w.heap.size, 0, rfl, by omega, fun i hi => ?_⟩
    have hi0 : i = 0 := by simpa using hi
    subst hi0
    refine ⟨.slice ov l.length cv, ?_, ?_⟩
    · rw [cell_of_row _ _ _ #[.slice ov l.length cv] 22 (0, 0) (heap_alloc_new w _)]; rfl
    · exact (hr.below hb0 hB).mono (by omega)
  have hj := join_any (cap := 1) hra (by simp) (by simp) (by simpa [total] using hl)
  have HJ := Lib.hid hj
  clear hj hra
  go_wp2_with (go_at_call 61; refine HJ.out.mono ?_; rintro e w1 ⟨v, rfl, hown, hb⟩; have hr1 := Rd.of_own hown; have hwl : [l].flatten = l := List.append_nil l; rw [hwl] at hr1; obtain ⟨oj, cj, rfl, _, _⟩ := hr1.form; clear hown)
  go_ret
  clear HJ
  refine ⟨w1.heap.size, rfl, ?_, ⟨.slice oj l.length cj, ?_, ?_, Nat.zero_le _, hl⟩, ?_⟩
  · have := hb.size; simp at this; omega
  · exact heap_alloc_new w1 _
  · exact hr1.below ((Below.refl _ _).alloc (Nat.le_refl _) _) (Nat.le_refl _)
  · exact (hb0.trans (hb.mono (by simp))).alloc (by have := hb.size; simp at this; omega) _
end Go.Proofs.YtdnmgemjhpkekaaGreatDoor
