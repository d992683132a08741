/-
  Literals of bytes laid in a region that draws its order: the mark of the run-time, wherever the row lies.
-/
import Derived.Test.YtlngicddojoogaaGreatDoorStepW
import Derived.Lib.SmallJoins
namespace Go.Proofs.YtlngicddojoogaaGreatDoor
open Go.ChangeShapes Go.WideShapes Go.ChangeAt Go.RowKit
set_option linter.unusedVariables false

/-- A row of bytes at block g, marked or not. -/
def LitAt (w : World) (g : Nat) (l : List UInt8) : Prop := ∃ fr : Nat × Nat, w.heap[g]? = some (.cells (bvs l).toArray 5 fr)
theorem LitAt.lt {w : World} {g : Nat} {l : List UInt8} (h : LitAt w g l) : g < w.heap.size := by obtain ⟨_, h⟩ := h; exact (Array.getElem?_eq_some_iff.1 h).1
theorem LitAt.rd {w : World} {g n : Nat} {l : List UInt8} (h : LitAt w g l) (hn : n = l.length) (hm : l.length ≤ maxLen) : Rd w.heap.size w (.slice (some ⟨g, 0, none⟩) n n) l := by
  subst hn
  refine .inr ⟨g, 0, _, rfl, Nat.le_refl _, hm, h.lt, fun i hi => ?_⟩
  obtain ⟨fr, h⟩ := h
  rw [Nat.zero_add, cell_of_row w g i _ _ fr h, List.getElem?_toArray]
  exact bvs_getElem l i hi
theorem LitAt.keep {w w' : World} {g : Nat} {l : List UInt8} (h : LitAt w g l) (hk : w'.heap[g]? = w.heap[g]?) : LitAt w' g l := by obtain ⟨fr, h⟩ := h; exact ⟨fr, hk.trans h⟩
theorem LitAt.later {w w' : World} {g : Nat} {l : List UInt8} (h : LitAt w g l) (hb : Below w.heap.size w w') : LitAt w' g l := h.keep (hb.block g h.lt)
theorem LitAt.new (w : World) (l : List UInt8) (cs : Array Value) (hcs : cs.toList = bvs l) : LitAt (w.alloc (.cells cs 5)) w.heap.size l := ⟨(0, 0), by rw [heap_alloc_new w _, ← hcs]⟩
/-- The mark. -/
theorem run_mark {w : World} {g : Nat} {l : List UInt8} (h : LitAt w g l) (n c : Nat) :
    ∃ w', (convert 27 27 (.slice (some ⟨g, 0, none⟩) n c)).run Tryz.prog w = .ok (.slice (some ⟨g, 0, none⟩) n c) w' ∧ LitAt w' g l ∧ (∀ B, B ≤ g → Below B w w') ∧ (∀ k, k ≠ g → w'.heap[k]? = w.heap[k]?) := by
  obtain ⟨fr, hg⟩ := h
  have hsh : w.shape? g = some (5, (bvs l).length) := by
    unfold World.shape?
    rw [hg]
    simp
  have hk : ∀ k, k ≠ g → (w.freeze ⟨g, (bvs l).length, none⟩ 1).heap[k]? = w.heap[k]? := fun k hk => by
    unfold World.freeze
    rw [if_neg (by decide)]
    show (w.heap.modify g _)[k]? = _
    rw [Array.getElem?_modify, if_neg (fun e => hk e.symm)]
  refine ⟨w.freeze ⟨g, (bvs l).length, none⟩ 1, by simp [convert, run_underlying Tryz.underlying27, run_underlying Tryz.underlying5, markStringish, hsh], ?_, fun B hB => ⟨?_, ?_, ?_, ?_, fun k hkB => hk k (by omega)⟩, hk⟩
  · unfold World.freeze
    rw [if_neg (by decide)]
    obtain ⟨lo, hi⟩ := fr
    refine ⟨if lo == hi then ((bvs l).length, (bvs l).length + 1) else (min lo (bvs l).length, max hi ((bvs l).length + 1)), ?_⟩
    show (w.heap.modify g _)[g]? = _
    rw [Array.getElem?_modify, if_pos rfl, hg]
    rfl
  all_goals (unfold World.freeze; rw [if_neg (by decide)])
  show w.heap.size ≤ (w.heap.modify g _).size
  rw [Array.size_modify]; exact Nat.le_refl _
section
variable {P : Program} {ops : Array Oper} {o : Oper} {a : Act} {w : World} {K : Act → World → Prop} {Q : Exit → Act → World → Prop} {E : Prop}
theorem stepw_mark {g n c : Nat} {l : List UInt8} (hw : Region.wanted o (yielded ops a.tmps) = true) (x : Operand) (ho : o.op = .convert 27 27 x) (hx : a.eval x = .slice (some ⟨g, 0, none⟩) n c) (h : LitAt w g l)
    (hK : ∀ w', LitAt w' g l → (∀ B, B ≤ g → Below B w w') → (∀ k, k ≠ g → w'.heap[k]? = w.heap[k]?) → K (a.put o.dst (.slice (some ⟨g, 0, none⟩) n c)) w') : if Region.wanted o (yielded ops a.tmps) = true then Oper.wp Tryz.prog o a w K Q else E := by
  rw [if_pos hw]
  obtain ⟨w', hrun, h1, h2, h3⟩ := run_mark h n c
  unfold Oper.wp
  simp [execOp, ho, hx, hrun, Result.andThen]
  exact hK w' h1 h2 h3
/-- What follows later is shown once, for all ways that come there. -/
theorem wpAnyH_later {md : Region.Mode} {S : World → Prop} {fuel : Nat} {listed : Array Bool} (n : Nat) (listed' : Array Bool) (F : Act → Act → World → Prop)
    (T : (∀ a' w', F a a' w' → wpAnyH P md ops Q S n listed' a' w') → wpAnyH P md ops Q S fuel listed a w) (h : ∀ a' w', F a a' w' → wpAnyH P md ops Q S n listed' a' w') : wpAnyH P md ops Q S fuel listed a w := T h
theorem wpAnyH_listed {md : Region.Mode} {S : World → Prop} {fuel : Nat} {listed listed' : Array Bool} (e : listed = listed') (h : wpAnyH P md ops Q S fuel listed' a w) : wpAnyH P md ops Q S fuel listed a w := e ▸ h
end
end Go.Proofs.YtlngicddojoogaaGreatDoor
