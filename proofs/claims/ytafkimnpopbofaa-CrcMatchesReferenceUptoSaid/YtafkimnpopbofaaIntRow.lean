/-
  A slice of ints that a call makes for itself and stores into.
-/
import Derived.Test.YtafkimnpopbofaaBase
import Derived.OwnWalk
import Derived.Laws.OwnMore
namespace Go.Proofs.Ytafkimnpopbofaa
open Go.ChangeShapes Go.WideShapes Go.ChangeAt Go.RowKit

theorem Try.infoJ : (Try.prog.info? 3).map (fun i => (i.zero, i.size, i.bytes)) = some (some (.int .i64 0), 1, 8) := by kernel_rfl
def jv (n : Nat) : Value := .int .i64 n
def jvs (l : List Nat) : List Value := l.map jv
/-- Block g is a row of n ints that read as l. -/
def IRow (w : World) (base g n : Nat) (l : List Nat) : Prop := w.ownsRow base 3 1 (.slice (some ⟨g, 0, none⟩) n n) n (jvs l)
theorem IRow.len {w : World} {base g n : Nat} {l : List Nat} (h : IRow w base g n l) : l.length = n := by have := h.1; simpa [jvs] using this
theorem IRow.cell {w : World} {base g n : Nat} {l : List Nat} (h : IRow w base g n l) {q : Nat} (hq : q < n) : w.cell? ⟨g, q, none⟩ = some (.int .i64 (l.getD q 0 : Nat)) := by
  rw [World.ownsRow.cellAt h q (by omega)]
  have hl := h.len
  simp [jvs, jv, List.getD_eq_getElem?_getD, List.getElem?_eq_getElem (show q < l.length by omega)]
theorem IRow.frozen {w : World} {base g n : Nat} {l : List Nat} (h : IRow w base g n l) (q : Nat) : w.frozen? ⟨g, q, none⟩ = false := World.ownsRow.frozenAt h q
theorem IRow.set {w : World} {base g n : Nat} {l : List Nat} (h : IRow w base g n l) (q x : Nat) {u : Value} (hu : u = .int .i64 x) : IRow (w.setCell ⟨g, q, none⟩ u) base g n (l.set q x) := by
  subst hu
  have := (World.ownsRow.stored h q (.int .i64 x)).1
  unfold IRow jvs at *
  rw [List.map_set]
  exact this
theorem IRow.below {w : World} {base g n : Nat} {l : List Nat} (h : IRow w base g n l) {w' : World} (hb : Below w.heap.size w w') : IRow w' base g n l := by
  unfold IRow at *
  refine ⟨h.1, ?_⟩
  rcases h.2 with h | ⟨g', cap, cur, e, a1, a2, r⟩
  · exact .inl h
  · exact .inr ⟨g', cap, cur, e, a1, (hb.block g' (Array.getElem?_eq_some_iff.1 a2).1).trans a2, r⟩
theorem IRow.base {w : World} {base g n : Nat} {l : List Nat} (h : IRow w base g n l) : base ≤ g ∧ g < w.heap.size := World.ownsRow.lt h g rfl
theorem IRow.drew {w : World} {base g n : Nat} {l : List Nat} (h : IRow w base g n l) : IRow w.drew base g n l := h

theorem make_ints {ops : Array Oper} {rest : List Oper} {o : Oper} {a : Act} {Q : Exit → Act → World → Prop} {w : World} (hg : o.guard = none) (l c : Operand) (hop : o.op = Op.makeSlice 41 l c)
    {base : Nat} {kl kc : IntKind} {L C : Int} (n : Nat) (hl : a.eval l = .int kl L) (hc : a.eval c = .int kc C) (hL : L = (n : Int)) (hC : C = (n : Int)) (b2 : n ≤ 1000000) (b4 : base ≤ w.heap.size)
    (h : ∀ w', IRow w' base w.heap.size n (List.replicate n 0) → w.grownBy w' none → wpList Try.prog ops Q rest (a.put o.dst (.slice (some ⟨w.heap.size, 0, none⟩) n n)) w') : wpList Try.prog ops Q (o :: rest) a w := by
  obtain ⟨i0, hi, hz0, hz1, hz2⟩ := info_parts Try.infoJ
  refine wpList_make_full w hg l c 41 hop base 3 i0 _ 1 Try.underlying41 hi hz0 hz1 kl kc L C n hl hc hL hC (by rw [hz2]; omega) (by unfold maxLen; omega) b4 (fun w' r1 r2 => h w' ?_ r2)
  unfold IRow
  have e : (madeCells (Value.int .i64 0).cells (n * 1)).toList = jvs (List.replicate n 0) := by
    rw [Nat.mul_one]
    show (madeCells #[Value.int .i64 0] n).toList = _
    rw [toList_madeCells_one]; simp [jvs, jv]
  rw [← e]
  exact r1
end Go.Proofs.Ytafkimnpopbofaa
