/-
  A block of memory that is known whole: arrays by value, loaded, stored and written into.
-/
import Derived.Test.YtdnmgemjhpkekaaGreatBase
import Derived.Deep.MidRow
import Derived.Laws.Tables
import Derived.Lib.SmallJoins
import Derived.StillTailTactics
namespace Go.Proofs.YtdnmgemjhpkekaaGreat
open Go.ChangeShapes Go.WideShapes Go.ChangeAt Go.RowKit
set_option linter.unusedVariables false

/-- Block g is, whole, the cells cs of type t. -/
def Arr (w : World) (t : TypeId) (g : Nat) (cs : List Value) : Prop := w.heap[g]? = some (.cells cs.toArray t (0, 0))
theorem Arr.lt {w : World} {t : TypeId} {g : Nat} {cs : List Value} (h : Arr w t g cs) : g < w.heap.size := (Array.getElem?_eq_some_iff.1 h).1
theorem Arr.cell {w : World} {t : TypeId} {g : Nat} {cs : List Value} (h : Arr w t g cs) (i : Nat) : w.cell? ⟨g, i, none⟩ = cs[i]? := by
  rw [cell_of_row w g i _ t (0, 0) h]; simp
theorem Arr.free {w : World} {t : TypeId} {g : Nat} {cs : List Value} (h : Arr w t g cs) (i : Nat) : w.frozen? ⟨g, i, none⟩ = false := by
  have h' : w.heap[g]? = some (.cells cs.toArray t (0, 0)) := h
  simp [World.frozen?, h']
theorem Arr.below {B : Nat} {w w' : World} {t : TypeId} {g : Nat} {cs : List Value} (h : Arr w t g cs) (hb : Below B w w') (hg : g < B) : Arr w' t g cs := (hb.block g hg).trans h
theorem Arr.later {w w' : World} {t : TypeId} {g : Nat} {cs : List Value} (h : Arr w t g cs) (hb : Below w.heap.size w w') : Arr w' t g cs := h.below hb h.lt
theorem Arr.alloc {w : World} {t : TypeId} {g : Nat} {cs : List Value} (h : Arr w t g cs) (o : Obj) : Arr (w.alloc o) t g cs := (Below.heap_alloc w o g h.lt).trans h
theorem Arr.new (w : World) (t : TypeId) (cs : Array Value) : Arr (w.alloc (.cells cs t)) t w.heap.size cs.toList := by
  show (w.heap.push _)[w.heap.size]? = _
  simp
theorem Arr.new' (w : World) (t : TypeId) (cs : Array Value) (l : List Value) (h : cs.toList = l) : Arr (w.alloc (.cells cs t)) t w.heap.size l := h ▸ Arr.new w t cs
theorem Arr.setCell {w : World} {t : TypeId} {g : Nat} {cs : List Value} (h : Arr w t g cs) {a : Addr} (ha : g ≠ a.block) (v : Value) : Arr (w.setCell a v) t g cs := (Below.heap_setCell w a v g ha).trans h
theorem Arr.set {w : World} {t : TypeId} {g : Nat} {cs : List Value} (h : Arr w t g cs) (i : Nat) (v : Value) : Arr (w.setCell ⟨g, i, none⟩ v) t g (cs.set i v) := by
  have h' : w.heap[g]? = some (.cells cs.toArray t (0, 0)) := h
  show (w.setCell ⟨g, i, none⟩ v).heap[g]? = _
  rw [setCell_eq_setRow w g i cs.toArray t (0, 0) v h', setRow_heap w g cs.toArray _ t _ h']
  congr 2
  apply Array.ext'
  simp
theorem Arr.row {w : World} {t : TypeId} {g : Nat} {cs : List Value} (h : Arr w t g cs) (cs' : List Value) : Arr (w.setRow g cs'.toArray) t g cs' := setRow_heap w g cs.toArray _ t _ h
theorem Arr.row_other {w : World} {t : TypeId} {g k : Nat} {cs : List Value} (h : Arr w t g cs) (hk : g ≠ k) (c : Array Value) : Arr (w.setRow k c) t g cs := by
  show (w.setRow k c).heap[g]? = _
  simp only [World.setRow, Array.getElem?_modify]
  rw [if_neg (fun e => hk e.symm)]
  exact h
theorem Arr.drew {w : World} {t : TypeId} {g : Nat} {cs : List Value} (h : Arr w t g cs) : Arr w.drew t g cs := h
theorem Arr.drewN {w : World} {t : TypeId} {g : Nat} {cs : List Value} (h : Arr w t g cs) (n : Nat) : Arr (w.drewN n) t g cs := h.below ((Joins.below_draws w.heap.size w n)) h.lt
theorem Arr.range {w : World} {t : TypeId} {g : Nat} {cs : List Value} (h : Arr w t g cs) : w.rangeAt g 0 cs := fun j v hv => by
  rw [Nat.zero_add, h.cell j, hv]
theorem below_row {B : Nat} {a w : World} (h : Below B a w) {g : Nat} (hg : B ≤ g) (c : Array Value) : Below B a (w.setRow g c) :=
  h.trans ⟨rfl, rfl, rfl, by simp [World.setRow], fun k hk => by
    simp only [World.setRow, Array.getElem?_modify]
    rw [if_neg (by omega)]⟩

theorem Arr.new2 (w : World) (o : Obj) (t : TypeId) (cs : Array Value) (l : List Value) (h : cs.toList = l) : Arr ((w.alloc o).alloc (.cells cs t)) t (w.heap.size + 1) l := by
  have := Arr.new' (w.alloc o) t cs l h
  rw [show (w.alloc o).heap.size = w.heap.size + 1 from by simp] at this
  exact this
theorem Arr.new3 (w : World) (o o2 : Obj) (t : TypeId) (cs : Array Value) (l : List Value) (h : cs.toList = l) : Arr (((w.alloc o).alloc o2).alloc (.cells cs t)) t (w.heap.size + 2) l := by
  have := Arr.new' ((w.alloc o).alloc o2) t cs l h
  rw [show ((w.alloc o).alloc o2).heap.size = w.heap.size + 2 from by simp] at this
  exact this
/-- An array value at an index, its elements one cell each. -/
theorem index_arr {P : Program} {t e : TypeId} {n : Nat} (hu : P.underlying t = some (.array n e)) {d : TypeDesc} (he : P.underlying e = some d) (hd : d.isRow = false) {ie : TypeInfo} (hi : P.info? e = some ie) (hs : ie.size = 1)
    (cs : List Value) (k : IntKind) (i : Nat) (hn : i < n) {v : Value} (hv : cs[i]? = some v) (w : World) : (Instr.index t (.agg cs.toArray) (.int k i)).run P w = .ok v w := by
  have ha : (isAgg e).run P w = .ok false w := by
    unfold isAgg
    rw [Sem.run_bind, run_underlying he w]
    cases d <;> simp_all [TypeDesc.isRow]
  have hz : (sizeOf e).run P w = .ok 1 w := by simp [sizeOf, typeInfo, hi, hs]
  have h0 : (0 : Int) ≤ i ∧ (i : Int) < n := by omega
  simp [Instr.index, asIntOf, Sem.run_bind, run_underlying hu w, hz, hn, part, ha, hv]

theorem quiet_left {P : Program} {f : FuncId} {args : Array Value} {w : World} {n : Nat} {v : Value}
    (h : Calls P f args (w.drewN n) fun e w' => e = .returned v ∧ w.drewN n = w') : Calls P f args (w.drewN n) fun e w'' => e = .returned v ∧ ∃ m, w'' = w.drewN m :=
  h.mono fun _ _ ⟨he, hm⟩ => ⟨he, n, hm.symm⟩

section
variable {P : Program} {ops : Array Oper} {rest : List Oper} {o : Oper} {a : Act} {Q : Exit → Act → World → Prop} {w : World}
/-- A region that draws its order, its reads and quiet calls ahead of its tail; the world behind the draw folded. -/
theorem region_tail {id : Nat} {l : List Oper} (n : Nat) (hm : P.follows .mixedOrders = true) (hB : Region.lexTailB .any l.toArray n = true)
    (h : wpStill P l.toArray w.drew (fun a' => wpList P l.toArray Q (l.drop n) a' w.drew) (l.take n) a) : (Code.region id l.toArray true).wp P Q a w := wp_region_still_tail n hm hB h
/-- In such a region a whole array is loaded, out of the middle of a block too. -/
theorem still_load {Q' : Act → Prop} (hgd : o.guard = none) (ty : TypeId) (x : Operand) (ho : o.op = .load ty x) (b off : Nat) (hx : a.eval x = .pointer (some ⟨b, off, none⟩)) (cs : List Value) (d : TypeDesc) (hc : w.rangeAt b off cs)
    (hu : P.underlying ty = some d) (hd : d.isRow = true) (hi : (P.info? ty).map (·.size) = some cs.length) (h : wpStill P ops w Q' rest (a.put o.dst (.agg cs.toArray))) : wpStill P ops w Q' (o :: rest) a := by
  refine wpStill_step (fun K hK => ?_)
  have hw : Region.wanted o (yielded ops a.tmps) = true := by simp [Region.wanted, hgd]
  rw [if_pos hw]
  unfold Oper.still execOp
  simp only [ho, hx, Instr.loadAt, Instr.sureAddr, Sem.run_bind, Sem.run_pure, Result.andThen_ok, run_loadVar_mid w b off ty cs d hc hu hd hi]
  exact ⟨rfl, hK _ h⟩
/-- The whole array is loaded. -/
theorem load_arr (hgd : o.guard = none) (ty : TypeId) (x : Operand) (ho : o.op = .load ty x) {g : Nat} {t : TypeId} {cs : List Value} (h : Arr w t g cs) (hx : a.eval x = .pointer (some ⟨g, 0, none⟩)) {d : TypeDesc}
    (hu : P.underlying ty = some d) (hd : d.isRow = true) (hi : (P.info? ty).map (·.size) = some cs.length)
    (hk : wpList P ops Q rest (a.put o.dst (.agg cs.toArray)) w) : wpList P ops Q (o :: rest) a w :=
  wpList_load_mid hgd ty x ho g 0 hx cs d h.range hu hd hi hk
/-- A whole array is stored. -/
theorem store_arr (hgd : o.guard = none) (ty : TypeId) (x y : Operand) (ho : o.op = .store ty x y) {g : Nat} {t : TypeId} {old cs : List Value} (h : Arr w t g old) (hx : a.eval x = .pointer (some ⟨g, 0, none⟩)) (hy : a.eval y = .agg cs.toArray)
    (hi : (P.info? ty).map (·.size) = some cs.length) (hold : old.length = cs.length) (h1 : ∀ v ∈ cs, v.oneCell' = true)
    (hk : wpList P ops Q rest (a.put o.dst undef) (w.setRow g cs.toArray)) : wpList P ops Q (o :: rest) a w :=
  wpList_store_row hgd ty x y ho g cs.toArray hx hy t old.toArray h (by simpa using hi) (by simpa using hold) (Array.all_eq_true_iff_forall_mem.2 (fun v hv => h1 v (by simpa using hv))) hk
end
/-- Two results, the first an array in a cell. -/
theorem results_cell_tmp {P : Program} {fn : Func} {p q : Tmp} {ty : TypeId} (h : fn.results = #[.cell p ty, .tmp q]) (tmps : Array Value) (w : World) (g : Nat) (t : TypeId) (cs : Array Value) (fr : Nat × Nat) (d : TypeDesc)
    (hp : tmps.getD p undef = .pointer (some ⟨g, 0, none⟩)) (hg : w.heap[g]? = some (.cells cs t fr))
    (hu : P.underlying ty = some d) (hd : (match d with | .struct _ | .array _ _ => true | _ => false) = true) (hi : (P.info? ty).map (·.size) = some cs.size) :
    (results fn tmps).run P w = .ok (.tuple #[.agg cs, tmps.getD q undef]) w := by
  have hp' : tmps[p]?.getD undef = .pointer (some ⟨g, 0, none⟩) := by simpa using hp
  simp [results, h, hp', asAddr, run_loadVar_row w g t ty cs fr d hg hu hd hi]
end Go.Proofs.YtdnmgemjhpkekaaGreat
