/-
  Arrays by value at this program's types.
-/
import Derived.Test.YtlngicddojoogaaGreatDoorShaA
import Derived.Test.YtlngicddojoogaaGreatDoorShaMid
import Derived.Deep.WholeRow
namespace Go.Proofs.YtlngicddojoogaaGreatDoor
open Go.ChangeShapes Go.WideShapes Go.ChangeAt Go.RowKit
set_option linter.unusedVariables false

theorem bvs_oneCell (l : List UInt8) : ∀ v ∈ bvs l, v.oneCell' = true := by
  intro v hv; simp only [bvs, List.mem_map] at hv; obtain ⟨b, _, rfl⟩ := hv; rfl
theorem Tryz.infoW : (Tryz.prog.info? 96).map (fun i => (i.zero, i.size, i.bytes)) = some (some (.int .u32 0), 1, 4) := by kernel_rfl
theorem ixB (b : List UInt8) (i : Nat) (hi : i < 64) (hb : i < b.length) (w : World) : (Instr.index 106 (.agg (bvs b).toArray) (.int .i64 i)).run Tryz.prog w = .ok (.int .u8 (b.getD i 0).toNat) w := by
  obtain ⟨i0, h1, _, h2, _⟩ := info_parts Tryz.info5
  exact index_arr Tryz.underlying106 Tryz.underlying5 rfl h1 h2 _ _ i hi (bvs_getElem b i hb) w
theorem ixW (l : List UInt32) (i : Nat) (hi : i < 64) (hb : i < l.length) (w : World) : (Instr.index 103 (.agg (wvs l).toArray) (.int .i64 i)).run Tryz.prog w = .ok (.int .u32 (l.getD i 0).toNat) w := by
  obtain ⟨i0, h1, _, h2, _⟩ := info_parts Tryz.infoW
  exact index_arr Tryz.underlying103 Tryz.underlying96 rfl h1 h2 _ _ i hi (wvs_get l i hb) w
theorem ix8 (l : List UInt32) (i : Nat) (hi : i < 8) (hb : i < l.length) (w : World) : (Instr.index 97 (.agg (wvs l).toArray) (.int .i64 i)).run Tryz.prog w = .ok (.int .u32 (l.getD i 0).toNat) w := by
  obtain ⟨i0, h1, _, h2, _⟩ := info_parts Tryz.infoW
  exact index_arr Tryz.underlying97 Tryz.underlying96 rfl h1 h2 _ _ i hi (wvs_get l i hb) w

section
variable {ops : Array Oper} {rest : List Oper} {o : Oper} {a : Act} {Q : Exit → Act → World → Prop} {w : World} {t : TypeId} {g : Nat} {x y : Operand}
theorem load64b {l : List UInt8} (hA : Arr w t g (bvs l)) (hl : l.length = 64) (hs : o.guard = none ∧ o.op = .load 106 x ∧ a.eval x = .pointer (some ⟨g, 0, none⟩))
    (hk : wpList Tryz.prog ops Q rest (a.put o.dst (.agg (bvs l).toArray)) w) : wpList Tryz.prog ops Q (o :: rest) a w :=
  load_arr hs.1 _ _ hs.2.1 hA hs.2.2 Tryz.underlying106 rfl (by rw [bvs_length, hl]; kernel_rfl) hk
theorem load64w {l : List UInt32} (hA : Arr w t g (wvs l)) (hl : l.length = 64) (hs : o.guard = none ∧ o.op = .load 103 x ∧ a.eval x = .pointer (some ⟨g, 0, none⟩))
    (hk : wpList Tryz.prog ops Q rest (a.put o.dst (.agg (wvs l).toArray)) w) : wpList Tryz.prog ops Q (o :: rest) a w :=
  load_arr hs.1 _ _ hs.2.1 hA hs.2.2 Tryz.underlying103 rfl (by rw [wvs_length, hl]; kernel_rfl) hk
theorem load8w {l : List UInt32} (hA : Arr w t g (wvs l)) (hl : l.length = 8) (hs : o.guard = none ∧ o.op = .load 97 x ∧ a.eval x = .pointer (some ⟨g, 0, none⟩))
    (hk : wpList Tryz.prog ops Q rest (a.put o.dst (.agg (wvs l).toArray)) w) : wpList Tryz.prog ops Q (o :: rest) a w :=
  load_arr hs.1 _ _ hs.2.1 hA hs.2.2 Tryz.underlying97 rfl (by rw [wvs_length, hl]; kernel_rfl) hk
theorem load32b {l : List UInt8} (hA : Arr w t g (bvs l)) (hl : l.length = 32) (hs : o.guard = none ∧ o.op = .load 23 x ∧ a.eval x = .pointer (some ⟨g, 0, none⟩))
    (hk : wpList Tryz.prog ops Q rest (a.put o.dst (.agg (bvs l).toArray)) w) : wpList Tryz.prog ops Q (o :: rest) a w :=
  load_arr hs.1 _ _ hs.2.1 hA hs.2.2 Tryz.underlying23 rfl (by rw [bvs_length, hl]; kernel_rfl) hk
theorem still8w {Q' : Act → Prop} {l : List UInt32} (hA : Arr w t g (wvs l)) (hl : l.length = 8) (hs : o.guard = none ∧ o.op = .load 97 x ∧ a.eval x = .pointer (some ⟨g, 0, none⟩))
    (hk : wpStill Tryz.prog ops w Q' rest (a.put o.dst (.agg (wvs l).toArray))) : wpStill Tryz.prog ops w Q' (o :: rest) a :=
  still_load hs.1 _ _ hs.2.1 g 0 hs.2.2 (wvs l) _ hA.range Tryz.underlying97 rfl (by rw [wvs_length, hl]; kernel_rfl) hk
theorem still64w {Q' : Act → Prop} {l : List UInt32} (hA : Arr w t g (wvs l)) (hl : l.length = 64) (hs : o.guard = none ∧ o.op = .load 103 x ∧ a.eval x = .pointer (some ⟨g, 0, none⟩))
    (hk : wpStill Tryz.prog ops w Q' rest (a.put o.dst (.agg (wvs l).toArray))) : wpStill Tryz.prog ops w Q' (o :: rest) a :=
  still_load hs.1 _ _ hs.2.1 g 0 hs.2.2 (wvs l) _ hA.range Tryz.underlying103 rfl (by rw [wvs_length, hl]; kernel_rfl) hk
theorem range_bytes {off : Nat} {l : List UInt8} (h : ∀ i, i < l.length → w.cell? ⟨g, off + i, none⟩ = some (bv (l.getD i 0))) (n : Nat) (hn : n ≤ l.length) : w.rangeAt g off (bvs (l.take n)) := fun j v hv => by
  have hj : j < n := by
    have := (List.getElem?_eq_some_iff.1 hv).1; rw [bvs_length, List.length_take] at this; omega
  rw [bvs_getElem _ j (by rw [List.length_take]; omega)] at hv
  rw [h j (by omega), ← hv]
  congr 2
  simp [List.getD_eq_getElem?_getD, hj]
theorem still64b {Q' : Act → Prop} {off : Nat} {l : List UInt8} (hA : w.rangeAt g off (bvs l)) (hl : l.length = 64) (hs : o.guard = none ∧ o.op = .load 106 x ∧ a.eval x = .pointer (some ⟨g, off, none⟩))
    (hk : wpStill Tryz.prog ops w Q' rest (a.put o.dst (.agg (bvs l).toArray))) : wpStill Tryz.prog ops w Q' (o :: rest) a :=
  still_load hs.1 _ _ hs.2.1 g off hs.2.2 (bvs l) _ hA Tryz.underlying106 rfl (by rw [bvs_length, hl]; kernel_rfl) hk
theorem store64w {l : List UInt32} {old : List Value} (hA : Arr w t g old) (ho : old.length = 64) (hl : l.length = 64) (hs : o.guard = none ∧ o.op = .store 103 x y ∧ a.eval x = .pointer (some ⟨g, 0, none⟩) ∧ a.eval y = .agg (wvs l).toArray)
    (hk : ∀ w', w' = w.setRow g (wvs l).toArray → wpList Tryz.prog ops Q rest (a.put o.dst undef) w') : wpList Tryz.prog ops Q (o :: rest) a w :=
  store_arr hs.1 _ _ _ hs.2.1 hA hs.2.2.1 hs.2.2.2 (by rw [wvs_length, hl]; kernel_rfl) (by rw [ho, wvs_length, hl]) (wvs_one l) (hk _ rfl)
theorem new64w {l : List UInt32} {cs : Array Value} (hl : l.length = 64) (hs : o.guard = none ∧ o.op = .store 103 x y ∧ a.eval x = .pointer (some ⟨w.heap.size, 0, none⟩) ∧ a.eval y = .agg (wvs l).toArray ∧ cs.toList.length = 64)
    (hk : wpList Tryz.prog ops Q rest (a.put o.dst undef) (w.alloc (.cells (wvs l).toArray t))) : wpList Tryz.prog ops Q (o :: rest) a (w.alloc (.cells cs t)) :=
  store_arr hs.1 _ _ _ hs.2.1 (Arr.new w t cs) hs.2.2.1 hs.2.2.2.1 (by rw [wvs_length, hl]; kernel_rfl) (by rw [hs.2.2.2.2, wvs_length, hl]) (wvs_one l) (by rw [World.setRow_alloc_new]; exact hk)
theorem new8w {l : List UInt32} {cs : Array Value} (hl : l.length = 8) (hs : o.guard = none ∧ o.op = .store 97 x y ∧ a.eval x = .pointer (some ⟨w.heap.size, 0, none⟩) ∧ a.eval y = .agg (wvs l).toArray ∧ cs.toList.length = 8)
    (hk : wpList Tryz.prog ops Q rest (a.put o.dst undef) (w.alloc (.cells (wvs l).toArray t))) : wpList Tryz.prog ops Q (o :: rest) a (w.alloc (.cells cs t)) :=
  store_arr hs.1 _ _ _ hs.2.1 (Arr.new w t cs) hs.2.2.1 hs.2.2.2.1 (by rw [wvs_length, hl]; kernel_rfl) (by rw [hs.2.2.2.2, wvs_length, hl]) (wvs_one l) (by rw [World.setRow_alloc_new]; exact hk)
theorem new32b {l : List UInt8} {cs : Array Value} (hl : l.length = 32) (hs : o.guard = none ∧ o.op = .store 23 x y ∧ a.eval x = .pointer (some ⟨w.heap.size, 0, none⟩) ∧ a.eval y = .agg (bvs l).toArray ∧ cs.toList.length = 32)
    (hk : wpList Tryz.prog ops Q rest (a.put o.dst undef) (w.alloc (.cells (bvs l).toArray t))) : wpList Tryz.prog ops Q (o :: rest) a (w.alloc (.cells cs t)) :=
  store_arr hs.1 _ _ _ hs.2.1 (Arr.new w t cs) hs.2.2.1 hs.2.2.2.1 (by rw [bvs_length, hl]; kernel_rfl) (by rw [hs.2.2.2.2, bvs_length, hl]) (bvs_oneCell l) (by rw [World.setRow_alloc_new]; exact hk)
theorem store8w {l : List UInt32} {old : List Value} (hA : Arr w t g old) (ho : old.length = 8) (hl : l.length = 8) (hs : o.guard = none ∧ o.op = .store 97 x y ∧ a.eval x = .pointer (some ⟨g, 0, none⟩) ∧ a.eval y = .agg (wvs l).toArray)
    (hk : ∀ w', w' = w.setRow g (wvs l).toArray → wpList Tryz.prog ops Q rest (a.put o.dst undef) w') : wpList Tryz.prog ops Q (o :: rest) a w :=
  store_arr hs.1 _ _ _ hs.2.1 hA hs.2.2.1 hs.2.2.2 (by rw [wvs_length, hl]; kernel_rfl) (by rw [ho, wvs_length, hl]) (wvs_one l) (hk _ rfl)
theorem store32b {l : List UInt8} {old : List Value} (hA : Arr w t g old) (ho : old.length = 32) (hl : l.length = 32) (hs : o.guard = none ∧ o.op = .store 23 x y ∧ a.eval x = .pointer (some ⟨g, 0, none⟩) ∧ a.eval y = .agg (bvs l).toArray)
    (hk : ∀ w', w' = w.setRow g (bvs l).toArray → wpList Tryz.prog ops Q rest (a.put o.dst undef) w') : wpList Tryz.prog ops Q (o :: rest) a w :=
  store_arr hs.1 _ _ _ hs.2.1 hA hs.2.2.1 hs.2.2.2 (by rw [bvs_length, hl]; kernel_rfl) (by rw [ho, bvs_length, hl]) (bvs_oneCell l) (hk _ rfl)
end
/-- The result of a function that lies in a cell: an array of 8 words, of 64, of 32 bytes. -/
theorem res64w {fn : Func} {p : Tmp} {tmps : Array Value} {w : World} {g : Nat} {t : TypeId} {l : List UInt32} (h : fn.results = #[.cell p 103]) (hA : Arr w t g (wvs l)) (hl : l.length = 64) (hp : tmps.getD p undef = .pointer (some ⟨g, 0, none⟩)) :
    (results fn tmps).run Tryz.prog w = .ok (.agg (wvs l).toArray) w :=
  results_cell_row h tmps w g t (wvs l).toArray (0, 0) _ hp hA Tryz.underlying103 rfl (by rw [List.size_toArray, wvs_length, hl]; kernel_rfl)
theorem res8w {fn : Func} {p : Tmp} {tmps : Array Value} {w : World} {g : Nat} {t : TypeId} {l : List UInt32} (h : fn.results = #[.cell p 97]) (hA : Arr w t g (wvs l)) (hl : l.length = 8) (hp : tmps.getD p undef = .pointer (some ⟨g, 0, none⟩)) :
    (results fn tmps).run Tryz.prog w = .ok (.agg (wvs l).toArray) w :=
  results_cell_row h tmps w g t (wvs l).toArray (0, 0) _ hp hA Tryz.underlying97 rfl (by rw [List.size_toArray, wvs_length, hl]; kernel_rfl)
theorem res32b {fn : Func} {p : Tmp} {tmps : Array Value} {w : World} {g : Nat} {t : TypeId} {l : List UInt8} (h : fn.results = #[.cell p 23]) (hA : Arr w t g (bvs l)) (hl : l.length = 32) (hp : tmps.getD p undef = .pointer (some ⟨g, 0, none⟩)) :
    (results fn tmps).run Tryz.prog w = .ok (.agg (bvs l).toArray) w :=
  results_cell_row h tmps w g t (bvs l).toArray (0, 0) _ hp hA Tryz.underlying23 rfl (by rw [List.size_toArray, bvs_length, hl]; kernel_rfl)
theorem res8wt {fn : Func} {p q : Tmp} {tmps : Array Value} {w : World} {g : Nat} {t : TypeId} {l : List UInt32} (h : fn.results = #[.cell p 97, .tmp q]) (hA : Arr w t g (wvs l)) (hl : l.length = 8) (hp : tmps.getD p undef = .pointer (some ⟨g, 0, none⟩)) :
    (results fn tmps).run Tryz.prog w = .ok (.tuple #[.agg (wvs l).toArray, tmps.getD q undef]) w :=
  results_cell_tmp h tmps w g t (wvs l).toArray (0, 0) _ hp hA Tryz.underlying97 rfl (by rw [List.size_toArray, wvs_length, hl]; kernel_rfl)
end Go.Proofs.YtlngicddojoogaaGreatDoor
