/-
  Tuples as values: cells, fields, equality; blocks that hold a tuple.
-/
import Derived.Test.YtebbbiikphfjcaaTuA
import Derived.Test.YtebbbiikphfjcaaArr
import Derived.Deep.Fields
namespace Go.Proofs.Ytebbbiikphfjcaa
open Go.ChangeShapes Go.WideShapes Go.ChangeAt Go.RowKit
set_option linter.unusedVariables false

def tc (t : Tu) : List Value := [.string t.ot, .string t.oi, .string t.re, .string t.st, .string t.si, .string t.us]
abbrev tuV (t : Tu) : Value := .agg (tc t).toArray
theorem tc_length (t : Tu) : (tc t).length = 6 := rfl
theorem tc_one (t : Tu) : ∀ u ∈ tc t, u.oneCell' = true := by
  intro u hu
  simp only [tc, List.mem_cons, List.not_mem_nil, or_false] at hu
  rcases hu with rfl | rfl | rfl | rfl | rfl | rfl <;> rfl
theorem strEq (a b : ByteArray) : (a.toList == b.toList) = decide (a = b) := by
  by_cases h : a = b
  · rw [seq_t h]; simp [h]
  · rw [seq_f h]; simp [h]
theorem sizeO (w : World) : (sizeOf 32).run Try.prog w = .ok 2 w := by kernel_rfl
theorem partO0 (t : Tu) (w : World) : (part 32 (tc t).toArray 0).run Try.prog w = .ok (.agg #[.string t.ot, .string t.oi]) w := by
  simp [part, isAgg, run_underlying Try.underlying32, tc]
theorem partO3 (t : Tu) (w : World) : (part 32 (tc t).toArray 3).run Try.prog w = .ok (.agg #[.string t.st, .string t.si]) w := by
  simp [part, isAgg, run_underlying Try.underlying32, tc]
theorem partS2 (t : Tu) (w : World) : (part 9 (tc t).toArray 2).run Try.prog w = .ok (.string t.re) w := by
  simp [part, isAgg, run_underlying Try.underlying9, tc]
theorem partS5 (t : Tu) (w : World) : (part 9 (tc t).toArray 5).run Try.prog w = .ok (.string t.us) w := by
  simp [part, isAgg, run_underlying Try.underlying9, tc]
theorem equalO (d : Nat) (a b c e : ByteArray) (w : World) :
    (Op.equalIn (d + 2) 32 (.agg #[.string a, .string b]) (.agg #[.string c, .string e])).run Try.prog w = .ok (decide (a = c) && decide (b = e)) w := by
  rw [run_equalIn_struct w (d + 1) _ _ _ (by kernel_rfl) (by kernel_rfl)]
  have p0 : ∀ (x y : ByteArray), (part 9 #[.string x, .string y] 0).run Try.prog w = .ok (.string x) w := fun x y => by simp [part, isAgg, run_underlying Try.underlying9]
  have p1 : ∀ (x y : ByteArray), (part 9 #[.string x, .string y] 1).run Try.prog w = .ok (.string y) w := fun x y => by simp [part, isAgg, run_underlying Try.underlying9]
  have h0 := run_equalIn_string (P := Try.prog) w d 9 a c Try.underlying9
  have h1 := run_equalIn_string (P := Try.prog) w d 9 b e Try.underlying9
  rw [strEq] at h0 h1
  simp only [Program.fieldsOf, Try.underlying32, Op.eqFields, Sem.run_bind, p0, p1, Result.andThen_ok, h0, h1, Sem.run_ite, Sem.run_pure, ne_eq]
  cases hv : decide (a = c) <;> cases hr : decide (b = e) <;> simp
theorem eqT_parts (a b : Tu) : eqT a b = ((decide (a.ot = b.ot) && decide (a.oi = b.oi)) && (decide (a.re = b.re) && ((decide (a.st = b.st) && decide (a.si = b.si)) && decide (a.us = b.us)))) := by
  unfold eqT
  cases decide (a.ot = b.ot) <;> cases decide (a.oi = b.oi) <;> cases decide (a.re = b.re) <;> cases decide (a.st = b.st) <;> cases decide (a.si = b.si) <;> cases decide (a.us = b.us) <;> rfl
theorem equalT (d : Nat) (a b : Tu) (w : World) : (Op.equalIn (d + 3) 34 (.agg (tc a).toArray) (.agg (tc b).toArray)).run Try.prog w = .ok (eqT a b) w := by
  rw [run_equalIn_struct w (d + 2) _ _ _ (by kernel_rfl) (by kernel_rfl)]
  have h0 := equalO d a.ot a.oi b.ot b.oi w
  have h3 := equalO d a.st a.si b.st b.si w
  have h2 := run_equalIn_string (P := Try.prog) w (d + 1) 9 a.re b.re Try.underlying9
  have h5 := run_equalIn_string (P := Try.prog) w (d + 1) 9 a.us b.us Try.underlying9
  rw [strEq] at h2 h5
  rw [eqT_parts]
  simp only [Program.fieldsOf, Try.underlying34, Op.eqFields, Sem.run_bind, partO0, partO3, partS2, partS5, Result.andThen_ok, h0, h2, h3, h5, Sem.run_ite, Sem.run_pure, ne_eq]
  cases (decide (a.ot = b.ot) && decide (a.oi = b.oi)) <;> cases decide (a.re = b.re) <;> cases (decide (a.st = b.st) && decide (a.si = b.si)) <;> cases decide (a.us = b.us) <;> simp
theorem eqlT (a b : Tu) (w : World) : (binOp .eql 34 (tuV a) (tuV b)).run Try.prog w = .ok (.bool (eqT a b)) w := by
  rw [run_eql_struct, equalT 9997]; rfl
theorem neqT (a b : Tu) (w : World) : (binOp .neq 34 (tuV a) (tuV b)).run Try.prog w = .ok (.bool (!eqT a b)) w := by
  rw [run_neq_struct, equalT 9997]; rfl
theorem fT0 (t : Tu) (w : World) : (Instr.field 34 (tuV t) 0).run Try.prog w = .ok (.agg #[.string t.ot, .string t.oi]) w := by
  simp [Instr.field, run_underlying Try.underlying34, asAgg, partO0]
theorem fT1 (t : Tu) (w : World) : (Instr.field 34 (tuV t) 1).run Try.prog w = .ok (.string t.re) w := by
  simp [Instr.field, run_underlying Try.underlying34, asAgg, partS2]
theorem fT2 (t : Tu) (w : World) : (Instr.field 34 (tuV t) 2).run Try.prog w = .ok (.agg #[.string t.st, .string t.si]) w := by
  simp [Instr.field, run_underlying Try.underlying34, asAgg, partO3]
theorem fT3 (t : Tu) (w : World) : (Instr.field 34 (tuV t) 3).run Try.prog w = .ok (.string t.us) w := by
  simp [Instr.field, run_underlying Try.underlying34, asAgg, partS5]
/-- Block g holds, whole, the tuple t. -/
abbrev TuAt (w : World) (g : Nat) (t : Tu) : Prop := Arr w 34 g (tc t)
theorem TuAt.cells {w : World} {g : Nat} {t : Tu} (h : TuAt w g t) : w.cell? ⟨g, 0, none⟩ = some (.string t.ot) ∧ w.cell? ⟨g, 1, none⟩ = some (.string t.oi) ∧ w.cell? ⟨g, 2, none⟩ = some (.string t.re) ∧ w.cell? ⟨g, 3, none⟩ = some (.string t.st) ∧ w.cell? ⟨g, 4, none⟩ = some (.string t.si) ∧ w.cell? ⟨g, 5, none⟩ = some (.string t.us) :=
  ⟨Arr.cell h 0, Arr.cell h 1, Arr.cell h 2, Arr.cell h 3, Arr.cell h 4, Arr.cell h 5⟩
theorem tu_new (w : World) (t : Tu) : TuAt (w.alloc (.cells (tc t).toArray 34)) w.heap.size t := Arr.new' w _ _ _ rfl
section
variable {ops : Array Oper} {rest : List Oper} {o : Oper} {a : Act} {Q : Exit → Act → World → Prop} {w : World} {g : Nat} {x y : Operand}
/-- A tuple is loaded, and stored; the first also under a guard that is met. -/
theorem loadT {t : TypeId} {u : Tu} (hA : Arr w t g (tc u)) (hs : Region.wanted o (yielded ops a.tmps) = true ∧ o.op = .load 34 x ∧ a.eval x = .pointer (some ⟨g, 0, none⟩))
    (hk : wpList Try.prog ops Q rest (a.put o.dst (tuV u)) w) : wpList Try.prog ops Q (o :: rest) a w :=
  wpList_step fun K hK => by
    rw [if_pos hs.1]
    exact wp_load_mid _ x hs.2.1 g 0 hs.2.2 _ _ hA.range Try.underlying34 rfl (by kernel_rfl) (hK _ _ hk)
theorem storeT {t : TypeId} {u u' : Tu} (hA : Arr w t g (tc u')) (hs : o.guard = none ∧ o.op = .store 34 x y ∧ a.eval x = .pointer (some ⟨g, 0, none⟩) ∧ a.eval y = tuV u)
    (hk : ∀ w', w' = w.setRow g (tc u).toArray → wpList Try.prog ops Q rest (a.put o.dst undef) w') : wpList Try.prog ops Q (o :: rest) a w :=
  store_arr hs.1 _ x y hs.2.1 hA hs.2.2.1 hs.2.2.2 (by kernel_rfl) rfl (tc_one u) (hk _ rfl)
end
end Go.Proofs.Ytebbbiikphfjcaa
