/-
  Equality of tuples under guards.
-/
import Derived.Test.YtebbbiikphfjcaaTuT
import Derived.Test.YtebbbiikphfjcaaTuL
import Derived.RegionTactic
import Derived.BigRegion
namespace Go.Proofs.Ytebbbiikphfjcaa
open Go.ChangeShapes Go.WideShapes Go.ChangeAt Go.RowKit
set_option linter.unusedVariables false

theorem eqW {ops : Array Oper} {rest : List Oper} {o : Oper} {a : Act} {Q : Exit → Act → World → Prop} {w : World} {x y : Operand} {u v : Tu} {r : Bool} {t : TypeId} (he : eqT u v = r) (hs : Region.wanted o (yielded ops a.tmps) = true ∧ o.op = .binOp .eql 34 x y t ∧ a.eval x = tuV u ∧ a.eval y = tuV v)
    (hk : wpList Try.prog ops Q rest (a.put o.dst (.bool r)) w) : wpList Try.prog ops Q (o :: rest) a w :=
  wpList_step fun K hK => by
    have hg : Try.prog.eqGuardType Try.prog.depth 34 = false := by kernel_rfl
    subst he
    rw [if_pos hs.1]
    unfold Oper.wp execOp
    simp only [hs.2.1, hs.2.2.1, hs.2.2.2, Sem.run_bind, run_eqGuard_agg (hm := hg), Result.andThen_ok, eqlT, Sem.run_pure]
    exact hK _ _ hk
theorem neW {ops : Array Oper} {rest : List Oper} {o : Oper} {a : Act} {Q : Exit → Act → World → Prop} {w : World} {x y : Operand} {u v : Tu} {r : Bool} {t : TypeId} (he : eqT u v = !r) (hs : Region.wanted o (yielded ops a.tmps) = true ∧ o.op = .binOp .neq 34 x y t ∧ a.eval x = tuV u ∧ a.eval y = tuV v)
    (hk : wpList Try.prog ops Q rest (a.put o.dst (.bool r)) w) : wpList Try.prog ops Q (o :: rest) a w :=
  wpList_step fun K hK => by
    have hg : Try.prog.eqGuardType Try.prog.depth 34 = false := by kernel_rfl
    rw [if_pos hs.1]
    unfold Oper.wp execOp
    simp only [hs.2.1, hs.2.2.1, hs.2.2.2, Sem.run_bind, run_eqGuard_agg (hm := hg), Result.andThen_ok, neqT, he, Bool.not_not, Sem.run_pure]
    exact hK _ _ hk
theorem loadX {ops : Array Oper} {rest : List Oper} {o : Oper} {a : Act} {Q : Exit → Act → World → Prop} {w : World} {g : Nat} {x : Operand} {k : TypeId} {t : Tu} (hA : Arr w k g (tc t)) (hs : Region.wanted o (yielded ops a.tmps) = true ∧ o.op = .load 34 x ∧ a.eval x = .pointer (some ⟨g, 0, none⟩))
    (hk : wpList Try.prog ops Q rest (a.put o.dst (.agg #[.string t.ot, .string t.oi, .string t.re, .string t.st, .string t.si, .string t.us])) w) : wpList Try.prog ops Q (o :: rest) a w := loadT hA hs hk
theorem sorted_two (t : Tu) : sortedT [t, t] = [t] := by
  have h : Ris [t] := List.pairwise_singleton _ _
  refine ris_ext (sorted_ris _) h fun x => ?_
  rw [sorted_mem]; simp
theorem TuSl.one {w : World} {v : Value} {t : Tu} (h : TuSl w v [t]) : ∃ b off c, v = .slice (some ⟨b, off, none⟩) 1 c := by
  rcases h with ⟨_, h⟩ | ⟨b, off, c, rfl, _⟩
  · cases h
  · exact ⟨b, off, c, rfl⟩
end Go.Proofs.Ytebbbiikphfjcaa
