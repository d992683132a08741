/-
  The queue of lists: its methods behind an interface.
-/
import Derived.Test.YtebbbiikphfjcaaMgE
namespace Go.Proofs.Ytebbbiikphfjcaa
open Go.ChangeShapes Go.WideShapes Go.ChangeAt Go.RowKit
set_option linter.unusedVariables false
theorem m_push (g : Nat) (w : World) : (method 218 51 (.pointer (some ⟨g, 0, none⟩)) "Push").run Try.prog w = .ok (85, .pointer (some ⟨g, 0, none⟩)) w := by kernel_rfl
theorem m_pop (g : Nat) (w : World) : (method 218 51 (.pointer (some ⟨g, 0, none⟩)) "Pop").run Try.prog w = .ok (84, .pointer (some ⟨g, 0, none⟩)) w := by kernel_rfl
theorem m_len0 (g : Nat) (w : World) : (method 218 51 (.pointer (some ⟨g, 0, none⟩)) "Len").run Try.prog w = (loadVar 52 ⟨g, 0, none⟩ >>= fun v => pure (29, v)).run Try.prog w := by kernel_rfl
theorem m_less0 (g : Nat) (w : World) : (method 218 51 (.pointer (some ⟨g, 0, none⟩)) "Less").run Try.prog w = (loadVar 52 ⟨g, 0, none⟩ >>= fun v => pure (83, v)).run Try.prog w := by kernel_rfl
theorem m_swap0 (g : Nat) (w : World) : (method 218 51 (.pointer (some ⟨g, 0, none⟩)) "Swap").run Try.prog w = (loadVar 52 ⟨g, 0, none⟩ >>= fun v => pure (86, v)).run Try.prog w := by kernel_rfl
theorem ld_lists {g : Nat} {w : World} {v : Value} (hc : w.cell? ⟨g, 0, none⟩ = some v) : (loadVar 52 ⟨g, 0, none⟩).run Try.prog w = .ok v w := by
  simp [loadVar, isAgg, run_underlying Try.underlying52, hc]
theorem m_len {g : Nat} {w : World} {v : Value} (hc : w.cell? ⟨g, 0, none⟩ = some v) : (method 218 51 (.pointer (some ⟨g, 0, none⟩)) "Len").run Try.prog w = .ok (29, v) w := by
  rw [m_len0, Sem.run_bind, ld_lists hc]; rfl
theorem m_less {g : Nat} {w : World} {v : Value} (hc : w.cell? ⟨g, 0, none⟩ = some v) : (method 218 51 (.pointer (some ⟨g, 0, none⟩)) "Less").run Try.prog w = .ok (83, v) w := by
  rw [m_less0, Sem.run_bind, ld_lists hc]; rfl
theorem m_swap {g : Nat} {w : World} {v : Value} (hc : w.cell? ⟨g, 0, none⟩ = some v) : (method 218 51 (.pointer (some ⟨g, 0, none⟩)) "Swap").run Try.prog w = .ok (86, v) w := by
  rw [m_swap0, Sem.run_bind, ld_lists hc]; rfl
end Go.Proofs.Ytebbbiikphfjcaa
