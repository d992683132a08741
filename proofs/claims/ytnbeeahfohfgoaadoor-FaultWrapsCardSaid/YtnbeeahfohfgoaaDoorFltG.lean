/-
  errors.as over an error of a description, at a target of type *api.Fault.
-/
import Derived.Test.YtnbeeahfohfgoaaDoorFltF
import Derived.Test.YtnbeeahfohfgoaaDoorErrWalk
namespace Go.Proofs.YtnbeeahfohfgoaaDoor
open Go.ChangeShapes Go.WideShapes Go.ChangeAt Go.RowKit Go.Extern Go.Stop Go.Extern.Stop
set_option linter.unusedVariables false

theorem noAsW (v : Value) (x : TypeId) (w : World) : (Instr.typeAssert (.iface 52 v) x 86 true).run Tryd.prog w = .ok (.tuple #[.nilIface, .bool false]) w := run_typeAssert_lacksB Tryd.underlying86 (by kernel_rfl) (by kernel_rfl) v x w
theorem unwrapsW (v : Value) (x : TypeId) (w : World) : (Instr.typeAssert (.iface 52 v) x 53 true).run Tryd.prog w = .ok (.tuple #[.iface 52 v, .bool true]) w := by kernel_rfl
theorem typeOfW (v : Value) (w : World) : (ReflectliteType.typeOf #[.iface 52 v]).run Tryd.prog w = .ok (.iface 65 (.agg #[.pointer (some ⟨5, 52, none⟩)])) w := by kernel_rfl
theorem assignableWF (w : World) : (ReflectliteType.relation "AssignableTo" ReflectliteType.assignableTo #[.agg #[.pointer (some ⟨5, 52, none⟩)], .iface 65 (.agg #[.pointer (some ⟨5, 47, none⟩)])]).run Tryd.prog w = .ok (.bool false) w := by kernel_rfl
theorem assignableWC (w : World) : (ReflectliteType.relation "AssignableTo" ReflectliteType.assignableTo #[.agg #[.pointer (some ⟨5, 52, none⟩)], .iface 65 (.agg #[.pointer (some ⟨5, 30, none⟩)])]).run Tryd.prog w = .ok (.bool false) w := by kernel_rfl
theorem assignableCF (w : World) : (ReflectliteType.relation "AssignableTo" ReflectliteType.assignableTo #[.agg #[.pointer (some ⟨5, 30, none⟩)], .iface 65 (.agg #[.pointer (some ⟨5, 47, none⟩)])]).run Tryd.prog w = .ok (.bool false) w := by kernel_rfl
theorem noAsC (v : Value) (x : TypeId) (w : World) : (Instr.typeAssert (.iface 30 v) x 86 true).run Tryd.prog w = .ok (.tuple #[.nilIface, .bool false]) w := run_typeAssert_lacksB Tryd.underlying86 (by kernel_rfl) (by kernel_rfl) v x w
theorem noUnwrapC (v : Value) (x : TypeId) (w : World) : (Instr.typeAssert (.iface 30 v) x 53 true).run Tryd.prog w = .ok (.tuple #[.nilIface, .bool false]) w := run_typeAssert_lacksB Tryd.underlying53 (by kernel_rfl) (by kernel_rfl) v x w
theorem noUnwrapsC (v : Value) (x : TypeId) (w : World) : (Instr.typeAssert (.iface 30 v) x 70 true).run Tryd.prog w = .ok (.tuple #[.nilIface, .bool false]) w := run_typeAssert_lacksB Tryd.underlying70 (by kernel_rfl) (by kernel_rfl) v x w
end Go.Proofs.YtnbeeahfohfgoaaDoor
