/-
  What it is that a form's type is asked: the six that 'gather' knows.
-/
import Derived.Test.YtonlhimfaffbgaaQfGa1
namespace Go.Proofs.Ytonlhimfaffbgaa
open Go.RowKit
set_option linter.unusedVariables false
set_option linter.unusedSimpArgs false

theorem is_varForm (W : World) (v : Value) : (Instr.typeAssert (.iface 83 v) 71 83 true).run Try.prog W = .ok (.tuple #[v, .bool true]) W := by kernel_rfl
theorem no_varForm (W : World) (u : TypeId) (v : Value) (h : u ≠ 83) : (Instr.typeAssert (.iface u v) 71 83 true).run Try.prog W = .ok (.tuple #[.agg #[.string ⟨#[]⟩, .slice none 0 0], .bool false]) W := by
  have hz : (zeroValue 83).run Try.prog W = .ok (.agg #[.string ⟨#[]⟩, .slice none 0 0]) W := by kernel_rfl
  simp [Instr.typeAssert, run_underlying Try.underlying83, h, hz]
theorem is_fnForm (W : World) (v : Value) : (Instr.typeAssert (.iface 86 v) 71 86 true).run Try.prog W = .ok (.tuple #[v, .bool true]) W := by kernel_rfl
theorem no_fnForm (W : World) (u : TypeId) (v : Value) (h : u ≠ 86) : (Instr.typeAssert (.iface u v) 71 86 true).run Try.prog W = .ok (.tuple #[.agg #[.int .i64 0, .string ⟨#[]⟩, .int .i64 0, .int .i64 0, .slice none 0 0, .nilIface], .bool false]) W := by
  have hz : (zeroValue 86).run Try.prog W = .ok (.agg #[.int .i64 0, .string ⟨#[]⟩, .int .i64 0, .int .i64 0, .slice none 0 0, .nilIface]) W := by kernel_rfl
  simp [Instr.typeAssert, run_underlying Try.underlying86, h, hz]
theorem is_letForm (W : World) (v : Value) : (Instr.typeAssert (.iface 89 v) 71 89 true).run Try.prog W = .ok (.tuple #[v, .bool true]) W := by kernel_rfl
theorem no_letForm (W : World) (u : TypeId) (v : Value) (h : u ≠ 89) : (Instr.typeAssert (.iface u v) 71 89 true).run Try.prog W = .ok (.tuple #[.agg #[.string ⟨#[]⟩, .int .i64 0, .nilIface, .nilIface], .bool false]) W := by
  have hz : (zeroValue 89).run Try.prog W = .ok (.agg #[.string ⟨#[]⟩, .int .i64 0, .nilIface, .nilIface]) W := by kernel_rfl
  simp [Instr.typeAssert, run_underlying Try.underlying89, h, hz]
theorem is_fixForm (W : World) (v : Value) : (Instr.typeAssert (.iface 91 v) 71 91 true).run Try.prog W = .ok (.tuple #[v, .bool true]) W := by kernel_rfl
theorem no_fixForm (W : World) (u : TypeId) (v : Value) (h : u ≠ 91) : (Instr.typeAssert (.iface u v) 71 91 true).run Try.prog W = .ok (.tuple #[.agg #[.string ⟨#[]⟩, .int .i64 0, .int .i64 0, .int .i64 0, .slice none 0 0, .nilIface, .nilIface], .bool false]) W := by
  have hz : (zeroValue 91).run Try.prog W = .ok (.agg #[.string ⟨#[]⟩, .int .i64 0, .int .i64 0, .int .i64 0, .slice none 0 0, .nilIface, .nilIface]) W := by kernel_rfl
  simp [Instr.typeAssert, run_underlying Try.underlying91, h, hz]
theorem is_caseForm (W : World) (v : Value) : (Instr.typeAssert (.iface 93 v) 71 93 true).run Try.prog W = .ok (.tuple #[v, .bool true]) W := by kernel_rfl
theorem no_caseForm (W : World) (u : TypeId) (v : Value) (h : u ≠ 93) : (Instr.typeAssert (.iface u v) 71 93 true).run Try.prog W = .ok (.tuple #[.agg #[.string ⟨#[]⟩, .string ⟨#[]⟩, .nilIface, .nilIface, .nilIface], .bool false]) W := by
  have hz : (zeroValue 93).run Try.prog W = .ok (.agg #[.string ⟨#[]⟩, .string ⟨#[]⟩, .nilIface, .nilIface, .nilIface]) W := by kernel_rfl
  simp [Instr.typeAssert, run_underlying Try.underlying93, h, hz]
theorem is_tryForm (W : World) (v : Value) : (Instr.typeAssert (.iface 95 v) 71 95 true).run Try.prog W = .ok (.tuple #[v, .bool true]) W := by kernel_rfl
theorem no_tryForm (W : World) (u : TypeId) (v : Value) (h : u ≠ 95) : (Instr.typeAssert (.iface u v) 71 95 true).run Try.prog W = .ok (.tuple #[.agg #[.string ⟨#[]⟩, .nilIface, .nilIface], .bool false]) W := by
  have hz : (zeroValue 95).run Try.prog W = .ok (.agg #[.string ⟨#[]⟩, .nilIface, .nilIface]) W := by kernel_rfl
  simp [Instr.typeAssert, run_underlying Try.underlying95, h, hz]

end Go.Proofs.Ytonlhimfaffbgaa
