/-
  What it is that a form's type is asked: all seventeen.
-/
import Derived.Test.YtgljlgiebmnekaaDoorQtIo2
namespace Go.Proofs.YtgljlgiebmnekaaDoor
open Go.RowKit
set_option linter.unusedVariables false
set_option linter.unusedSimpArgs false

theorem is_numForm (W : World) (v : Value) : (Instr.typeAssert (.iface 77 v) 50 77 true).run Tryd.prog W = .ok (.tuple #[v, .bool true]) W := by kernel_rfl
theorem no_numForm (W : World) (u : TypeId) (v : Value) (h : u ≠ 77) : (Instr.typeAssert (.iface u v) 50 77 true).run Tryd.prog W = .ok (.tuple #[.agg #[.int .i64 0], .bool false]) W := by
  have hz : (zeroValue 77).run Tryd.prog W = .ok (.agg #[.int .i64 0]) W := by kernel_rfl
  simp [Instr.typeAssert, run_underlying Tryd.underlying77, h, hz]
theorem is_boolForm (W : World) (v : Value) : (Instr.typeAssert (.iface 78 v) 50 78 true).run Tryd.prog W = .ok (.tuple #[v, .bool true]) W := by kernel_rfl
theorem no_boolForm (W : World) (u : TypeId) (v : Value) (h : u ≠ 78) : (Instr.typeAssert (.iface u v) 50 78 true).run Tryd.prog W = .ok (.tuple #[.agg #[.int .i64 0], .bool false]) W := by
  have hz : (zeroValue 78).run Tryd.prog W = .ok (.agg #[.int .i64 0]) W := by kernel_rfl
  simp [Instr.typeAssert, run_underlying Tryd.underlying78, h, hz]
theorem is_varForm (W : World) (v : Value) : (Instr.typeAssert (.iface 80 v) 50 80 true).run Tryd.prog W = .ok (.tuple #[v, .bool true]) W := by kernel_rfl
theorem no_varForm (W : World) (u : TypeId) (v : Value) (h : u ≠ 80) : (Instr.typeAssert (.iface u v) 50 80 true).run Tryd.prog W = .ok (.tuple #[.agg #[.string ⟨#[]⟩, .slice none 0 0], .bool false]) W := by
  have hz : (zeroValue 80).run Tryd.prog W = .ok (.agg #[.string ⟨#[]⟩, .slice none 0 0]) W := by kernel_rfl
  simp [Instr.typeAssert, run_underlying Tryd.underlying80, h, hz]
theorem is_fnForm (W : World) (v : Value) : (Instr.typeAssert (.iface 83 v) 50 83 true).run Tryd.prog W = .ok (.tuple #[v, .bool true]) W := by kernel_rfl
theorem no_fnForm (W : World) (u : TypeId) (v : Value) (h : u ≠ 83) : (Instr.typeAssert (.iface u v) 50 83 true).run Tryd.prog W = .ok (.tuple #[.agg #[.int .i64 0, .string ⟨#[]⟩, .int .i64 0, .int .i64 0, .slice none 0 0, .nilIface], .bool false]) W := by
  have hz : (zeroValue 83).run Tryd.prog W = .ok (.agg #[.int .i64 0, .string ⟨#[]⟩, .int .i64 0, .int .i64 0, .slice none 0 0, .nilIface]) W := by kernel_rfl
  simp [Instr.typeAssert, run_underlying Tryd.underlying83, h, hz]
theorem is_appForm (W : World) (v : Value) : (Instr.typeAssert (.iface 85 v) 50 85 true).run Tryd.prog W = .ok (.tuple #[v, .bool true]) W := by kernel_rfl
theorem no_appForm (W : World) (u : TypeId) (v : Value) (h : u ≠ 85) : (Instr.typeAssert (.iface u v) 50 85 true).run Tryd.prog W = .ok (.tuple #[.agg #[.int .i64 0, .nilIface, .nilIface], .bool false]) W := by
  have hz : (zeroValue 85).run Tryd.prog W = .ok (.agg #[.int .i64 0, .nilIface, .nilIface]) W := by kernel_rfl
  simp [Instr.typeAssert, run_underlying Tryd.underlying85, h, hz]
theorem is_letForm (W : World) (v : Value) : (Instr.typeAssert (.iface 87 v) 50 87 true).run Tryd.prog W = .ok (.tuple #[v, .bool true]) W := by kernel_rfl
theorem no_letForm (W : World) (u : TypeId) (v : Value) (h : u ≠ 87) : (Instr.typeAssert (.iface u v) 50 87 true).run Tryd.prog W = .ok (.tuple #[.agg #[.string ⟨#[]⟩, .int .i64 0, .nilIface, .nilIface], .bool false]) W := by
  have hz : (zeroValue 87).run Tryd.prog W = .ok (.agg #[.string ⟨#[]⟩, .int .i64 0, .nilIface, .nilIface]) W := by kernel_rfl
  simp [Instr.typeAssert, run_underlying Tryd.underlying87, h, hz]
theorem is_fixForm (W : World) (v : Value) : (Instr.typeAssert (.iface 89 v) 50 89 true).run Tryd.prog W = .ok (.tuple #[v, .bool true]) W := by kernel_rfl
theorem no_fixForm (W : World) (u : TypeId) (v : Value) (h : u ≠ 89) : (Instr.typeAssert (.iface u v) 50 89 true).run Tryd.prog W = .ok (.tuple #[.agg #[.string ⟨#[]⟩, .int .i64 0, .int .i64 0, .int .i64 0, .slice none 0 0, .nilIface, .nilIface], .bool false]) W := by
  have hz : (zeroValue 89).run Tryd.prog W = .ok (.agg #[.string ⟨#[]⟩, .int .i64 0, .int .i64 0, .int .i64 0, .slice none 0 0, .nilIface, .nilIface]) W := by kernel_rfl
  simp [Instr.typeAssert, run_underlying Tryd.underlying89, h, hz]
theorem is_ifForm (W : World) (v : Value) : (Instr.typeAssert (.iface 91 v) 50 91 true).run Tryd.prog W = .ok (.tuple #[v, .bool true]) W := by kernel_rfl
theorem no_ifForm (W : World) (u : TypeId) (v : Value) (h : u ≠ 91) : (Instr.typeAssert (.iface u v) 50 91 true).run Tryd.prog W = .ok (.tuple #[.agg #[.nilIface, .nilIface, .nilIface], .bool false]) W := by
  have hz : (zeroValue 91).run Tryd.prog W = .ok (.agg #[.nilIface, .nilIface, .nilIface]) W := by kernel_rfl
  simp [Instr.typeAssert, run_underlying Tryd.underlying91, h, hz]
theorem is_pairForm (W : World) (v : Value) : (Instr.typeAssert (.iface 93 v) 50 93 true).run Tryd.prog W = .ok (.tuple #[v, .bool true]) W := by kernel_rfl
theorem no_pairForm (W : World) (u : TypeId) (v : Value) (h : u ≠ 93) : (Instr.typeAssert (.iface u v) 50 93 true).run Tryd.prog W = .ok (.tuple #[.agg #[.nilIface, .nilIface], .bool false]) W := by
  have hz : (zeroValue 93).run Tryd.prog W = .ok (.agg #[.nilIface, .nilIface]) W := by kernel_rfl
  simp [Instr.typeAssert, run_underlying Tryd.underlying93, h, hz]
theorem is_fstForm (W : World) (v : Value) : (Instr.typeAssert (.iface 95 v) 50 95 true).run Tryd.prog W = .ok (.tuple #[v, .bool true]) W := by kernel_rfl
theorem no_fstForm (W : World) (u : TypeId) (v : Value) (h : u ≠ 95) : (Instr.typeAssert (.iface u v) 50 95 true).run Tryd.prog W = .ok (.tuple #[.agg #[.nilIface], .bool false]) W := by
  have hz : (zeroValue 95).run Tryd.prog W = .ok (.agg #[.nilIface]) W := by kernel_rfl
  simp [Instr.typeAssert, run_underlying Tryd.underlying95, h, hz]
theorem is_sndForm (W : World) (v : Value) : (Instr.typeAssert (.iface 96 v) 50 96 true).run Tryd.prog W = .ok (.tuple #[v, .bool true]) W := by kernel_rfl
theorem no_sndForm (W : World) (u : TypeId) (v : Value) (h : u ≠ 96) : (Instr.typeAssert (.iface u v) 50 96 true).run Tryd.prog W = .ok (.tuple #[.agg #[.nilIface], .bool false]) W := by
  have hz : (zeroValue 96).run Tryd.prog W = .ok (.agg #[.nilIface]) W := by kernel_rfl
  simp [Instr.typeAssert, run_underlying Tryd.underlying96, h, hz]
theorem is_nilForm (W : World) (v : Value) : (Instr.typeAssert (.iface 98 v) 50 98 true).run Tryd.prog W = .ok (.tuple #[v, .bool true]) W := by kernel_rfl
theorem no_nilForm (W : World) (u : TypeId) (v : Value) (h : u ≠ 98) : (Instr.typeAssert (.iface u v) 50 98 true).run Tryd.prog W = .ok (.tuple #[.agg #[.int .i64 0, .int .i64 0, .slice none 0 0], .bool false]) W := by
  have hz : (zeroValue 98).run Tryd.prog W = .ok (.agg #[.int .i64 0, .int .i64 0, .slice none 0 0]) W := by kernel_rfl
  simp [Instr.typeAssert, run_underlying Tryd.underlying98, h, hz]
theorem is_consForm (W : World) (v : Value) : (Instr.typeAssert (.iface 100 v) 50 100 true).run Tryd.prog W = .ok (.tuple #[v, .bool true]) W := by kernel_rfl
theorem no_consForm (W : World) (u : TypeId) (v : Value) (h : u ≠ 100) : (Instr.typeAssert (.iface u v) 50 100 true).run Tryd.prog W = .ok (.tuple #[.agg #[.nilIface, .nilIface], .bool false]) W := by
  have hz : (zeroValue 100).run Tryd.prog W = .ok (.agg #[.nilIface, .nilIface]) W := by kernel_rfl
  simp [Instr.typeAssert, run_underlying Tryd.underlying100, h, hz]
theorem is_caseForm (W : World) (v : Value) : (Instr.typeAssert (.iface 102 v) 50 102 true).run Tryd.prog W = .ok (.tuple #[v, .bool true]) W := by kernel_rfl
theorem no_caseForm (W : World) (u : TypeId) (v : Value) (h : u ≠ 102) : (Instr.typeAssert (.iface u v) 50 102 true).run Tryd.prog W = .ok (.tuple #[.agg #[.string ⟨#[]⟩, .string ⟨#[]⟩, .nilIface, .nilIface, .nilIface], .bool false]) W := by
  have hz : (zeroValue 102).run Tryd.prog W = .ok (.agg #[.string ⟨#[]⟩, .string ⟨#[]⟩, .nilIface, .nilIface, .nilIface]) W := by kernel_rfl
  simp [Instr.typeAssert, run_underlying Tryd.underlying102, h, hz]
theorem is_opForm (W : World) (v : Value) : (Instr.typeAssert (.iface 104 v) 50 104 true).run Tryd.prog W = .ok (.tuple #[v, .bool true]) W := by kernel_rfl
theorem no_opForm (W : World) (u : TypeId) (v : Value) (h : u ≠ 104) : (Instr.typeAssert (.iface u v) 50 104 true).run Tryd.prog W = .ok (.tuple #[.agg #[.int .i64 0, .nilIface, .nilIface], .bool false]) W := by
  have hz : (zeroValue 104).run Tryd.prog W = .ok (.agg #[.int .i64 0, .nilIface, .nilIface]) W := by kernel_rfl
  simp [Instr.typeAssert, run_underlying Tryd.underlying104, h, hz]
theorem is_raiseForm (W : World) (v : Value) : (Instr.typeAssert (.iface 106 v) 50 106 true).run Tryd.prog W = .ok (.tuple #[v, .bool true]) W := by kernel_rfl
theorem no_raiseForm (W : World) (u : TypeId) (v : Value) (h : u ≠ 106) : (Instr.typeAssert (.iface u v) 50 106 true).run Tryd.prog W = .ok (.tuple #[.agg #[.int .i64 0, .int .i64 0, .slice none 0 0, .nilIface], .bool false]) W := by
  have hz : (zeroValue 106).run Tryd.prog W = .ok (.agg #[.int .i64 0, .int .i64 0, .slice none 0 0, .nilIface]) W := by kernel_rfl
  simp [Instr.typeAssert, run_underlying Tryd.underlying106, h, hz]
theorem is_tryForm (W : World) (v : Value) : (Instr.typeAssert (.iface 108 v) 50 108 true).run Tryd.prog W = .ok (.tuple #[v, .bool true]) W := by kernel_rfl
theorem no_tryForm (W : World) (u : TypeId) (v : Value) (h : u ≠ 108) : (Instr.typeAssert (.iface u v) 50 108 true).run Tryd.prog W = .ok (.tuple #[.agg #[.string ⟨#[]⟩, .nilIface, .nilIface], .bool false]) W := by
  have hz : (zeroValue 108).run Tryd.prog W = .ok (.agg #[.string ⟨#[]⟩, .nilIface, .nilIface]) W := by kernel_rfl
  simp [Instr.typeAssert, run_underlying Tryd.underlying108, h, hz]

end Go.Proofs.YtgljlgiebmnekaaDoor
