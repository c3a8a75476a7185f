/-
  'strconv.Itoa' at every number, while the table of powers of ten lies untouched; rows of tokens that grow.
-/
import Derived.Test.YtjikcckggifinaaDoorTtZ3
import Derived.Test.YtjikcckggifinaaDoorTtTt
namespace Go.Proofs.YtjikcckggifinaaDoor
open Go.RowKit Go.Sort
set_option linter.unusedVariables false
set_option linter.unusedSimpArgs false

/-- New tokens behind those that are there. -/
theorem toks_more {base : Nat} {wr : World} {v : Value} {P : List (List UInt8)} (h : Toks base wr v P) (hb : base ≤ wr.heap.size) (N : List (List UInt8)) (hN : 0 < N.length) (hl : P.length + N.length ≤ 1048577) (M : Array Value) (hM : M.toList = N.map tk) :
    ∃ g cap w2, (Builtin.append_ #[47, 47] 47 #[v, .slice (some ⟨wr.heap.size, 0, none⟩) N.length N.length]).run Tryd.prog (wr.alloc (.cells M 9)) = .ok (.slice (some ⟨g, 0, none⟩) (P.length + N.length) cap) w2 ∧
      Toks base w2 (.slice (some ⟨g, 0, none⟩) (P.length + N.length) cap) (P ++ N) ∧ Below base wr w2 := by
  obtain ⟨i0, hi, hz0, hz1, hz2⟩ := info_parts Tryd.infoStr
  have hA : Below wr.heap.size wr (wr.alloc (.cells M 9)) := (Below.refl _ _).alloc (Nat.le_refl _) _
  have h1 : Toks base (wr.alloc (.cells M 9)) v P := toks_below h hA
  obtain ⟨g, cap, w2, hrun, hown2, hgrow, hat, hlt⟩ := run_append_lies (P := Tryd.prog) (wr.alloc (.cells M 9)) 47 47 base 9 i0 _ 1 16 Tryd.underlying47 hi hz0 hz1 hz2 rfl (by omega) v P.length _ h1
    ⟨wr.heap.size, 0, none⟩ N.length N.length (N.map tk) (by simp) (by rw [← hM]; exact World.news_of_block (cs := M) (t := 9) (fr := (0, 0)) (heap_alloc_new wr _)) (by intro u hu; obtain ⟨l, _, rfl⟩ := List.mem_map.1 hu; rfl)
    hN (by unfold maxLen; omega) (by omega) (by simp; omega) _ rfl
  have hvb : ∀ g, v.ownBlock = some g → base ≤ g := by
    intro g hg
    rcases h.2 with ⟨rfl, _⟩ | ⟨g', cap, cur, rfl, hb', _⟩
    · cases hg
    · have e : g' = g := by simpa [Value.ownBlock] using hg
      subst e; exact hb'
  have hsz := hgrow.size
  simp only [World.size_alloc] at hsz
  refine ⟨g, cap, w2, hrun, ?_, ⟨hgrow.os, hgrow.tape, hgrow.output, by omega, fun q hq => ?_⟩⟩
  · unfold Toks
    rw [List.length_append, List.map_append]
    exact hown2
  · exact (hgrow.block q (by simp; omega) (fun e => by have := hvb q e.symm; omega)).trans (hA.block q (by omega))

theorem tk_sb (s : ByteArray) : tk s.data.toList = .string s := by cases s; simp [tk]

end Go.Proofs.YtjikcckggifinaaDoor

/-
  What it is that a form's type is asked: all seventeen.
-/
namespace Go.Proofs.YtjikcckggifinaaDoor
open Go.RowKit
set_option linter.unusedVariables false
set_option linter.unusedSimpArgs false

theorem is_numForm (W : World) (v : Value) : (Instr.typeAssert (.iface 76 v) 50 76 true).run Tryd.prog W = .ok (.tuple #[v, .bool true]) W := by kernel_rfl
theorem no_numForm (W : World) (u : TypeId) (v : Value) (h : u ≠ 76) : (Instr.typeAssert (.iface u v) 50 76 true).run Tryd.prog W = .ok (.tuple #[.agg #[.int .i64 0], .bool false]) W := by
  have hz : (zeroValue 76).run Tryd.prog W = .ok (.agg #[.int .i64 0]) W := by kernel_rfl
  simp [Instr.typeAssert, run_underlying Tryd.underlying76, h, hz]
theorem is_boolForm (W : World) (v : Value) : (Instr.typeAssert (.iface 77 v) 50 77 true).run Tryd.prog W = .ok (.tuple #[v, .bool true]) W := by kernel_rfl
theorem no_boolForm (W : World) (u : TypeId) (v : Value) (h : u ≠ 77) : (Instr.typeAssert (.iface u v) 50 77 true).run Tryd.prog W = .ok (.tuple #[.agg #[.int .i64 0], .bool false]) W := by
  have hz : (zeroValue 77).run Tryd.prog W = .ok (.agg #[.int .i64 0]) W := by kernel_rfl
  simp [Instr.typeAssert, run_underlying Tryd.underlying77, h, hz]
theorem is_varForm (W : World) (v : Value) : (Instr.typeAssert (.iface 79 v) 50 79 true).run Tryd.prog W = .ok (.tuple #[v, .bool true]) W := by kernel_rfl
theorem no_varForm (W : World) (u : TypeId) (v : Value) (h : u ≠ 79) : (Instr.typeAssert (.iface u v) 50 79 true).run Tryd.prog W = .ok (.tuple #[.agg #[.string ⟨#[]⟩, .slice none 0 0], .bool false]) W := by
  have hz : (zeroValue 79).run Tryd.prog W = .ok (.agg #[.string ⟨#[]⟩, .slice none 0 0]) W := by kernel_rfl
  simp [Instr.typeAssert, run_underlying Tryd.underlying79, h, hz]
theorem is_fnForm (W : World) (v : Value) : (Instr.typeAssert (.iface 82 v) 50 82 true).run Tryd.prog W = .ok (.tuple #[v, .bool true]) W := by kernel_rfl
theorem no_fnForm (W : World) (u : TypeId) (v : Value) (h : u ≠ 82) : (Instr.typeAssert (.iface u v) 50 82 true).run Tryd.prog W = .ok (.tuple #[.agg #[.int .i64 0, .string ⟨#[]⟩, .int .i64 0, .int .i64 0, .slice none 0 0, .nilIface], .bool false]) W := by
  have hz : (zeroValue 82).run Tryd.prog W = .ok (.agg #[.int .i64 0, .string ⟨#[]⟩, .int .i64 0, .int .i64 0, .slice none 0 0, .nilIface]) W := by kernel_rfl
  simp [Instr.typeAssert, run_underlying Tryd.underlying82, h, hz]
theorem is_appForm (W : World) (v : Value) : (Instr.typeAssert (.iface 84 v) 50 84 true).run Tryd.prog W = .ok (.tuple #[v, .bool true]) W := by kernel_rfl
theorem no_appForm (W : World) (u : TypeId) (v : Value) (h : u ≠ 84) : (Instr.typeAssert (.iface u v) 50 84 true).run Tryd.prog W = .ok (.tuple #[.agg #[.int .i64 0, .nilIface, .nilIface], .bool false]) W := by
  have hz : (zeroValue 84).run Tryd.prog W = .ok (.agg #[.int .i64 0, .nilIface, .nilIface]) W := by kernel_rfl
  simp [Instr.typeAssert, run_underlying Tryd.underlying84, h, hz]
theorem is_letForm (W : World) (v : Value) : (Instr.typeAssert (.iface 86 v) 50 86 true).run Tryd.prog W = .ok (.tuple #[v, .bool true]) W := by kernel_rfl
theorem no_letForm (W : World) (u : TypeId) (v : Value) (h : u ≠ 86) : (Instr.typeAssert (.iface u v) 50 86 true).run Tryd.prog W = .ok (.tuple #[.agg #[.string ⟨#[]⟩, .int .i64 0, .nilIface, .nilIface], .bool false]) W := by
  have hz : (zeroValue 86).run Tryd.prog W = .ok (.agg #[.string ⟨#[]⟩, .int .i64 0, .nilIface, .nilIface]) W := by kernel_rfl
  simp [Instr.typeAssert, run_underlying Tryd.underlying86, h, hz]
theorem is_fixForm (W : World) (v : Value) : (Instr.typeAssert (.iface 88 v) 50 88 true).run Tryd.prog W = .ok (.tuple #[v, .bool true]) W := by kernel_rfl
theorem no_fixForm (W : World) (u : TypeId) (v : Value) (h : u ≠ 88) : (Instr.typeAssert (.iface u v) 50 88 true).run Tryd.prog W = .ok (.tuple #[.agg #[.string ⟨#[]⟩, .int .i64 0, .int .i64 0, .int .i64 0, .slice none 0 0, .nilIface, .nilIface], .bool false]) W := by
  have hz : (zeroValue 88).run Tryd.prog W = .ok (.agg #[.string ⟨#[]⟩, .int .i64 0, .int .i64 0, .int .i64 0, .slice none 0 0, .nilIface, .nilIface]) W := by kernel_rfl
  simp [Instr.typeAssert, run_underlying Tryd.underlying88, h, hz]
theorem is_ifForm (W : World) (v : Value) : (Instr.typeAssert (.iface 90 v) 50 90 true).run Tryd.prog W = .ok (.tuple #[v, .bool true]) W := by kernel_rfl
theorem no_ifForm (W : World) (u : TypeId) (v : Value) (h : u ≠ 90) : (Instr.typeAssert (.iface u v) 50 90 true).run Tryd.prog W = .ok (.tuple #[.agg #[.nilIface, .nilIface, .nilIface], .bool false]) W := by
  have hz : (zeroValue 90).run Tryd.prog W = .ok (.agg #[.nilIface, .nilIface, .nilIface]) W := by kernel_rfl
  simp [Instr.typeAssert, run_underlying Tryd.underlying90, h, hz]
theorem is_pairForm (W : World) (v : Value) : (Instr.typeAssert (.iface 92 v) 50 92 true).run Tryd.prog W = .ok (.tuple #[v, .bool true]) W := by kernel_rfl
theorem no_pairForm (W : World) (u : TypeId) (v : Value) (h : u ≠ 92) : (Instr.typeAssert (.iface u v) 50 92 true).run Tryd.prog W = .ok (.tuple #[.agg #[.nilIface, .nilIface], .bool false]) W := by
  have hz : (zeroValue 92).run Tryd.prog W = .ok (.agg #[.nilIface, .nilIface]) W := by kernel_rfl
  simp [Instr.typeAssert, run_underlying Tryd.underlying92, h, hz]
theorem is_fstForm (W : World) (v : Value) : (Instr.typeAssert (.iface 94 v) 50 94 true).run Tryd.prog W = .ok (.tuple #[v, .bool true]) W := by kernel_rfl
theorem no_fstForm (W : World) (u : TypeId) (v : Value) (h : u ≠ 94) : (Instr.typeAssert (.iface u v) 50 94 true).run Tryd.prog W = .ok (.tuple #[.agg #[.nilIface], .bool false]) W := by
  have hz : (zeroValue 94).run Tryd.prog W = .ok (.agg #[.nilIface]) W := by kernel_rfl
  simp [Instr.typeAssert, run_underlying Tryd.underlying94, h, hz]
theorem is_sndForm (W : World) (v : Value) : (Instr.typeAssert (.iface 95 v) 50 95 true).run Tryd.prog W = .ok (.tuple #[v, .bool true]) W := by kernel_rfl
theorem no_sndForm (W : World) (u : TypeId) (v : Value) (h : u ≠ 95) : (Instr.typeAssert (.iface u v) 50 95 true).run Tryd.prog W = .ok (.tuple #[.agg #[.nilIface], .bool false]) W := by
  have hz : (zeroValue 95).run Tryd.prog W = .ok (.agg #[.nilIface]) W := by kernel_rfl
  simp [Instr.typeAssert, run_underlying Tryd.underlying95, h, hz]
theorem is_nilForm (W : World) (v : Value) : (Instr.typeAssert (.iface 97 v) 50 97 true).run Tryd.prog W = .ok (.tuple #[v, .bool true]) W := by kernel_rfl
theorem no_nilForm (W : World) (u : TypeId) (v : Value) (h : u ≠ 97) : (Instr.typeAssert (.iface u v) 50 97 true).run Tryd.prog W = .ok (.tuple #[.agg #[.int .i64 0, .int .i64 0, .slice none 0 0], .bool false]) W := by
  have hz : (zeroValue 97).run Tryd.prog W = .ok (.agg #[.int .i64 0, .int .i64 0, .slice none 0 0]) W := by kernel_rfl
  simp [Instr.typeAssert, run_underlying Tryd.underlying97, h, hz]
theorem is_consForm (W : World) (v : Value) : (Instr.typeAssert (.iface 99 v) 50 99 true).run Tryd.prog W = .ok (.tuple #[v, .bool true]) W := by kernel_rfl
theorem no_consForm (W : World) (u : TypeId) (v : Value) (h : u ≠ 99) : (Instr.typeAssert (.iface u v) 50 99 true).run Tryd.prog W = .ok (.tuple #[.agg #[.nilIface, .nilIface], .bool false]) W := by
  have hz : (zeroValue 99).run Tryd.prog W = .ok (.agg #[.nilIface, .nilIface]) W := by kernel_rfl
  simp [Instr.typeAssert, run_underlying Tryd.underlying99, h, hz]
theorem is_caseForm (W : World) (v : Value) : (Instr.typeAssert (.iface 101 v) 50 101 true).run Tryd.prog W = .ok (.tuple #[v, .bool true]) W := by kernel_rfl
theorem no_caseForm (W : World) (u : TypeId) (v : Value) (h : u ≠ 101) : (Instr.typeAssert (.iface u v) 50 101 true).run Tryd.prog W = .ok (.tuple #[.agg #[.string ⟨#[]⟩, .string ⟨#[]⟩, .nilIface, .nilIface, .nilIface], .bool false]) W := by
  have hz : (zeroValue 101).run Tryd.prog W = .ok (.agg #[.string ⟨#[]⟩, .string ⟨#[]⟩, .nilIface, .nilIface, .nilIface]) W := by kernel_rfl
  simp [Instr.typeAssert, run_underlying Tryd.underlying101, h, hz]
theorem is_opForm (W : World) (v : Value) : (Instr.typeAssert (.iface 103 v) 50 103 true).run Tryd.prog W = .ok (.tuple #[v, .bool true]) W := by kernel_rfl
theorem no_opForm (W : World) (u : TypeId) (v : Value) (h : u ≠ 103) : (Instr.typeAssert (.iface u v) 50 103 true).run Tryd.prog W = .ok (.tuple #[.agg #[.int .i64 0, .nilIface, .nilIface], .bool false]) W := by
  have hz : (zeroValue 103).run Tryd.prog W = .ok (.agg #[.int .i64 0, .nilIface, .nilIface]) W := by kernel_rfl
  simp [Instr.typeAssert, run_underlying Tryd.underlying103, h, hz]
theorem is_raiseForm (W : World) (v : Value) : (Instr.typeAssert (.iface 105 v) 50 105 true).run Tryd.prog W = .ok (.tuple #[v, .bool true]) W := by kernel_rfl
theorem no_raiseForm (W : World) (u : TypeId) (v : Value) (h : u ≠ 105) : (Instr.typeAssert (.iface u v) 50 105 true).run Tryd.prog W = .ok (.tuple #[.agg #[.int .i64 0, .int .i64 0, .slice none 0 0, .nilIface], .bool false]) W := by
  have hz : (zeroValue 105).run Tryd.prog W = .ok (.agg #[.int .i64 0, .int .i64 0, .slice none 0 0, .nilIface]) W := by kernel_rfl
  simp [Instr.typeAssert, run_underlying Tryd.underlying105, h, hz]
theorem is_tryForm (W : World) (v : Value) : (Instr.typeAssert (.iface 107 v) 50 107 true).run Tryd.prog W = .ok (.tuple #[v, .bool true]) W := by kernel_rfl
theorem no_tryForm (W : World) (u : TypeId) (v : Value) (h : u ≠ 107) : (Instr.typeAssert (.iface u v) 50 107 true).run Tryd.prog W = .ok (.tuple #[.agg #[.string ⟨#[]⟩, .nilIface, .nilIface], .bool false]) W := by
  have hz : (zeroValue 107).run Tryd.prog W = .ok (.agg #[.string ⟨#[]⟩, .nilIface, .nilIface]) W := by kernel_rfl
  simp [Instr.typeAssert, run_underlying Tryd.underlying107, h, hz]

end Go.Proofs.YtjikcckggifinaaDoor
