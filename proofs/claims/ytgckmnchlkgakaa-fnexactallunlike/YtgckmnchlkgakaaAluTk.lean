/-
  Rows of tokens that can be appended to; plain facts on joined tokens. No walk, no statement.
-/
import Derived.Test.YtgckmnchlkgakaaAluTr
import Derived.Test.YtgckmnchlkgakaaAluLwM
import Derived.Deep.AppendLies
import Derived.Lib.Join
import Derived.Lib.ItoaLen
namespace Go.Proofs.Ytgckmnchlkgakaa
open Go.RowKit
set_option linter.unusedVariables false
set_option linter.unusedSimpArgs false

theorem Try.infoStr : (Try.prog.info? 9).map (fun i => (i.zero, i.size, i.bytes)) = some (some (.string ⟨#[]⟩), 1, 16) := by kernel_rfl

/-- A token as a value. -/
def tk (l : List UInt8) : Value := .string ⟨l.toArray⟩

/-- A row of tokens that can be appended to. -/
def Toks (base : Nat) (wr : World) (v : Value) (P : List (List UInt8)) : Prop := wr.ownsRow base 9 1 v P.length (P.map tk)

end Go.Proofs.Ytgckmnchlkgakaa
