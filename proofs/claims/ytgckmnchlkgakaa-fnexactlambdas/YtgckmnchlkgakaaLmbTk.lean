/-
  Rows of tokens that can be appended to; plain facts on joined tokens. No walk, no statement.
-/
import Derived.Test.YtgckmnchlkgakaaLmbTr
import Derived.Test.YtgckmnchlkgakaaLmbLwM
import Derived.Deep.AppendLies
import Derived.Lib.Join
import Derived.Lib.ItoaLen
namespace Go.Proofs.Ytgckmnchlkgakaa
open Go.RowKit
set_option linter.unusedVariables false
set_option linter.unusedSimpArgs false

/-- A token as a value. -/
def tk (l : List UInt8) : Value := .string ⟨l.toArray⟩

/-- A row of tokens that can be appended to. -/
def Toks (base : Nat) (wr : World) (v : Value) (P : List (List UInt8)) : Prop := wr.ownsRow base 9 1 v P.length (P.map tk)

end Go.Proofs.Ytgckmnchlkgakaa
