/-
  Rows of tokens that can be appended to; plain facts on joined tokens. No walk, no statement.
-/
import Derived.Test.YtaljpbgggembmaaDoorShxTr
import Derived.Test.YtaljpbgggembmaaDoorShxLwM
import Derived.Deep.AppendLies
import Derived.Lib.Join
import Derived.Lib.ItoaLen
namespace Go.Proofs.YtaljpbgggembmaaDoor
open Go.RowKit
set_option linter.unusedVariables false
set_option linter.unusedSimpArgs false

theorem str_add (a b : List UInt8) : (⟨a.toArray⟩ : ByteArray) ++ ⟨b.toArray⟩ = ⟨(a ++ b).toArray⟩ := by
  apply ByteArray.ext
  simp

end Go.Proofs.YtaljpbgggembmaaDoor
