/-
  What 'toTerm', 'toTermS' (a copy in the program's own type) come to: the same tree in new memory.
-/
import Derived.Test.YtgckmnchlkgakaaLmbTm
namespace Go.Proofs.Ytgckmnchlkgakaa
open Go.RowKit
set_option linter.unusedVariables false
set_option linter.unusedSimpArgs false

theorem Try.infoTerm : (Try.prog.info? 36).map (fun i => (i.zero, i.size, i.bytes)) = some (some (.agg #[.int .i64 0, .int .i64 0, .string ⟨#[]⟩, .string ⟨#[]⟩, .int .i64 0, .int .i64 0, .slice none 0 0, .slice none 0 0, .slice none 0 0]), 9, 136) := by kernel_rfl

end Go.Proofs.Ytgckmnchlkgakaa
