/-
  What 'varsWithin', 'VarsOf', 'Ground' of the program, and 'l1Vars', 'VarsOf', 'Ground' of the model come to.
-/
import Derived.Test.YtngmplcjhbaopaaSp0
namespace Go.Proofs.Ytngmplcjhbaopaa
open Go.RowKit
set_option linter.unusedVariables false
set_option linter.unusedSimpArgs false

/-- What it means that a tree is right down to l levels, for its root and its parts. -/
theorem nodesW_inv {l : Nat} {k n : Int} {ts : List Tr} {m : Nat} (h : nodesW (l + 1) ⟨k, n, ts⟩ = some m) : nodeOk k n ts.length = true ∧ ∀ j (hj : j < ts.length), ∃ a, nodesW l ts[j] = some a := by
  simp only [nodesW] at h
  split at h
  · rename_i hok
    refine ⟨hok, fun j hj => ?_⟩
    cases hf : nodesW l ts[j] with
    | some a => exact ⟨a, rfl⟩
    | none => rw [nodesL_none _ _ j hj hf] at h; simp at h
  · simp at h

end Go.Proofs.Ytngmplcjhbaopaa
