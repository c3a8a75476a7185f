/-
  What the program's 'SubstTy' comes to.
-/
import Derived.Test.YtfjbgbnhjejchaaDoorOw
namespace Go.Proofs.YtfjbgbnhjejchaaDoor
open Go.RowKit
set_option linter.unusedVariables false
set_option linter.unusedSimpArgs false

def zeroT : Tr := ⟨0, 0, []⟩
/-- How a call of either 'SubstTy' ends, R being what it answers. -/
def SubEnd (w w' : World) (e : Ending) (D : Nat) (R : Option Tr) : Prop :=
  ∃ ao2 len2 cap2, e = .returned (.tuple #[.agg #[.int .i64 (R.getD zeroT).K, .int .i64 (R.getD zeroT).N, .slice ao2 len2 cap2], .bool R.isSome]) ∧ Below w.heap.size w w' ∧ OwR w.heap.size w'.heap.size w' D ao2 len2 (R.getD zeroT).A

theorem sub_none {w w1 : World} {g D : Nat} (hb : Below w.heap.size w w1) (hg : w.heap.size ≤ g) (R : Option Tr) (hR : R = none) :
    SubEnd w (set3 w1 g 0 (.int .i64 0) (.int .i64 0) (.slice none 0 0)) (.returned (.tuple #[.agg #[.int .i64 0, .int .i64 0, .slice none 0 0], .bool false])) D R := by
  subst hR
  exact ⟨none, 0, 0, rfl, set3_below hb hg, OwR.nil _ _ _ _ _⟩

end Go.Proofs.YtfjbgbnhjejchaaDoor
