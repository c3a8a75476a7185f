/-
  'copyTerm' of the program: the same term in memory of its own.
-/
import Derived.Test.YtkbccogjckiabaaApM
namespace Go.Proofs.Ytkbccogjckiabaa
open Go.RowKit
set_option linter.unusedVariables false
set_option linter.unusedSimpArgs false

theorem OwR.one {L B L' B' : Nat} {w w' : World} {d d' : Nat} {ao : Option Addr} {len : Nat} {ts : List Tr} (h : OwR L B w d ao len ts) (hd : d ≤ d') (hb : ∀ k, L ≤ k → k < B → w'.heap[k]? = w.heap[k]?) (hL : L' ≤ L) (hB : B ≤ B') : OwR L' B' w' d' ao len ts := (h.deeper hd).keep hb hL hB

theorem pos_d {L B : Nat} {w : World} {D d : Nat} {ao : Option Addr} {len : Nat} {ts : List Tm} (h : Hm L B w D d ao len ts) {j : Nat} (hj : j < ts.length) : d - 1 < d := by
  cases d with
  | zero => obtain ⟨_, rfl⟩ := h; simp at hj
  | succ d => omega

/-- The row behind the field A, whole: it owns its memory. -/
theorem apm_whole {L B base : Nat} {w wr : World} {D D' d : Nat} {ao : Option Addr} {len : Nat} {v : Value} {ts : List Tm} (h : ApRelM base wr D' (d - 1) v len ts) (hm : Hm L B w D d ao len ts) : ∃ a c, v = .slice a len c ∧ OwMR base wr.heap.size wr D' d a len ts := by
  obtain ⟨h1, h2⟩ := hm.len
  obtain ⟨a, c, e, ho⟩ := apm_done h h1 h2
  refine ⟨a, c, e, ?_⟩
  cases d with
  | zero =>
    obtain ⟨h3, h4⟩ := hm
    subst h3
    subst h4
    exact OwMR.nil _ _ _ _ _ _
  | succ d => exact ho

end Go.Proofs.Ytkbccogjckiabaa
