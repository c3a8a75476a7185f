/-
  Free names: what 'meet' and 'gatherBound' come to; the two rows of names that lie in memory.
-/
import Derived.Test.YtgckmnchlkgakaaLmbTk
import Derived.Test.YtgckmnchlkgakaaLmbOw
import Derived.Test.YtgckmnchlkgakaaLmbLwM
namespace Go.Proofs.Ytgckmnchlkgakaa
open Go.RowKit
set_option linter.unusedVariables false
set_option linter.unusedSimpArgs false

def bs (s : ByteArray) : List UInt8 := s.data.toList
theorem toks_own {base : Nat} {w : World} {v : Value} {P : List (List UInt8)} (h : Toks base w v P) {g : Nat} (hg : v.ownBlock = some g) : base ≤ g ∧ g < w.heap.size := by
  rcases h.2 with ⟨rfl, _⟩ | ⟨g', cap, cur, rfl, hb', hh, _⟩
  · cases hg
  · have e : g' = g := by simpa [Value.ownBlock] using hg
    subst e
    exact ⟨hb', (Array.getElem?_eq_some_iff.1 hh).1⟩

end Go.Proofs.Ytgckmnchlkgakaa
