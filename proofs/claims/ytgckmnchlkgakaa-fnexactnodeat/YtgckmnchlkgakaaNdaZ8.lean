/-
  Free names: what 'meet' and 'gatherBound' come to; the two rows of names that lie in memory.
-/
import Derived.Test.YtgckmnchlkgakaaNdaZ6
import Derived.Test.YtgckmnchlkgakaaNdaOw
namespace Go.Proofs.Ytgckmnchlkgakaa
open Go.RowKit
set_option linter.unusedVariables false
set_option linter.unusedSimpArgs false

def bs (s : ByteArray) : List UInt8 := s.data.toList
theorem toks_own {base : Nat} {w : World} {v : Value} {P : List (List UInt8)} (h : Toks base w v P) {g : Nat} (hg : v.ownBlock = some g) : base ≤ g ∧ g < w.heap.size := by
  rcases h.2 with ⟨rfl, _⟩ | ⟨g', cap, cur, rfl, hb', hh, _⟩
  · cases hg
  · have e : g' = g := by simpa [Value.ownBlock] using hg
    subst e
    exact ⟨hb', (Array.getElem?_eq_some_iff.1 hh).1⟩

end Go.Proofs.Ytgckmnchlkgakaa

/-
  The functions of a term, in plain words.
-/
namespace Go.Proofs.Ytgckmnchlkgakaa
open Go.RowKit
set_option linter.unusedVariables false
set_option linter.unusedSimpArgs false

theorem Fm.deeperM {L B : Nat} {w : World} {D d d' : Nat} {t : Tm} {a1 a2 a3 : Option Addr} {l1 l2 l3 : Nat} (hd : d ≤ d') (h : Fm L B w D d t a1 l1 a2 l2 a3 l3) : Fm L B w D d' t a1 l1 a2 l2 a3 l3 :=
  h.wider (fun _ _ _ hr => hr) (fun _ _ _ hr => hr.deeper hd (Nat.le_refl _))

end Go.Proofs.Ytgckmnchlkgakaa
