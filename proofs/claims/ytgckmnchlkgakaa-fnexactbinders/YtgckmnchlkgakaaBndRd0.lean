/-
  From the reading of an argument of the laws' own type to the tree that lies there.
-/
import Derived.Test.YtgckmnchlkgakaaBndTr
import Derived.ProofKit
import Derived.Deep.Slices
import Derived.Deep.Strs
import Derived.ChangeOld
import Derived.OpenShut
namespace Go.Proofs.Ytgckmnchlkgakaa
open Go.RowKit
set_option linter.unusedVariables false
set_option linter.unusedSimpArgs false

theorem Hs.deeper {L B : Nat} {w : World} : ∀ {d d' : Nat} {ao : Option Addr} {len : Nat} {ts : List Tr}, d ≤ d' → Hs L B w d ao len ts → Hs L B w d' ao len ts := by
  intro d
  induction d with
  | zero =>
    intro d' ao len ts _ h
    obtain ⟨rfl, rfl⟩ := h
    cases d' with
    | zero => exact ⟨rfl, rfl⟩
    | succ d' => exact ⟨rfl, by omega, fun i hi => by simp at hi⟩
  | succ d ih =>
    intro d' ao len ts hd h
    cases d' with
    | zero => omega
    | succ d' =>
      refine ⟨h.1, h.2.1, fun i hi => ?_⟩
      obtain ⟨b, o, e, h1, h2, h3⟩ := h.2.2 i hi
      exact ⟨b, o, e, h1, h2, h3.wider fun _ _ _ hr => ih (by omega) hr⟩

theorem Hs.nil (L B : Nat) (w : World) (d : Nat) (ao : Option Addr) : Hs L B w d ao 0 [] := by
  cases d with
  | zero => exact ⟨rfl, rfl⟩
  | succ d => exact ⟨rfl, by omega, fun i hi => by simp at hi⟩

end Go.Proofs.Ytgckmnchlkgakaa
