/-
  What the program's 'TyText' comes to.
-/
import Derived.Test.YtgmbiabmeeemdaaDoorTt
import Derived.Test.YtgmbiabmeeemdaaDoorJn
import Derived.Test.YtgmbiabmeeemdaaDoorSp0
namespace Go.Proofs.YtgmbiabmeeemdaaDoor
open Go.RowKit
set_option linter.unusedVariables false
set_option linter.unusedSimpArgs false

theorem tk_data (l : List UInt8) : (⟨l.toArray⟩ : ByteArray).data.toList = l := by simp

/-- A slice of tokens, read cell by cell. -/
theorem toks_cells {base : Nat} {w : World} {v : Value} {P : List (List UInt8)} (h : Toks base w v P) (hne : P ≠ []) : ∃ g cap, v = .slice (some ⟨g, 0, none⟩) P.length cap ∧ g < w.heap.size ∧ P.length ≤ cap ∧ ∀ (j : Nat) x, (P.map fun l => (⟨l.toArray⟩ : ByteArray))[j]? = some x → w.cell? ⟨g, 0 + j, none⟩ = some (.string x) := by
  rcases h.2 with ⟨rfl, hn⟩ | ⟨g, cap, cur, rfl, hg, hh, r⟩
  · exact (hne (List.length_eq_zero_iff.1 hn)).elim
  · refine ⟨g, cap, rfl, (Array.getElem?_eq_some_iff.1 hh).1, ?_, ?_⟩
    · exact r.1
    · intro j x hx
      rw [List.getElem?_map] at hx
      cases hp : P[j]? with
      | none => rw [hp] at hx; cases hx
      | some l =>
        rw [hp] at hx
        have hx : (⟨l.toArray⟩ : ByteArray) = x := by simpa using hx
        have e : (List.map tk P)[j]? = some (tk l) := by rw [List.getElem?_map, hp]; rfl
        rw [← r.2.2.2, List.getElem?_take] at e
        split at e
        · rw [Nat.zero_add, row_cell hh, ← Array.getElem?_toList, e, ← hx]; rfl
        · cases e

end Go.Proofs.YtgmbiabmeeemdaaDoor
