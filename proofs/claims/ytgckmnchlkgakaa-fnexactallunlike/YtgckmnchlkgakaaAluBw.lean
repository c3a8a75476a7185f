/-
  The binders of a term, and all terms within it, in plain words; what a call leaves that changes no block but a few of its own.
-/
import Derived.Test.YtgckmnchlkgakaaAluBw0
import Derived.Test.YtgckmnchlkgakaaAluGa00
import Derived.Test.YtgckmnchlkgakaaAluFo0
namespace Go.Proofs.Ytgckmnchlkgakaa
open Go.RowKit
set_option linter.unusedVariables false
set_option linter.unusedSimpArgs false

/-- The names that a term binds itself. -/
def ownB (t : Tm) : List (List UInt8) := if t.K = 4 ∨ t.K = 6 ∨ t.K = 7 ∨ t.K = 17 then [bs t.S] else if t.K = 14 then [bs t.S, bs t.Z] else []

/-- The names of all binders, from the front. -/
def bndW (t : Tm) : List (List UInt8) := ((allW t).map ownB).flatten
def bndT (t : Tm) : List (List UInt8) := if okM t = true then bndW t else []

theorem ownB_len (t : Tm) : (ownB t).length ≤ 2 := by
  unfold ownB
  split
  · simp
  · split <;> simp

theorem binds_len : ∀ (l : List Tm), ((l.map ownB).flatten).length ≤ 2 * l.length := by
  intro l
  induction l with
  | nil => simp
  | cons t l ih =>
    have := ownB_len t
    simp only [List.map_cons, List.flatten_cons, List.length_append, List.length_cons]
    omega

theorem bndT_len (t : Tm) : (bndT t).length ≤ 300 := by
  unfold bndT
  split
  · rename_i h
    obtain ⟨m, hm, h6⟩ := okM_some h
    have h1 := allW_len 24 t m hm
    have h2 := binds_len (allW t)
    unfold bndW
    omega
  · simp

end Go.Proofs.Ytgckmnchlkgakaa
