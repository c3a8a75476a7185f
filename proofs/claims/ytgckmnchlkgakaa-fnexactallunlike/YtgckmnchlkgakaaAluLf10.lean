/-
  Free names in the model: 'l2Binds'.
-/
import Derived.Test.YtgckmnchlkgakaaAluLf00
namespace Go.Proofs.Ytgckmnchlkgakaa
open Go.RowKit
set_option linter.unusedVariables false
set_option linter.unusedSimpArgs false

/-- A slice literal of names: a block of its own. -/
def LitE (w w' : World) (e : Ending) (N : List (List UInt8)) : Prop := ∃ g, e = .returned (.slice (some ⟨g, 0, none⟩) N.length N.length) ∧ Below w.heap.size w w' ∧ w.heap.size ≤ g ∧ w'.heap[g]? = some (.cells (N.map tk).toArray 9 (0, 0))

theorem lit_0 (w : World) (o : Obj) : LitE w ((w.alloc o).alloc (.cells #[] 9)) (.returned (.slice (some ⟨w.heap.size + 1, 0, none⟩) 0 0)) [] :=
  ⟨_, rfl, ((Below.refl _ _).alloc (Nat.le_refl _) _).alloc (by simp) _, by omega, heap_new (by simp)⟩
theorem lit_1 (w : World) (o : Obj) (s : ByteArray) : LitE w ((w.alloc o).alloc (.cells #[.string s] 9)) (.returned (.slice (some ⟨w.heap.size + 1, 0, none⟩) 1 1)) [bs s] :=
  ⟨_, rfl, ((Below.refl _ _).alloc (Nat.le_refl _) _).alloc (by simp) _, by omega, by rw [heap_new (by simp)]; simp [tk_bs]⟩
theorem lit_2 (w : World) (o : Obj) (s z : ByteArray) : LitE w ((w.alloc o).alloc (.cells #[.string s, .string z] 9)) (.returned (.slice (some ⟨w.heap.size + 1, 0, none⟩) 2 2)) [bs s, bs z] :=
  ⟨_, rfl, ((Below.refl _ _).alloc (Nat.le_refl _) _).alloc (by simp) _, by omega, by rw [heap_new (by simp)]; simp [tk_bs]⟩

end Go.Proofs.Ytgckmnchlkgakaa
