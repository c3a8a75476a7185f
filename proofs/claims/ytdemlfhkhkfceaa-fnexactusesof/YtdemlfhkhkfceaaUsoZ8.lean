/-
  Terms as forms: the value that 'formOf' answers of a term that is right; no memory is in it but that of its types.
-/
import Derived.Test.YtdemlfhkhkfceaaUsoTn
import Derived.Test.YtdemlfhkhkfceaaUsoZ3
namespace Go.Proofs.Ytdemlfhkhkfceaa
open Go.RowKit
set_option linter.unusedVariables false
set_option linter.unusedSimpArgs false

theorem nodesM_inv {l : Nat} {t : Tm} {m : Nat} (h : nodesM (l + 1) t = some m) : nodeM t = true ∧ ∀ j (hj : j < t.A.length), ∃ a, nodesM l t.A[j] = some a := by
  simp only [nodesM] at h
  cases hn : nodeM t with
  | false => simp [hn] at h
  | true =>
    refine ⟨rfl, fun j hj => ?_⟩
    simp only [hn, if_true] at h
    cases hg : nodesG (nodesM l) t.A with
    | none => simp [hg] at h
    | some s =>
      cases hj' : nodesM l t.A[j] with
      | some a => exact ⟨a, rfl⟩
      | none => rw [nodesG_none (nodesM l) t.A j hj hj'] at hg; cases hg

theorem okM_some {t : Tm} (h : okM t = true) : ∃ m, nodesM 24 t = some m ∧ m ≤ 150 := by
  unfold okM at h
  cases hm : nodesM 24 t with
  | none => simp [hm, lid] at h
  | some m =>
    refine ⟨m, rfl, ?_⟩
    by_cases h6 : m ≤ 150
    · exact h6
    · simp [hm, lid, h6] at h

end Go.Proofs.Ytdemlfhkhkfceaa

/-
  The binders of a term, and all terms within it, in plain words; what a call leaves that changes no block but a few of its own.
-/
namespace Go.Proofs.Ytdemlfhkhkfceaa
open Go.RowKit
set_option linter.unusedVariables false
set_option linter.unusedSimpArgs false

/-- From w to w' no block has changed but those of F; those of F' are of F, or new. -/
structure Kf (F : Nat → Prop) (w : World) (F' : Nat → Prop) (w' : World) : Prop where
  os : w'.os = w.os
  tape : w'.tape = w.tape
  output : w'.output = w.output
  size : w.heap.size ≤ w'.heap.size
  block : ∀ k, k < w.heap.size → ¬ F k → w'.heap[k]? = w.heap[k]?
  own : ∀ k, F' k → F k ∨ w.heap.size ≤ k

theorem Kf.trans {F F' F'' : Nat → Prop} {w w' w'' : World} (h : Kf F w F' w') (k : Kf F' w' F'' w'') : Kf F w F'' w'' := by
  refine ⟨k.os.trans h.os, k.tape.trans h.tape, k.output.trans h.output, Nat.le_trans h.size k.size, fun i hi h1 => ?_, fun i hi => ?_⟩
  · exact (k.block i (Nat.lt_of_lt_of_le hi h.size) (fun e => by rcases h.own i e with e | e; exact h1 e; omega)).trans (h.block i hi h1)
  · rcases k.own i hi with e | e
    · exact h.own i e
    · exact Or.inr (Nat.le_trans h.size e)
theorem Kf.below {base : Nat} {F F' : Nat → Prop} {w w' : World} (h : Kf F w F' w') (hF : ∀ k, F k → base ≤ k) (hb : base ≤ w.heap.size) : Below base w w' :=
  ⟨h.os, h.tape, h.output, h.size, fun k hk => h.block k (by omega) (fun e => by have := hF k e; omega)⟩

end Go.Proofs.Ytdemlfhkhkfceaa

/-
  Free names in the model: 'l2Binds'.
-/
namespace Go.Proofs.Ytdemlfhkhkfceaa
open Go.RowKit
set_option linter.unusedVariables false
set_option linter.unusedSimpArgs false

/-- A slice literal of names: a block of its own. -/
def LitE (w w' : World) (e : Ending) (N : List (List UInt8)) : Prop := ∃ g, e = .returned (.slice (some ⟨g, 0, none⟩) N.length N.length) ∧ Below w.heap.size w w' ∧ w.heap.size ≤ g ∧ w'.heap[g]? = some (.cells (N.map tk).toArray 9 (0, 0))

theorem lit_0 (w : World) (o : Obj) : LitE w ((w.alloc o).alloc (.cells #[] 9)) (.returned (.slice (some ⟨w.heap.size + 1, 0, none⟩) 0 0)) [] :=
  ⟨_, rfl, ((Below.refl _ _).alloc (Nat.le_refl _) _).alloc (by simp) _, by omega, heap_new (by simp)⟩
theorem lit_1 (w : World) (o : Obj) (s : ByteArray) : LitE w ((w.alloc o).alloc (.cells #[.string s] 9)) (.returned (.slice (some ⟨w.heap.size + 1, 0, none⟩) 1 1)) [bs s] :=
  ⟨_, rfl, ((Below.refl _ _).alloc (Nat.le_refl _) _).alloc (by simp) _, by omega, by rw [heap_new (by simp)]; simp [tk_bs]⟩
theorem lit_2 (w : World) (o : Obj) (s z : ByteArray) : LitE w ((w.alloc o).alloc (.cells #[.string s, .string z] 9)) (.returned (.slice (some ⟨w.heap.size + 1, 0, none⟩) 2 2)) [bs s, bs z] :=
  ⟨_, rfl, ((Below.refl _ _).alloc (Nat.le_refl _) _).alloc (by simp) _, by omega, by rw [heap_new (by simp)]; simp [tk_bs]⟩

end Go.Proofs.Ytdemlfhkhkfceaa
