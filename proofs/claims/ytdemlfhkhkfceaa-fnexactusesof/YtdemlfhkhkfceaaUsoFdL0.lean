/-
  The nodes of a part are fewer than the whole has.
-/
import Derived.Test.YtdemlfhkhkfceaaUsoTn
namespace Go.Proofs.Ytdemlfhkhkfceaa
open Go.RowKit
set_option linter.unusedVariables false
set_option linter.unusedSimpArgs false

theorem nodesG_get {f : Tm → Option Nat} : ∀ (l : List Tm) (b : Nat), nodesG f l = some b → ∀ i (h : i < l.length), ∃ a, f l[i] = some a ∧ a ≤ b
  | [], b, _, i, hi => by simp at hi
  | x :: l, b, h, i, hi => by
    simp only [nodesG] at h
    cases h1 : f x with
    | none => simp [h1] at h
    | some a =>
      cases h2 : nodesG f l with
      | none => simp [h1, h2] at h
      | some c =>
        simp [h1, h2] at h
        cases i with
        | zero => exact ⟨a, h1, by omega⟩
        | succ i =>
          obtain ⟨a', h3, h4⟩ := nodesG_get l c h2 i (by simpa using hi)
          exact ⟨a', by simpa using h3, by omega⟩

theorem nodesM_get {l : Nat} {t : Tm} {m : Nat} (h : nodesM (l + 1) t = some m) : nodeM t = true ∧ ∀ i (hi : i < t.A.length), ∃ a, nodesM l t.A[i] = some a ∧ a + 1 ≤ m := by
  rw [nodesM] at h
  split at h
  · rename_i hn
    obtain ⟨b, hb, hm⟩ := Option.map_eq_some_iff.1 h
    refine ⟨hn, fun i hi => ?_⟩
    obtain ⟨a, h1, h2⟩ := nodesG_get t.A b hb i hi
    exact ⟨a, h1, by omega⟩
  · simp at h

end Go.Proofs.Ytdemlfhkhkfceaa
