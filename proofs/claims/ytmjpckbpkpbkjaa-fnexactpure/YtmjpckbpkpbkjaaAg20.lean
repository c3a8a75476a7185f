/-
  A least measure for a relation.
-/
import Derived.Test.YtmjpckbpkpbkjaaTr
namespace Go.Proofs.Ytmjpckbpkpbkjaa
open Go.RowKit
set_option linter.unusedVariables false
set_option linter.unusedSimpArgs false

theorem least_ex (R : Value → World → Nat → Prop) : ∃ μ : Value → World → Nat, ∀ v wr n, R v wr n → μ v wr ≤ n ∧ R v wr (μ v wr) := by
  classical
  have h : ∀ v wr, ∃ m, ∀ n, R v wr n → m ≤ n ∧ R v wr m := by
    intro v wr
    have key : ∀ n, R v wr n → ∃ m, R v wr m ∧ ∀ k, R v wr k → m ≤ k := by
      intro n
      induction n using Nat.strongRecOn with
      | ind n ih =>
        intro hn
        by_cases hs : ∃ k, k < n ∧ R v wr k
        · obtain ⟨k, hk, hR⟩ := hs
          exact ih k hk hR
        · exact ⟨n, hn, fun k hk => by
            by_cases hlt : k < n
            · exact (hs ⟨k, hlt, hk⟩).elim
            · omega⟩
    by_cases he : ∃ n, R v wr n
    · obtain ⟨n, hn⟩ := he
      obtain ⟨m, h1, h2⟩ := key n hn
      exact ⟨m, fun k hk => ⟨h2 k hk, h1⟩⟩
    · exact ⟨0, fun n hn => (he ⟨n, hn⟩).elim⟩
  exact ⟨fun v wr => Classical.choose (h v wr), fun v wr n hn => Classical.choose_spec (h v wr) n hn⟩

end Go.Proofs.Ytmjpckbpkpbkjaa
