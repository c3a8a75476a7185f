/-
  The model's 'l1In', at any numbers.
-/
import Derived.Test.YtaljpbgggembmaaDoorShxRw
namespace Go.Proofs.YtaljpbgggembmaaDoor
open Go.RowKit
set_option linter.unusedVariables false
set_option linter.unusedSimpArgs false

set_option maxHeartbeats 400000 in
theorem l1In_all (x a b : Int) (w : World) : Calls Tryd.prog 30 #[.int .i64 x, .int .i64 a, .int .i64 b] w fun e w' => e = .returned (.bool (decide (a ≤ x) && decide (x ≤ b))) ∧ w' = w := by
  obtain ⟨ans, hans⟩ : ∃ c, (decide (a ≤ x) && decide (x ≤ b)) = c := ⟨_, rfl⟩
  rw [hans]
  have HA : Hid ((decide (a ≤ x) && decide (x ≤ b)) = ans) := hans
  clear hans
  by_cases h0 : a ≤ x
  · by_cases h1 : x ≤ b
    · have HE : Hid (ans = true) := by show _ = _; rw [← HA.out]; simp [h0, h1]
      go_enter Tryd.func30, Tryd.ntmps30
      go_wp2_with fail
      go_ret
      exact ⟨ret_bool (by rw [HE.out]), rfl⟩
    · have HE : Hid (ans = false) := by show _ = _; rw [← HA.out]; simp [h0, h1]
      go_enter Tryd.func30, Tryd.ntmps30
      go_wp2_with fail
      go_ret
      exact ⟨ret_bool (by rw [HE.out]), rfl⟩
  · have HE : Hid (ans = false) := by show _ = _; rw [← HA.out]; simp [h0]
    go_enter Tryd.func30, Tryd.ntmps30
    go_wp2_with fail
    go_ret
    exact ⟨ret_bool (by rw [HE.out]), rfl⟩

end Go.Proofs.YtaljpbgggembmaaDoor
