/-
  What 'IsValue' comes to, the model's and the program's.
-/
import Derived.Test.YtmjpckbpkpbkjaaTm
namespace Go.Proofs.Ytmjpckbpkpbkjaa
open Go.RowKit
set_option linter.unusedVariables false
set_option linter.unusedSimpArgs false

/-- A value, by its kind. -/
def isVal (k : Int) : Bool := k == 1 || k == 2 || k == 3 || k == 4 || k == 12

set_option maxHeartbeats 1000000 in
theorem isValue_any (D d L B : Nat) (t : Tm) (a1 : Option Addr) (l1 c1 : Nat) (a2 : Option Addr) (l2 c2 : Nat) (a3 : Option Addr) (l3 c3 : Nat) (w : World) (hB : B ≤ w.heap.size) (hf : Fm L B w D d t a1 l1 a2 l2 a3 l3) :
    Calls Try.prog 21 #[.agg #[.int .i64 t.K, .int .i64 t.N, .string t.S, .string t.Z, .int .i64 t.T.K, .int .i64 t.T.N, .slice a1 l1 c1, .slice a2 l2 c2, .slice a3 l3 c3]] w fun e w' => e = .returned (.bool (isVal t.K)) ∧ Below w.heap.size w w' := by
  have hbel : Below w.heap.size w (w.alloc (.cells #[.int .i64 t.K, .int .i64 t.N, .string t.S, .string t.Z, .int .i64 t.T.K, .int .i64 t.T.N, .slice a1 l1 c1, .slice a2 l2 c2, .slice a3 l3 c3] 35)) := (Below.refl _ _).alloc (Nat.le_refl _) _
  unfold isVal
  cases h1 : (t.K == 1)
  all_goals cases h2 : (t.K == 2)
  all_goals cases h3 : (t.K == 3)
  all_goals cases h4 : (t.K == 4)
  all_goals cases h5 : (t.K == 12)
  all_goals
    go_enter Try.func21, Try.ntmps21
    go_wp2_with fail
    go_ret
    exact ⟨rfl, hbel⟩

set_option maxHeartbeats 1000000 in
theorem sIsValue_any (D d L B : Nat) (t : Tm) (a1 : Option Addr) (l1 c1 : Nat) (a2 : Option Addr) (l2 c2 : Nat) (a3 : Option Addr) (l3 c3 : Nat) (w : World) (hB : B ≤ w.heap.size) (hf : Fm L B w D d t a1 l1 a2 l2 a3 l3) :
    Calls Try.prog 12 #[.agg #[.int .i64 t.K, .int .i64 t.N, .string t.S, .string t.Z, .int .i64 t.T.K, .int .i64 t.T.N, .slice a1 l1 c1, .slice a2 l2 c2, .slice a3 l3 c3]] w fun e w' => e = .returned (.bool (isVal t.K)) ∧ Below w.heap.size w w' := by
  have hbel : Below w.heap.size w (w.alloc (.cells #[.int .i64 t.K, .int .i64 t.N, .string t.S, .string t.Z, .int .i64 t.T.K, .int .i64 t.T.N, .slice a1 l1 c1, .slice a2 l2 c2, .slice a3 l3 c3] 35)) := (Below.refl _ _).alloc (Nat.le_refl _) _
  unfold isVal
  cases h1 : (t.K == 1)
  all_goals cases h2 : (t.K == 2)
  all_goals cases h3 : (t.K == 3)
  all_goals cases h4 : (t.K == 4)
  all_goals cases h5 : (t.K == 12)
  all_goals
    go_enter Try.func12, Try.ntmps12
    go_wp2_with fail
    go_ret
    exact ⟨rfl, hbel⟩

end Go.Proofs.Ytmjpckbpkpbkjaa
