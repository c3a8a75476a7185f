/-
  What the model's 'TyOk' comes to: the same as the program's.
-/
import Derived.Test.YtgckmnchlkgakaaLmbLk2
namespace Go.Proofs.Ytgckmnchlkgakaa
open Go.RowKit
set_option linter.unusedVariables false
set_option linter.unusedSimpArgs false

theorem look_ok (t : Tr) : lookOk 6 0 t = okT t := by
  unfold lookOk okT nodesT
  cases h : nodesW 6 t with
  | none => simp
  | some m =>
    have := nodesW_pos _ _ _ h
    by_cases h6 : m ≤ 60 <;> simp [h6]
    omega

set_option maxHeartbeats 400000 in
theorem sTyOk_any (d L B : Nat) (k n : Int) (ao : Option Addr) (len cap : Nat) (ts : List Tr) (w : World) (hB : B ≤ w.heap.size) (hs : Hs L B w d ao len ts) :
    Calls Try.prog 85 #[.agg #[.int .i64 k, .int .i64 n, .slice ao len cap]] w fun e w' => e = .returned (.bool (okT ⟨k, n, ts⟩)) ∧ Below w.heap.size w w' := by
  obtain ⟨X, hX⟩ : ∃ X, X = ((w.alloc (.cells #[.int .i64 k, .int .i64 n, .slice ao len cap] 33)).alloc (.cells #[.int .i64 0] 3)) := ⟨_, rfl⟩
  have hXs : X.heap.size = w.heap.size + 2 := by rw [hX]; simp
  have hXb : Below w.heap.size w X := by rw [hX]; exact ((Below.refl _ _).alloc (Nat.le_refl _) _).alloc (by simp) _
  have hX1 : X.heap[w.heap.size + 1]? = some (.cells #[.int .i64 ((0 : Nat) : Int)] 3 (0, 0)) := by rw [hX]; exact heap_new (by simp)
  have hs1 := hs.below hXb hB
  have HX : Hid (X = _) := hX
  have HX1 : Hid (_ = _) := hX1
  clear hX hX1
  go_enter Try.func85, Try.ntmps85
  go_wp2_with fail
  rw [← HX.out]
  refine (lk_any 6 (by omega) _ _ _ _ _ _ _ _ _ _ _ _ (by omega) (by omega) HX1.out (by omega) hs1).mono ?_
  rintro e w1 ⟨rfl, hg, _⟩
  rw [look_ok]
  have hb2 : Below w.heap.size w w1 := hXb.grown hg (by omega) (by simp)
  go_wp2_with fail
  go_ret
  exact ⟨rfl, hb2⟩

end Go.Proofs.Ytgckmnchlkgakaa
