/-
  What the model's 'TyOk' and 'TyNodes' come to: the same as the program's.
-/
import Derived.Test.YtikfbgkjgbdoiaaLk2
namespace Go.Proofs.Ytikfbgkjgbdoiaa
open Go.RowKit
set_option linter.unusedVariables false
set_option linter.unusedSimpArgs false

theorem look_ok (t : Tr) : lookOk 6 0 t = okT t := by
  unfold lookOk okT nodesT
  cases h : nodesW 6 t with
  | none => simp
  | some m =>
    have := nodesW_pos _ _ _ h
    by_cases h6 : m ≤ 60 <;> simp [h6]
    omega

set_option maxHeartbeats 400000 in
theorem sTyOk_any (d L B : Nat) (k n : Int) (ao : Option Addr) (len cap : Nat) (ts : List Tr) (w : World) (hB : B ≤ w.heap.size) (hs : Hs L B w d ao len ts) :
    Calls Try.prog 65 #[.agg #[.int .i64 k, .int .i64 n, .slice ao len cap]] w fun e w' => e = .returned (.bool (okT ⟨k, n, ts⟩)) ∧ Below w.heap.size w w' := by
  obtain ⟨X, hX⟩ : ∃ X, X = ((w.alloc (.cells #[.int .i64 k, .int .i64 n, .slice ao len cap] 32)).alloc (.cells #[.int .i64 0] 3)) := ⟨_, rfl⟩
  have hXs : X.heap.size = w.heap.size + 2 := by rw [hX]; simp
  have hXb : Below w.heap.size w X := by rw [hX]; exact ((Below.refl _ _).alloc (Nat.le_refl _) _).alloc (by simp) _
  have hX1 : X.heap[w.heap.size + 1]? = some (.cells #[.int .i64 ((0 : Nat) : Int)] 3 (0, 0)) := by rw [hX]; exact heap_new (by simp)
  have hs1 := hs.below hXb hB
  have HX : Hid (X = _) := hX
  have HX1 : Hid (_ = _) := hX1
  clear hX hX1
  go_enter Try.func65, Try.ntmps65
  go_wp2_with fail
  rw [← HX.out]
  refine (lk_any 6 (by omega) _ _ _ _ _ _ _ _ _ _ _ _ (by omega) (by omega) HX1.out (by omega) hs1).mono ?_
  rintro e w1 ⟨rfl, hg, _⟩
  rw [look_ok]
  have hb2 : Below w.heap.size w w1 := hXb.grown hg (by omega) (by simp)
  go_wp2_with fail
  go_ret
  exact ⟨rfl, hb2⟩

set_option maxHeartbeats 400000 in
theorem sTyNodes_any (d L B : Nat) (k n : Int) (ao : Option Addr) (len cap : Nat) (ts : List Tr) (w : World) (hB : B ≤ w.heap.size) (hs : Hs L B w d ao len ts) :
    Calls Try.prog 163 #[.agg #[.int .i64 k, .int .i64 n, .slice ao len cap]] w fun e w' => e = .returned (.int .i64 (nodesT ⟨k, n, ts⟩)) ∧ Below w.heap.size w w' := by
  obtain ⟨X, hX⟩ : ∃ X, X = ((w.alloc (.cells #[.int .i64 k, .int .i64 n, .slice ao len cap] 32)).alloc (.cells #[.int .i64 0] 3)) := ⟨_, rfl⟩
  have hXs : X.heap.size = w.heap.size + 2 := by rw [hX]; simp
  have hXb : Below w.heap.size w X := by rw [hX]; exact ((Below.refl _ _).alloc (Nat.le_refl _) _).alloc (by simp) _
  have hX1 : X.heap[w.heap.size + 1]? = some (.cells #[.int .i64 ((0 : Nat) : Int)] 3 (0, 0)) := by rw [hX]; exact heap_new (by simp)
  have hs1 := hs.below hXb hB
  have HX : Hid (X = _) := hX
  have HX1 : Hid (_ = _) := hX1
  clear hX hX1
  cases hf : okT ⟨k, n, ts⟩ with
  | false =>
    have HN : Hid (nodesT ⟨k, n, ts⟩ = 0) := by show _ = _; simpa [okT] using hf
    have HF : Hid (okT ⟨k, n, ts⟩ = false) := hf
    clear hf
    go_enter Try.func163, Try.ntmps163
    go_wp2_with fail
    rw [← HX.out]
    refine (lk_any 6 (by omega) _ _ _ _ _ _ _ _ _ _ _ _ (by omega) (by omega) HX1.out (by omega) hs1).mono ?_
    rintro e w1 ⟨rfl, hg, _⟩
    rw [look_ok, HF.out]
    have hb2 : Below w.heap.size w w1 := hXb.grown hg (by omega) (by simp)
    go_wp2_with fail
    go_ret
    rw [HN.out]
    exact ⟨rfl, hb2⟩
  | true =>
    have HN : Hid (∃ m, nodesW 6 ⟨k, n, ts⟩ = some m ∧ m ≤ 60 ∧ nodesT ⟨k, n, ts⟩ = m) := by
      show ∃ _, _
      unfold okT nodesT at hf
      unfold nodesT
      cases h : nodesW 6 ⟨k, n, ts⟩ with
      | none => simp [h] at hf
      | some m =>
        by_cases h6 : m ≤ 60
        · exact ⟨m, rfl, h6, by simp [h6]⟩
        · simp [h, h6] at hf
    have HF : Hid (okT ⟨k, n, ts⟩ = true) := hf
    clear hf
    go_enter Try.func163, Try.ntmps163
    go_wp2_with fail
    rw [← HX.out]
    refine (lk_any 6 (by omega) _ _ _ _ _ _ _ _ _ _ _ _ (by omega) (by omega) HX1.out (by omega) hs1).mono ?_
    rintro e w1 ⟨rfl, hg, c', hc1, hc2⟩
    rw [look_ok, HF.out]
    obtain ⟨m, hm, h60, hT⟩ := HN.out
    have hc3 := hc2 m hm (by omega)
    have hb2 : Below w.heap.size w w1 := hXb.grown hg (by omega) (by simp)
    have x0 := row_cell hc1 0
    simp at x0
    have HT : Hid (nodesT ⟨k, n, ts⟩ = m) := hT
    have HC : Hid (c' = ((0 : Nat) : Int) + m) := hc3
    clear hT hc3 hc1 hc2 hm HN
    go_wp2_with fail
    go_ret
    rw [HT.out]
    exact ⟨ret_int (by rw [HC.out]; omega), hb2⟩

end Go.Proofs.Ytikfbgkjgbdoiaa
