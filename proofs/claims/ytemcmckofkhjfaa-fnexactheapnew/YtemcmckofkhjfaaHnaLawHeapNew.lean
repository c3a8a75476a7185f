/-
  'HeapNew' of both sides; the law FnExactHeapNew's walk.
-/
import Derived.Test.YtemcmckofkhjfaaHnaHn
import Derived.Test.YtemcmckofkhjfaaHnaLin
import Derived.Test.YtemcmckofkhjfaaHnaRdW
namespace Go.Proofs.Ytemcmckofkhjfaa
open Go.RowKit
set_option linter.unusedVariables false
set_option linter.unusedSimpArgs false

def sizeB (n : Int) : Bool := decide (0 ≤ n) && decide (n ≤ 5000)
def hnew (n : Int) : Int := if sizeB n then n else 0

set_option maxHeartbeats 400000 in
theorem heapSizeOk_any (n : Int) (w : World) : Calls Try.prog 31 #[.int .i64 n] w fun e w' => e = .returned (.bool (sizeB n)) ∧ w' = w := by
  obtain ⟨ans, hans⟩ : ∃ c, sizeB n = c := ⟨_, rfl⟩
  rw [hans]
  have HA : Hid (sizeB n = ans) := hans
  clear hans
  by_cases h0 : 0 ≤ n
  · by_cases h1 : n ≤ 5000
    · have HE : Hid (ans = true) := by show _ = _; rw [← HA.out]; simp [sizeB, h0, h1]
      go_enter Try.func31, Try.ntmps31
      go_wp2_with fail
      go_ret
      exact ⟨ret_bool (by rw [HE.out]), rfl⟩
    · have HE : Hid (ans = false) := by show _ = _; rw [← HA.out]; simp [sizeB, h0, h1]
      go_enter Try.func31, Try.ntmps31
      go_wp2_with fail
      go_ret
      exact ⟨ret_bool (by rw [HE.out]), rfl⟩
  · have HE : Hid (ans = false) := by show _ = _; rw [← HA.out]; simp [sizeB, h0]
    go_enter Try.func31, Try.ntmps31
    go_wp2_with fail
    go_ret
    exact ⟨ret_bool (by rw [HE.out]), rfl⟩

set_option maxHeartbeats 400000 in
theorem heapNew_any (n : Int) (w : World) : Calls Try.prog 9 #[.int .i64 n] w fun e w' => e = .returned (vH (hnew n) none 0 0) ∧ Below w.heap.size w w' := by
  have HH : Hid (hnew n = if sizeB n then n else 0) := rfl
  obtain ⟨r, hr⟩ : ∃ r, hnew n = r := ⟨_, rfl⟩
  rw [hr] at HH ⊢
  clear hr
  have K := heapSizeOk_any n (w.alloc (.cells #[.int .i64 0, .slice none 0 0] 24))
  cases hc : sizeB n with
  | true =>
    rw [hc] at K HH
    obtain rfl : r = n := HH
    go_enter Try.func9, Try.ntmps9
    go_wp2_with fail
    refine K.mono ?_
    rintro e w1 ⟨rfl, rfl⟩
    clear K
    go_wp2_with fail
    refine bodyPost_ret (v := vH r none 0 0) (by simp [results, Try.results9, go_sem]) rfl ⟨rfl, ?_⟩
    exact (Below.refl _ _).alloc (Nat.le_refl _) _
  | false =>
    rw [hc] at K HH
    obtain rfl : r = 0 := HH
    go_enter Try.func9, Try.ntmps9
    go_wp2_with fail
    refine K.mono ?_
    rintro e w1 ⟨rfl, rfl⟩
    clear K
    go_wp2_with fail
    refine bodyPost_ret (v := vH 0 none 0 0) (by simp [results, Try.results9, go_sem]) rfl ⟨rfl, ?_⟩
    exact (Below.refl _ _).alloc (Nat.le_refl _) _

set_option maxHeartbeats 400000 in
theorem sHeapNew_any (n : Int) (w : World) : Calls Try.prog 8 #[.int .i64 n] w fun e w' => e = .returned (vH (hnew n) none 0 0) ∧ Below w.heap.size w w' := by
  have HH : Hid (hnew n = if sizeB n then n else 0) := rfl
  obtain ⟨r, hr⟩ : ∃ r, hnew n = r := ⟨_, rfl⟩
  rw [hr] at HH ⊢
  clear hr
  have K := l1In_all n 0 5000 (w.alloc (.cells #[.int .i64 0, .slice none 0 0] 24))
  rw [show (decide (0 ≤ n) && decide (n ≤ 5000)) = sizeB n from rfl] at K
  cases hc : sizeB n with
  | true =>
    rw [hc] at K HH
    obtain rfl : r = n := HH
    go_enter Try.func8, Try.ntmps8
    go_wp2_with fail
    refine K.mono ?_
    rintro e w1 ⟨rfl, rfl⟩
    clear K
    go_wp2_with fail
    refine bodyPost_ret (v := vH r none 0 0) (by simp [results, Try.results8, go_sem]) rfl ⟨rfl, ?_⟩
    exact (Below.refl _ _).alloc (Nat.le_refl _) _
  | false =>
    rw [hc] at K HH
    obtain rfl : r = 0 := HH
    go_enter Try.func8, Try.ntmps8
    go_wp2_with fail
    refine K.mono ?_
    rintro e w1 ⟨rfl, rfl⟩
    clear K
    go_wp2_with fail
    refine bodyPost_ret (v := vH 0 none 0 0) (by simp [results, Try.results8, go_sem]) rfl ⟨rfl, ?_⟩
    exact (Below.refl _ _).alloc (Nat.le_refl _) _

set_option maxRecDepth 100000 in
set_option maxHeartbeats 2000000 in
theorem law_heapNew (n : Int) (w : World) (hn : in64 n) : Calls Try.prog 3 #[.int .i64 n] w fun e w' => e = .returned (.bool true) ∧ Below w.heap.size w w' := by
  have K1 : ∀ W, _ := sHeapNew_any n
  have K2 : ∀ W, _ := heapNew_any n
  have hw := ws_nil 0 0
  generalize hnew n = r at *
  go_enter Try.func3, Try.ntmps3
  go_wp2_with fail
  refine (K1 _).mono ?_
  rintro e w1 ⟨rfl, hb1⟩
  have hz1 := hb1.size
  go_wp2_with fail
  refine (K2 _).mono ?_
  rintro e w2 ⟨rfl, hb2⟩
  have hz2 := hb2.size
  simp only [World.size_alloc] at hz2
  have y2 : w2.heap[w1.heap.size]? = some (.cells #[.int .i64 r, .slice none 0 0] 24 (0, 0)) := (hb2.block w1.heap.size (by simp)).trans (heap_new rfl)
  obtain ⟨f0, f1⟩ := cells2 y2
  have q2 : w1.heap.size < w2.heap.size := by omega
  have hbw2 : Below w.heap.size w w2 := (hb1.alloc hz1 _).trans (hb2.mono (by simp; omega))
  go_wp2_with fail
  refine (eqHeap_any 0 0 0 0 _ _ _ _ _ _ _ [] _ (by omega) (by omega) (hw _ _) (hw _ _)).mono ?_
  rintro e w3 ⟨rfl, hb3⟩
  have hz3 := hb3.size
  simp only [World.size_alloc] at hz3
  have g2 : w3.heap[w2.heap.size]? = some (.cells #[.int .i64 r, .slice none 0 0] 24 (0, 0)) := (hb3.block w2.heap.size (by simp)).trans (heap_new rfl)
  have y3 := (hb3.block w1.heap.size (by simp; omega)).trans ((Below.heap_alloc _ _ _ q2).trans y2)
  obtain ⟨c0, c1⟩ := cells2 g2
  clear f0 f1
  have hbw3 : Below w.heap.size w w3 := (hbw2.alloc hbw2.size _).trans (hb3.mono (by simp; omega))
  go_wp2_with fail
  refine (markHeap_any (base := w3.heap.size) _ _ _ _ [] _ _ (wors_nil _ _) (Nat.le_refl _) rfl (by omega) (by simp)).mono ?_
  rintro e w4 ⟨rfl, hb4, _, hz4, hN4⟩
  have g4 := (hb4.block w2.heap.size (by omega)).trans g2
  have y4 := (hb4.block w1.heap.size (by omega)).trans y3
  clear c0 c1
  obtain ⟨c0, c1⟩ := cells2 g4
  have hbw4 : Below w.heap.size w w4 := hbw3.trans (hb4.mono (by omega))
  go_wp2_with fail
  refine (heldHeap_any (base := w3.heap.size) _ _ _ _ _ _ hN4 (by omega) (by simp)).mono ?_
  rintro e w5 ⟨rfl, hb5⟩
  have hz5 := hb5.size
  have hbw5 : Below w.heap.size w w5 := hbw4.trans (hb5.mono (by omega))
  clear c0 c1
  have g5 := (hb5.block w2.heap.size (by omega)).trans g4
  have y5 := (hb5.block w1.heap.size (by omega)).trans y4
  have hN5 := wors_bel hN4 hb5
  go_wp2_with fail
  refine (K2 _).mono ?_
  rintro e w6 ⟨rfl, hb6⟩
  have hz6 := hb6.size
  have g6 := (hb6.block w2.heap.size (by omega)).trans g5
  have y6 := (hb6.block w1.heap.size (by omega)).trans y5
  have hN6 := wors_bel hN5 hb6
  obtain ⟨f0, f1⟩ := cells2 y6
  have q6 : w1.heap.size < w6.heap.size := by omega
  have hbw6 : Below w.heap.size w w6 := hbw5.trans (hb6.mono (by omega))
  go_wp2_with fail
  refine (eqHeap_any 0 0 0 0 _ _ _ _ _ _ _ [] _ (by omega) (by omega) (hw _ _) (hw _ _)).mono ?_
  rintro e w7 ⟨rfl, hb7⟩
  have hz7 := hb7.size
  simp only [World.size_alloc] at hz7
  have g7 := (hb7.block w2.heap.size (by simp; omega)).trans ((Below.heap_alloc _ _ _ (by omega)).trans g6)
  have hN7 := wors_bel (wors_bel hN6 ((Below.refl _ _).alloc (Nat.le_refl _) _)) hb7
  clear f0 f1
  obtain ⟨c0, c1⟩ := cells2 g7
  have hbw7 : Below w.heap.size w w7 := (hbw6.alloc hbw6.size _).trans (hb7.mono (by simp; omega))
  go_wp2_with fail
  refine (heldHeap_any (base := w3.heap.size) _ _ _ _ _ _ hN7 (by omega) (by simp)).mono ?_
  rintro e w8 ⟨rfl, hb8⟩
  have hbw8 : Below w.heap.size w w8 := hbw7.trans (hb8.mono (by omega))
  go_wp2_with fail
  go_ret
  exact ⟨rfl, hbw8⟩

end Go.Proofs.Ytemcmckofkhjfaa
