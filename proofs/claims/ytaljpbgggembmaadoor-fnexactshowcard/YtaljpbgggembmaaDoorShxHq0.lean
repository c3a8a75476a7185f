/-
  The program's 'headsOf' at every heap, and 'HeapOk'.
-/
import Derived.Test.YtaljpbgggembmaaDoorShxHp
namespace Go.Proofs.YtaljpbgggembmaaDoor
open Go.RowKit
set_option linter.unusedVariables false
set_option linter.unusedSimpArgs false

set_option maxRecDepth 100000 in
set_option maxHeartbeats 2000000 in
theorem headsOf_out (s : Int) (ao : Option Addr) (len cap : Nat) (l : List Wrd) (w : World) (hlen : len = l.length) (hl : len ≤ 1048576) (hwk : wok s l = false) :
    Calls Tryd.prog 22 #[vH s ao len cap] w fun e w' => e = .returned (.tuple #[.slice none 0 0, .bool false]) ∧ Below w.heap.size w w' := by
  obtain ⟨X, hX⟩ : ∃ X, X = ((w.alloc (.cells #[.int .i64 s, .slice ao len cap] 31)).alloc (.cells #[.slice none 0 0] 57)).alloc (.cells #[.bool false] 4) := ⟨_, rfl⟩
  have hXs : X.heap.size = w.heap.size + 3 := by rw [hX]; simp
  have hXb : Below w.heap.size w X := by rw [hX]; exact (((Below.refl _ _).alloc (Nat.le_refl _) _).alloc (by simp) _).alloc (by simp; omega) _
  have x0 : X.heap[w.heap.size]? = some (.cells #[.int .i64 s, .slice ao len cap] 31 (0, 0)) := by
    rw [hX, Below.heap_alloc _ _ _ (by simp; omega), Below.heap_alloc _ _ _ (by simp)]; exact heap_new (by simp)
  have x1 : X.heap[w.heap.size + 1]? = some (.cells #[.slice none 0 0] 57 (0, 0)) := by
    rw [hX, Below.heap_alloc _ _ _ (by simp)]; exact heap_new (by simp)
  have x2 : X.heap[w.heap.size + 1 + 1]? = some (.cells #[.bool false] 4 (0, 0)) := by
    rw [hX]; exact heap_new (by simp)
  have KP := heapSizeOk_any s X
  have HX : Hid (X = _) := hX
  have RW := two_cells (by omega) x1 x2 (by omega) (by omega) hXb (.slice none 0 0) (.bool false)
  have HRW : Hid (∀ Z, Z = _ → _) := RW
  have HW : Hid (sizeB s = true → ¬ (len : Int) ≤ s) := by
    intro h1 h2
    unfold wok at hwk
    rw [h1, ← hlen] at hwk
    simp at hwk
    omega
  clear hX hwk hlen RW
  obtain ⟨f0, f1⟩ := cells2 x0
  have q1 := row_cell x1 0
  have q2 := row_cell x2 0
  have r1 := row_free x1 0
  have r2 := row_free x2 0
  have hx3 : w.heap.size < X.heap.size := by omega
  clear hXs
  cases hsz : sizeB s with
  | false =>
    rw [hsz] at KP
    clear hsz
    go_enter Tryd.func22, Tryd.ntmps22
    go_wp2_with fail
    rw [← HX.out]
    refine KP.mono ?_
    rintro e w1 ⟨rfl, hw1⟩
    obtain rfl : X = w1 := hw1.symm
    clear KP
    go_wp2_with fail
    obtain ⟨t1, t2, t3, t4, t5⟩ := HRW.out _ rfl
    have s0 := row_cell t2 0
    have s1 := row_cell t3 0
    exact bodyPost_ret (v := .tuple #[.slice none 0 0, .bool false]) (by simp [results, Tryd.results22, go_sem, s0, s1]) rfl ⟨rfl, t4⟩
  | true =>
    have hfit := HW.out hsz
    rw [hsz] at KP
    clear hsz
    go_enter Tryd.func22, Tryd.ntmps22
    go_wp2_with fail
    rw [← HX.out]
    refine KP.mono ?_
    rintro e w1 ⟨rfl, hw1⟩
    obtain rfl : X = w1 := hw1.symm
    clear KP
    go_wp2_with fail
    obtain ⟨t1, t2, t3, t4, t5⟩ := HRW.out _ rfl
    have s0 := row_cell t2 0
    have s1 := row_cell t3 0
    exact bodyPost_ret (v := .tuple #[.slice none 0 0, .bool false]) (by simp [results, Tryd.results22, go_sem, s0, s1]) rfl ⟨rfl, t4⟩

theorem headsOf_any (L B : Nat) (s : Int) (ao : Option Addr) (len cap : Nat) (l : List Wrd) (w : World) (hB : B ≤ w.heap.size) (hs : Ws L B w ao len l) (hl : len ≤ 1048576) (hcap : len ≤ cap) :
    Calls Tryd.prog 22 #[vH s ao len cap] w fun e w' => HoEnd w.heap.size (okH s l) len (heads l) e w' ∧ Below w.heap.size w w' := by
  cases hw : wok s l with
  | true =>
    have e : okH s l = (decide (endO l = l.length) && fok l) := by unfold okH; rw [hw, Bool.true_and]
    rw [e]
    exact headsOf_in L B s ao len cap l w hB hs hl hcap hw
  | false =>
    have e : okH s l = false := by unfold okH; rw [hw, Bool.false_and]
    rw [e]
    exact headsOf_out s ao len cap l w hs.1 hl hw

end Go.Proofs.YtaljpbgggembmaaDoor
