/-
  What the program's 'formBehind' comes to, kind by kind; 'formOf'. (Written by mkfo.py.)
-/
import Derived.Test.YtgljlgiebmnekaaGreatDoorQuFo
namespace Go.Proofs.YtgljlgiebmnekaaGreatDoor
open Go.RowKit
set_option linter.unusedVariables false
set_option linter.unusedSimpArgs false

set_option maxRecDepth 100000 in
set_option maxHeartbeats 1000000 in
theorem form_1 (p : Nat) (t : Tm) (a1 : Option Addr) (l1 c1 : Nat) (a2 : Option Addr) (l2 c2 : Nat) (a3 : Option Addr) (l3 c3 : Nat) (τ : Nat → Int → TypeId) (u : Nat → Int → Value) (k : Nat → Int) (w w' : World) (c : Int) (hw : Nx p w w' c) (hK : t.K = 1) (hc : 0 ≤ c) (hk : ∀ i, 0 ≤ k i) (hm : (c + 1) ≤ 1000000)  :
    Calls Tryz.prog 55 #[.agg #[.int .i64 t.K, .int .i64 t.N, .string t.S, .string t.Z, .int .i64 t.T.K, .int .i64 t.T.N, .slice a1 l1 c1, .slice a2 l2 c2, .slice a3 l3 c3], .pointer (some ⟨p, 0, none⟩)] w' fun e w'' => e = .returned (.iface 114 (.agg #[.int .i64 t.N])) ∧ Nx p w' w'' (c + 1) := by
  have hpl := hw.lt
  have r0 := cell_1 hw.is
  have r1 := row_free hw.is 0
  obtain ⟨X, hX⟩ : ∃ X, X = ((w'.setCell ⟨p, 0, none⟩ (.int .i64 (c + 1))).alloc (.cells #[.int .i64 t.K, .int .i64 t.N, .string t.S, .string t.Z, .int .i64 t.T.K, .int .i64 t.T.N, .slice a1 l1 c1, .slice a2 l2 c2, .slice a3 l3 c3] 34)).alloc (.cells #[.pointer (some ⟨p, 0, none⟩)] 48) := ⟨_, rfl⟩
  have hXb : Below (w'.setCell ⟨p, 0, none⟩ (.int .i64 (c + 1))).heap.size (w'.setCell ⟨p, 0, none⟩ (.int .i64 (c + 1))) X := by rw [hX]; exact ((Below.refl _ _).alloc (Nat.le_refl _) _).alloc (by simp) _
  have hXs : X.heap.size = w'.heap.size + 2 := by rw [hX]; simp
  have hXp : X.heap[p]? = some (.cells #[.int .i64 (c + 1)] 3 (0, 0)) := by rw [hXb.block p (by simpa using hpl), row_set hw.is]; rfl
  have hN : Nx p w' X (c + 1) := ⟨⟨hXb.os, hXb.tape, hXb.output, by omega, fun i hi hne => (hXb.block i (by simpa using hi)).trans (row_other _ _ _ hne), fun i hi => Or.inl hi⟩, hXp⟩
  have hbx : X.heap[w'.heap.size]? = some (.cells #[.int .i64 t.K, .int .i64 t.N, .string t.S, .string t.Z, .int .i64 t.T.K, .int .i64 t.T.N, .slice a1 l1 c1, .slice a2 l2 c2, .slice a3 l3 c3] 34 (0, 0)) := by rw [hX, Below.heap_alloc _ _ _ (by simp)]; exact heap_new (by simp)
  have hbp : X.heap[w'.heap.size + 1]? = some (.cells #[.pointer (some ⟨p, 0, none⟩)] 48 (0, 0)) := by rw [hX]; exact heap_new (by simp)
  have hw1 : IntKind.i64.wrap (c + 1) = c + 1 := by have h0 := hk 0; have h1 := hk 1; have h2 := hk 2; rw [IntKind.wrap_i64]; omega
  have HX : Hid (X = ((w'.setCell ⟨p, 0, none⟩ (.int .i64 (c + 1))).alloc (.cells #[.int .i64 1, .int .i64 t.N, .string t.S, .string t.Z, .int .i64 t.T.K, .int .i64 t.T.N, .slice a1 l1 c1, .slice a2 l2 c2, .slice a3 l3 c3] 34)).alloc (.cells #[.pointer (some ⟨p, 0, none⟩)] 48)) := by show _ = _; rw [hX, hK]
  clear hX hbx hbp hXp hXb
  go_enter Tryz.func55, Tryz.ntmps55
  go_wp2_with fail
  rw [← HX.out]
  go_ret
  exact ⟨rfl, hN⟩

set_option maxRecDepth 100000 in
set_option maxHeartbeats 1000000 in
theorem form_2 (p : Nat) (t : Tm) (a1 : Option Addr) (l1 c1 : Nat) (a2 : Option Addr) (l2 c2 : Nat) (a3 : Option Addr) (l3 c3 : Nat) (τ : Nat → Int → TypeId) (u : Nat → Int → Value) (k : Nat → Int) (w w' : World) (c : Int) (hw : Nx p w w' c) (hK : t.K = 2) (hc : 0 ≤ c) (hk : ∀ i, 0 ≤ k i) (hm : (c + 1) ≤ 1000000)  :
    Calls Tryz.prog 55 #[.agg #[.int .i64 t.K, .int .i64 t.N, .string t.S, .string t.Z, .int .i64 t.T.K, .int .i64 t.T.N, .slice a1 l1 c1, .slice a2 l2 c2, .slice a3 l3 c3], .pointer (some ⟨p, 0, none⟩)] w' fun e w'' => e = .returned (.iface 115 (.agg #[.int .i64 t.N])) ∧ Nx p w' w'' (c + 1) := by
  have hpl := hw.lt
  have r0 := cell_1 hw.is
  have r1 := row_free hw.is 0
  obtain ⟨X, hX⟩ : ∃ X, X = ((w'.setCell ⟨p, 0, none⟩ (.int .i64 (c + 1))).alloc (.cells #[.int .i64 t.K, .int .i64 t.N, .string t.S, .string t.Z, .int .i64 t.T.K, .int .i64 t.T.N, .slice a1 l1 c1, .slice a2 l2 c2, .slice a3 l3 c3] 34)).alloc (.cells #[.pointer (some ⟨p, 0, none⟩)] 48) := ⟨_, rfl⟩
  have hXb : Below (w'.setCell ⟨p, 0, none⟩ (.int .i64 (c + 1))).heap.size (w'.setCell ⟨p, 0, none⟩ (.int .i64 (c + 1))) X := by rw [hX]; exact ((Below.refl _ _).alloc (Nat.le_refl _) _).alloc (by simp) _
  have hXs : X.heap.size = w'.heap.size + 2 := by rw [hX]; simp
  have hXp : X.heap[p]? = some (.cells #[.int .i64 (c + 1)] 3 (0, 0)) := by rw [hXb.block p (by simpa using hpl), row_set hw.is]; rfl
  have hN : Nx p w' X (c + 1) := ⟨⟨hXb.os, hXb.tape, hXb.output, by omega, fun i hi hne => (hXb.block i (by simpa using hi)).trans (row_other _ _ _ hne), fun i hi => Or.inl hi⟩, hXp⟩
  have hbx : X.heap[w'.heap.size]? = some (.cells #[.int .i64 t.K, .int .i64 t.N, .string t.S, .string t.Z, .int .i64 t.T.K, .int .i64 t.T.N, .slice a1 l1 c1, .slice a2 l2 c2, .slice a3 l3 c3] 34 (0, 0)) := by rw [hX, Below.heap_alloc _ _ _ (by simp)]; exact heap_new (by simp)
  have hbp : X.heap[w'.heap.size + 1]? = some (.cells #[.pointer (some ⟨p, 0, none⟩)] 48 (0, 0)) := by rw [hX]; exact heap_new (by simp)
  have hw1 : IntKind.i64.wrap (c + 1) = c + 1 := by have h0 := hk 0; have h1 := hk 1; have h2 := hk 2; rw [IntKind.wrap_i64]; omega
  have HX : Hid (X = ((w'.setCell ⟨p, 0, none⟩ (.int .i64 (c + 1))).alloc (.cells #[.int .i64 2, .int .i64 t.N, .string t.S, .string t.Z, .int .i64 t.T.K, .int .i64 t.T.N, .slice a1 l1 c1, .slice a2 l2 c2, .slice a3 l3 c3] 34)).alloc (.cells #[.pointer (some ⟨p, 0, none⟩)] 48)) := by show _ = _; rw [hX, hK]
  clear hX hbx hbp hXp hXb
  go_enter Tryz.func55, Tryz.ntmps55
  go_wp2_with fail
  rw [← HX.out]
  go_ret
  exact ⟨rfl, hN⟩

set_option maxRecDepth 100000 in
set_option maxHeartbeats 1000000 in
theorem form_3 (p : Nat) (t : Tm) (a1 : Option Addr) (l1 c1 : Nat) (a2 : Option Addr) (l2 c2 : Nat) (a3 : Option Addr) (l3 c3 : Nat) (τ : Nat → Int → TypeId) (u : Nat → Int → Value) (k : Nat → Int) (w w' : World) (c : Int) (hw : Nx p w w' c) (hK : t.K = 3) (hc : 0 ≤ c) (hk : ∀ i, 0 ≤ k i) (hm : (c + 1) ≤ 1000000)  :
    Calls Tryz.prog 55 #[.agg #[.int .i64 t.K, .int .i64 t.N, .string t.S, .string t.Z, .int .i64 t.T.K, .int .i64 t.T.N, .slice a1 l1 c1, .slice a2 l2 c2, .slice a3 l3 c3], .pointer (some ⟨p, 0, none⟩)] w' fun e w'' => e = .returned (.iface 88 (.agg #[.string t.S, .slice a2 l2 c2])) ∧ Nx p w' w'' (c + 1) := by
  have hpl := hw.lt
  have r0 := cell_1 hw.is
  have r1 := row_free hw.is 0
  obtain ⟨X, hX⟩ : ∃ X, X = ((w'.setCell ⟨p, 0, none⟩ (.int .i64 (c + 1))).alloc (.cells #[.int .i64 t.K, .int .i64 t.N, .string t.S, .string t.Z, .int .i64 t.T.K, .int .i64 t.T.N, .slice a1 l1 c1, .slice a2 l2 c2, .slice a3 l3 c3] 34)).alloc (.cells #[.pointer (some ⟨p, 0, none⟩)] 48) := ⟨_, rfl⟩
  have hXb : Below (w'.setCell ⟨p, 0, none⟩ (.int .i64 (c + 1))).heap.size (w'.setCell ⟨p, 0, none⟩ (.int .i64 (c + 1))) X := by rw [hX]; exact ((Below.refl _ _).alloc (Nat.le_refl _) _).alloc (by simp) _
  have hXs : X.heap.size = w'.heap.size + 2 := by rw [hX]; simp
  have hXp : X.heap[p]? = some (.cells #[.int .i64 (c + 1)] 3 (0, 0)) := by rw [hXb.block p (by simpa using hpl), row_set hw.is]; rfl
  have hN : Nx p w' X (c + 1) := ⟨⟨hXb.os, hXb.tape, hXb.output, by omega, fun i hi hne => (hXb.block i (by simpa using hi)).trans (row_other _ _ _ hne), fun i hi => Or.inl hi⟩, hXp⟩
  have hbx : X.heap[w'.heap.size]? = some (.cells #[.int .i64 t.K, .int .i64 t.N, .string t.S, .string t.Z, .int .i64 t.T.K, .int .i64 t.T.N, .slice a1 l1 c1, .slice a2 l2 c2, .slice a3 l3 c3] 34 (0, 0)) := by rw [hX, Below.heap_alloc _ _ _ (by simp)]; exact heap_new (by simp)
  have hbp : X.heap[w'.heap.size + 1]? = some (.cells #[.pointer (some ⟨p, 0, none⟩)] 48 (0, 0)) := by rw [hX]; exact heap_new (by simp)
  have hw1 : IntKind.i64.wrap (c + 1) = c + 1 := by have h0 := hk 0; have h1 := hk 1; have h2 := hk 2; rw [IntKind.wrap_i64]; omega
  have HX : Hid (X = ((w'.setCell ⟨p, 0, none⟩ (.int .i64 (c + 1))).alloc (.cells #[.int .i64 3, .int .i64 t.N, .string t.S, .string t.Z, .int .i64 t.T.K, .int .i64 t.T.N, .slice a1 l1 c1, .slice a2 l2 c2, .slice a3 l3 c3] 34)).alloc (.cells #[.pointer (some ⟨p, 0, none⟩)] 48)) := by show _ = _; rw [hX, hK]
  clear hX hbx hbp hXp hXb
  go_enter Tryz.func55, Tryz.ntmps55
  go_wp2_with fail
  rw [← HX.out]
  go_ret
  exact ⟨rfl, hN⟩

set_option maxRecDepth 100000 in
set_option maxHeartbeats 1000000 in
theorem form_4 (p : Nat) (t : Tm) (a1 : Option Addr) (l1 c1 : Nat) (a2 : Option Addr) (l2 c2 : Nat) (a3 : Option Addr) (l3 c3 : Nat) (τ : Nat → Int → TypeId) (u : Nat → Int → Value) (k : Nat → Int) (w w' : World) (c : Int) (hw : Nx p w w' c) (hK : t.K = 4) (hc : 0 ≤ c) (hk : ∀ i, 0 ≤ k i) (hm : (c + 1 + k 0) ≤ 1000000) (h0 : PartIs p w #[.int .i64 t.K, .int .i64 t.N, .string t.S, .string t.Z, .int .i64 t.T.K, .int .i64 t.T.N, .slice a1 l1 c1, .slice a2 l2 c2, .slice a3 l3 c3] 0 (fun c => .iface (τ 0 c) (u 0 c)) (k 0)) :
    Calls Tryz.prog 55 #[.agg #[.int .i64 t.K, .int .i64 t.N, .string t.S, .string t.Z, .int .i64 t.T.K, .int .i64 t.T.N, .slice a1 l1 c1, .slice a2 l2 c2, .slice a3 l3 c3], .pointer (some ⟨p, 0, none⟩)] w' fun e w'' => e = .returned (.iface 91 (.agg #[.int .i64 c, .string t.S, .int .i64 t.T.K, .int .i64 t.T.N, .slice a1 l1 c1, .iface (τ 0 (c + 1)) (u 0 (c + 1))])) ∧ Nx p w' w'' (c + 1 + k 0) := by
  have hpl := hw.lt
  have r0 := cell_1 hw.is
  have r1 := row_free hw.is 0
  obtain ⟨X, hX⟩ : ∃ X, X = ((w'.setCell ⟨p, 0, none⟩ (.int .i64 (c + 1))).alloc (.cells #[.int .i64 t.K, .int .i64 t.N, .string t.S, .string t.Z, .int .i64 t.T.K, .int .i64 t.T.N, .slice a1 l1 c1, .slice a2 l2 c2, .slice a3 l3 c3] 34)).alloc (.cells #[.pointer (some ⟨p, 0, none⟩)] 48) := ⟨_, rfl⟩
  have hXb : Below (w'.setCell ⟨p, 0, none⟩ (.int .i64 (c + 1))).heap.size (w'.setCell ⟨p, 0, none⟩ (.int .i64 (c + 1))) X := by rw [hX]; exact ((Below.refl _ _).alloc (Nat.le_refl _) _).alloc (by simp) _
  have hXs : X.heap.size = w'.heap.size + 2 := by rw [hX]; simp
  have hXp : X.heap[p]? = some (.cells #[.int .i64 (c + 1)] 3 (0, 0)) := by rw [hXb.block p (by simpa using hpl), row_set hw.is]; rfl
  have hN : Nx p w' X (c + 1) := ⟨⟨hXb.os, hXb.tape, hXb.output, by omega, fun i hi hne => (hXb.block i (by simpa using hi)).trans (row_other _ _ _ hne), fun i hi => Or.inl hi⟩, hXp⟩
  have hbx : X.heap[w'.heap.size]? = some (.cells #[.int .i64 t.K, .int .i64 t.N, .string t.S, .string t.Z, .int .i64 t.T.K, .int .i64 t.T.N, .slice a1 l1 c1, .slice a2 l2 c2, .slice a3 l3 c3] 34 (0, 0)) := by rw [hX, Below.heap_alloc _ _ _ (by simp)]; exact heap_new (by simp)
  have hbp : X.heap[w'.heap.size + 1]? = some (.cells #[.pointer (some ⟨p, 0, none⟩)] 48 (0, 0)) := by rw [hX]; exact heap_new (by simp)
  have hw1 : IntKind.i64.wrap (c + 1) = c + 1 := by have h0 := hk 0; have h1 := hk 1; have h2 := hk 2; rw [IntKind.wrap_i64]; omega
  have HX : Hid (X = ((w'.setCell ⟨p, 0, none⟩ (.int .i64 (c + 1))).alloc (.cells #[.int .i64 4, .int .i64 t.N, .string t.S, .string t.Z, .int .i64 t.T.K, .int .i64 t.T.N, .slice a1 l1 c1, .slice a2 l2 c2, .slice a3 l3 c3] 34)).alloc (.cells #[.pointer (some ⟨p, 0, none⟩)] 48)) := by show _ = _; rw [hX, hK]
  have HP0 : Hid (∀ y, Nx p X y (c + 1) → Calls Tryz.prog 66 #[.int .i64 0, .pointer (some ⟨w'.heap.size, 0, none⟩), .pointer (some ⟨w'.heap.size + 1, 0, none⟩)] y fun e y2 => e = .returned (.iface (τ 0 (c + 1)) (u 0 (c + 1))) ∧ Nx p X y2 (c + 1 + k 0)) := fun y hy =>
    (h0.call w'.heap.size (w'.heap.size + 1) y (c + 1) ((hw.trans hN).trans hy) ((hy.kf.block _ (by omega) (by omega)).trans hbx) ((hy.kf.block _ (by omega) (by omega)).trans hbp) (by have g0 := hk 0; have g1 := hk 1; have g2 := hk 2; omega) (by have g0 := hk 0; have g1 := hk 1; have g2 := hk 2; omega)).mono fun e y2 ⟨g1, g2⟩ => ⟨g1, hy.trans g2⟩
  have HS : Hid (∀ W ci, Nx p X W ci → W.cell? ⟨w'.heap.size, 0, none⟩ = some (.int .i64 4) ∧ W.cell? ⟨w'.heap.size, 1, none⟩ = some (.int .i64 t.N) ∧ W.cell? ⟨w'.heap.size, 2, none⟩ = some (.string t.S) ∧ W.cell? ⟨w'.heap.size, 3, none⟩ = some (.string t.Z) ∧ W.cell? ⟨w'.heap.size, 4, none⟩ = some (.int .i64 t.T.K) ∧ W.cell? ⟨w'.heap.size, 5, none⟩ = some (.int .i64 t.T.N) ∧ W.cell? ⟨w'.heap.size, 6, none⟩ = some (.slice a1 l1 c1) ∧ W.cell? ⟨w'.heap.size, 7, none⟩ = some (.slice a2 l2 c2) ∧ W.cell? ⟨w'.heap.size, 8, none⟩ = some (.slice a3 l3 c3)) := fun W ci hW => by
    obtain ⟨q0, q1, q2, q3, q4, q5, q6, q7, q8⟩ := Nine.box ((hW.kf.block _ (by omega) (by omega)).trans hbx)
    rw [hK] at q0
    exact ⟨q0, q1, q2, q3, q4, q5, q6, q7, q8⟩
  have z0 : Nx p X X.drew (c + 1) := Nx.drew ⟨Kf.of_below (Below.refl _ _), hXp⟩
  clear hX hbx hbp hXp hXb
  go_enter Tryz.func55, Tryz.ntmps55
  go_wp2_with fail
  rw [← HX.out]
  go_region_held3 (fun W => W.cell? ⟨w'.heap.size, 0, none⟩ = some (.int .i64 4) ∧ W.cell? ⟨w'.heap.size, 1, none⟩ = some (.int .i64 t.N) ∧ W.cell? ⟨w'.heap.size, 2, none⟩ = some (.string t.S) ∧ W.cell? ⟨w'.heap.size, 3, none⟩ = some (.string t.Z) ∧ W.cell? ⟨w'.heap.size, 4, none⟩ = some (.int .i64 t.T.K) ∧ W.cell? ⟨w'.heap.size, 5, none⟩ = some (.int .i64 t.T.N) ∧ W.cell? ⟨w'.heap.size, 6, none⟩ = some (.slice a1 l1 c1) ∧ W.cell? ⟨w'.heap.size, 7, none⟩ = some (.slice a2 l2 c2) ∧ W.cell? ⟨w'.heap.size, 8, none⟩ = some (.slice a3 l3 c3))
    (first | with_reducible exact HS.out _ _ z1 | with_reducible exact HS.out _ _ z0)
    (first | (go_at_call 66; refine (HP0.out _ z0).mono ?_; rintro e y1 ⟨rfl, z1⟩))
  all_goals
    go_wp2_with fail
    go_ret
    exact ⟨rfl, hN.trans z1⟩

set_option maxRecDepth 100000 in
set_option maxHeartbeats 1000000 in
theorem form_5 (p : Nat) (t : Tm) (a1 : Option Addr) (l1 c1 : Nat) (a2 : Option Addr) (l2 c2 : Nat) (a3 : Option Addr) (l3 c3 : Nat) (τ : Nat → Int → TypeId) (u : Nat → Int → Value) (k : Nat → Int) (w w' : World) (c : Int) (hw : Nx p w w' c) (hK : t.K = 5) (hc : 0 ≤ c) (hk : ∀ i, 0 ≤ k i) (hm : (c + 1 + k 0 + k 1) ≤ 1000000) (h0 : PartIs p w #[.int .i64 t.K, .int .i64 t.N, .string t.S, .string t.Z, .int .i64 t.T.K, .int .i64 t.T.N, .slice a1 l1 c1, .slice a2 l2 c2, .slice a3 l3 c3] 0 (fun c => .iface (τ 0 c) (u 0 c)) (k 0)) (h1 : PartIs p w #[.int .i64 t.K, .int .i64 t.N, .string t.S, .string t.Z, .int .i64 t.T.K, .int .i64 t.T.N, .slice a1 l1 c1, .slice a2 l2 c2, .slice a3 l3 c3] 1 (fun c => .iface (τ 1 c) (u 1 c)) (k 1)) :
    Calls Tryz.prog 55 #[.agg #[.int .i64 t.K, .int .i64 t.N, .string t.S, .string t.Z, .int .i64 t.T.K, .int .i64 t.T.N, .slice a1 l1 c1, .slice a2 l2 c2, .slice a3 l3 c3], .pointer (some ⟨p, 0, none⟩)] w' fun e w'' => e = .returned (.iface 117 (.agg #[.int .i64 c, .iface (τ 0 (c + 1)) (u 0 (c + 1)), .iface (τ 1 (c + 1 + k 0)) (u 1 (c + 1 + k 0))])) ∧ Nx p w' w'' (c + 1 + k 0 + k 1) := by
  have hpl := hw.lt
  have r0 := cell_1 hw.is
  have r1 := row_free hw.is 0
  obtain ⟨X, hX⟩ : ∃ X, X = ((w'.setCell ⟨p, 0, none⟩ (.int .i64 (c + 1))).alloc (.cells #[.int .i64 t.K, .int .i64 t.N, .string t.S, .string t.Z, .int .i64 t.T.K, .int .i64 t.T.N, .slice a1 l1 c1, .slice a2 l2 c2, .slice a3 l3 c3] 34)).alloc (.cells #[.pointer (some ⟨p, 0, none⟩)] 48) := ⟨_, rfl⟩
  have hXb : Below (w'.setCell ⟨p, 0, none⟩ (.int .i64 (c + 1))).heap.size (w'.setCell ⟨p, 0, none⟩ (.int .i64 (c + 1))) X := by rw [hX]; exact ((Below.refl _ _).alloc (Nat.le_refl _) _).alloc (by simp) _
  have hXs : X.heap.size = w'.heap.size + 2 := by rw [hX]; simp
  have hXp : X.heap[p]? = some (.cells #[.int .i64 (c + 1)] 3 (0, 0)) := by rw [hXb.block p (by simpa using hpl), row_set hw.is]; rfl
  have hN : Nx p w' X (c + 1) := ⟨⟨hXb.os, hXb.tape, hXb.output, by omega, fun i hi hne => (hXb.block i (by simpa using hi)).trans (row_other _ _ _ hne), fun i hi => Or.inl hi⟩, hXp⟩
  have hbx : X.heap[w'.heap.size]? = some (.cells #[.int .i64 t.K, .int .i64 t.N, .string t.S, .string t.Z, .int .i64 t.T.K, .int .i64 t.T.N, .slice a1 l1 c1, .slice a2 l2 c2, .slice a3 l3 c3] 34 (0, 0)) := by rw [hX, Below.heap_alloc _ _ _ (by simp)]; exact heap_new (by simp)
  have hbp : X.heap[w'.heap.size + 1]? = some (.cells #[.pointer (some ⟨p, 0, none⟩)] 48 (0, 0)) := by rw [hX]; exact heap_new (by simp)
  have hw1 : IntKind.i64.wrap (c + 1) = c + 1 := by have h0 := hk 0; have h1 := hk 1; have h2 := hk 2; rw [IntKind.wrap_i64]; omega
  have HX : Hid (X = ((w'.setCell ⟨p, 0, none⟩ (.int .i64 (c + 1))).alloc (.cells #[.int .i64 5, .int .i64 t.N, .string t.S, .string t.Z, .int .i64 t.T.K, .int .i64 t.T.N, .slice a1 l1 c1, .slice a2 l2 c2, .slice a3 l3 c3] 34)).alloc (.cells #[.pointer (some ⟨p, 0, none⟩)] 48)) := by show _ = _; rw [hX, hK]
  have HP0 : Hid (∀ y, Nx p X y (c + 1) → Calls Tryz.prog 66 #[.int .i64 0, .pointer (some ⟨w'.heap.size, 0, none⟩), .pointer (some ⟨w'.heap.size + 1, 0, none⟩)] y fun e y2 => e = .returned (.iface (τ 0 (c + 1)) (u 0 (c + 1))) ∧ Nx p X y2 (c + 1 + k 0)) := fun y hy =>
    (h0.call w'.heap.size (w'.heap.size + 1) y (c + 1) ((hw.trans hN).trans hy) ((hy.kf.block _ (by omega) (by omega)).trans hbx) ((hy.kf.block _ (by omega) (by omega)).trans hbp) (by have g0 := hk 0; have g1 := hk 1; have g2 := hk 2; omega) (by have g0 := hk 0; have g1 := hk 1; have g2 := hk 2; omega)).mono fun e y2 ⟨g1, g2⟩ => ⟨g1, hy.trans g2⟩
  have HP1 : Hid (∀ y, Nx p X y (c + 1 + k 0) → Calls Tryz.prog 66 #[.int .i64 1, .pointer (some ⟨w'.heap.size, 0, none⟩), .pointer (some ⟨w'.heap.size + 1, 0, none⟩)] y fun e y2 => e = .returned (.iface (τ 1 (c + 1 + k 0)) (u 1 (c + 1 + k 0))) ∧ Nx p X y2 (c + 1 + k 0 + k 1)) := fun y hy =>
    (h1.call w'.heap.size (w'.heap.size + 1) y (c + 1 + k 0) ((hw.trans hN).trans hy) ((hy.kf.block _ (by omega) (by omega)).trans hbx) ((hy.kf.block _ (by omega) (by omega)).trans hbp) (by have g0 := hk 0; have g1 := hk 1; have g2 := hk 2; omega) (by have g0 := hk 0; have g1 := hk 1; have g2 := hk 2; omega)).mono fun e y2 ⟨g1, g2⟩ => ⟨g1, hy.trans g2⟩
  have q := Nine.box hbx
  obtain ⟨q0, q1, q2, q3, q4, q5, q6, q7, q8⟩ := q
  rw [hK] at q0
  have z0 : Nx p X X (c + 1) := ⟨Kf.of_below (Below.refl _ _), hXp⟩
  clear hX hbx hbp hXp hXb
  go_enter Tryz.func55, Tryz.ntmps55
  go_wp2_with fail
  rw [← HX.out]
  refine (HP0.out _ z0).mono ?_
  rintro e y0 ⟨rfl, z1⟩
  go_wp2_with fail
  refine (HP1.out _ z1).mono ?_
  rintro e y1 ⟨rfl, z2⟩
  go_wp2_with fail
  go_ret
  exact ⟨rfl, hN.trans z2⟩

set_option maxRecDepth 100000 in
set_option maxHeartbeats 1000000 in
theorem form_6 (p : Nat) (t : Tm) (a1 : Option Addr) (l1 c1 : Nat) (a2 : Option Addr) (l2 c2 : Nat) (a3 : Option Addr) (l3 c3 : Nat) (τ : Nat → Int → TypeId) (u : Nat → Int → Value) (k : Nat → Int) (w w' : World) (c : Int) (hw : Nx p w w' c) (hK : t.K = 6) (hc : 0 ≤ c) (hk : ∀ i, 0 ≤ k i) (hm : (c + 1 + k 0 + k 1) ≤ 1000000) (h0 : PartIs p w #[.int .i64 t.K, .int .i64 t.N, .string t.S, .string t.Z, .int .i64 t.T.K, .int .i64 t.T.N, .slice a1 l1 c1, .slice a2 l2 c2, .slice a3 l3 c3] 0 (fun c => .iface (τ 0 c) (u 0 c)) (k 0)) (h1 : PartIs p w #[.int .i64 t.K, .int .i64 t.N, .string t.S, .string t.Z, .int .i64 t.T.K, .int .i64 t.T.N, .slice a1 l1 c1, .slice a2 l2 c2, .slice a3 l3 c3] 1 (fun c => .iface (τ 1 c) (u 1 c)) (k 1)) :
    Calls Tryz.prog 55 #[.agg #[.int .i64 t.K, .int .i64 t.N, .string t.S, .string t.Z, .int .i64 t.T.K, .int .i64 t.T.N, .slice a1 l1 c1, .slice a2 l2 c2, .slice a3 l3 c3], .pointer (some ⟨p, 0, none⟩)] w' fun e w'' => e = .returned (.iface 94 (.agg #[.string t.S, .int .i64 t.N, .iface (τ 0 (c + 1)) (u 0 (c + 1)), .iface (τ 1 (c + 1 + k 0)) (u 1 (c + 1 + k 0))])) ∧ Nx p w' w'' (c + 1 + k 0 + k 1) := by
  have hpl := hw.lt
  have r0 := cell_1 hw.is
  have r1 := row_free hw.is 0
  obtain ⟨X, hX⟩ : ∃ X, X = ((w'.setCell ⟨p, 0, none⟩ (.int .i64 (c + 1))).alloc (.cells #[.int .i64 t.K, .int .i64 t.N, .string t.S, .string t.Z, .int .i64 t.T.K, .int .i64 t.T.N, .slice a1 l1 c1, .slice a2 l2 c2, .slice a3 l3 c3] 34)).alloc (.cells #[.pointer (some ⟨p, 0, none⟩)] 48) := ⟨_, rfl⟩
  have hXb : Below (w'.setCell ⟨p, 0, none⟩ (.int .i64 (c + 1))).heap.size (w'.setCell ⟨p, 0, none⟩ (.int .i64 (c + 1))) X := by rw [hX]; exact ((Below.refl _ _).alloc (Nat.le_refl _) _).alloc (by simp) _
  have hXs : X.heap.size = w'.heap.size + 2 := by rw [hX]; simp
  have hXp : X.heap[p]? = some (.cells #[.int .i64 (c + 1)] 3 (0, 0)) := by rw [hXb.block p (by simpa using hpl), row_set hw.is]; rfl
  have hN : Nx p w' X (c + 1) := ⟨⟨hXb.os, hXb.tape, hXb.output, by omega, fun i hi hne => (hXb.block i (by simpa using hi)).trans (row_other _ _ _ hne), fun i hi => Or.inl hi⟩, hXp⟩
  have hbx : X.heap[w'.heap.size]? = some (.cells #[.int .i64 t.K, .int .i64 t.N, .string t.S, .string t.Z, .int .i64 t.T.K, .int .i64 t.T.N, .slice a1 l1 c1, .slice a2 l2 c2, .slice a3 l3 c3] 34 (0, 0)) := by rw [hX, Below.heap_alloc _ _ _ (by simp)]; exact heap_new (by simp)
  have hbp : X.heap[w'.heap.size + 1]? = some (.cells #[.pointer (some ⟨p, 0, none⟩)] 48 (0, 0)) := by rw [hX]; exact heap_new (by simp)
  have hw1 : IntKind.i64.wrap (c + 1) = c + 1 := by have h0 := hk 0; have h1 := hk 1; have h2 := hk 2; rw [IntKind.wrap_i64]; omega
  have HX : Hid (X = ((w'.setCell ⟨p, 0, none⟩ (.int .i64 (c + 1))).alloc (.cells #[.int .i64 6, .int .i64 t.N, .string t.S, .string t.Z, .int .i64 t.T.K, .int .i64 t.T.N, .slice a1 l1 c1, .slice a2 l2 c2, .slice a3 l3 c3] 34)).alloc (.cells #[.pointer (some ⟨p, 0, none⟩)] 48)) := by show _ = _; rw [hX, hK]
  have HP0 : Hid (∀ y, Nx p X y (c + 1) → Calls Tryz.prog 66 #[.int .i64 0, .pointer (some ⟨w'.heap.size, 0, none⟩), .pointer (some ⟨w'.heap.size + 1, 0, none⟩)] y fun e y2 => e = .returned (.iface (τ 0 (c + 1)) (u 0 (c + 1))) ∧ Nx p X y2 (c + 1 + k 0)) := fun y hy =>
    (h0.call w'.heap.size (w'.heap.size + 1) y (c + 1) ((hw.trans hN).trans hy) ((hy.kf.block _ (by omega) (by omega)).trans hbx) ((hy.kf.block _ (by omega) (by omega)).trans hbp) (by have g0 := hk 0; have g1 := hk 1; have g2 := hk 2; omega) (by have g0 := hk 0; have g1 := hk 1; have g2 := hk 2; omega)).mono fun e y2 ⟨g1, g2⟩ => ⟨g1, hy.trans g2⟩
  have HP1 : Hid (∀ y, Nx p X y (c + 1 + k 0) → Calls Tryz.prog 66 #[.int .i64 1, .pointer (some ⟨w'.heap.size, 0, none⟩), .pointer (some ⟨w'.heap.size + 1, 0, none⟩)] y fun e y2 => e = .returned (.iface (τ 1 (c + 1 + k 0)) (u 1 (c + 1 + k 0))) ∧ Nx p X y2 (c + 1 + k 0 + k 1)) := fun y hy =>
    (h1.call w'.heap.size (w'.heap.size + 1) y (c + 1 + k 0) ((hw.trans hN).trans hy) ((hy.kf.block _ (by omega) (by omega)).trans hbx) ((hy.kf.block _ (by omega) (by omega)).trans hbp) (by have g0 := hk 0; have g1 := hk 1; have g2 := hk 2; omega) (by have g0 := hk 0; have g1 := hk 1; have g2 := hk 2; omega)).mono fun e y2 ⟨g1, g2⟩ => ⟨g1, hy.trans g2⟩
  have HS : Hid (∀ W ci, Nx p X W ci → W.cell? ⟨w'.heap.size, 0, none⟩ = some (.int .i64 6) ∧ W.cell? ⟨w'.heap.size, 1, none⟩ = some (.int .i64 t.N) ∧ W.cell? ⟨w'.heap.size, 2, none⟩ = some (.string t.S) ∧ W.cell? ⟨w'.heap.size, 3, none⟩ = some (.string t.Z) ∧ W.cell? ⟨w'.heap.size, 4, none⟩ = some (.int .i64 t.T.K) ∧ W.cell? ⟨w'.heap.size, 5, none⟩ = some (.int .i64 t.T.N) ∧ W.cell? ⟨w'.heap.size, 6, none⟩ = some (.slice a1 l1 c1) ∧ W.cell? ⟨w'.heap.size, 7, none⟩ = some (.slice a2 l2 c2) ∧ W.cell? ⟨w'.heap.size, 8, none⟩ = some (.slice a3 l3 c3)) := fun W ci hW => by
    obtain ⟨q0, q1, q2, q3, q4, q5, q6, q7, q8⟩ := Nine.box ((hW.kf.block _ (by omega) (by omega)).trans hbx)
    rw [hK] at q0
    exact ⟨q0, q1, q2, q3, q4, q5, q6, q7, q8⟩
  have z0 : Nx p X X.drew (c + 1) := Nx.drew ⟨Kf.of_below (Below.refl _ _), hXp⟩
  clear hX hbx hbp hXp hXb
  go_enter Tryz.func55, Tryz.ntmps55
  go_wp2_with fail
  rw [← HX.out]
  go_region_held3 (fun W => W.cell? ⟨w'.heap.size, 0, none⟩ = some (.int .i64 6) ∧ W.cell? ⟨w'.heap.size, 1, none⟩ = some (.int .i64 t.N) ∧ W.cell? ⟨w'.heap.size, 2, none⟩ = some (.string t.S) ∧ W.cell? ⟨w'.heap.size, 3, none⟩ = some (.string t.Z) ∧ W.cell? ⟨w'.heap.size, 4, none⟩ = some (.int .i64 t.T.K) ∧ W.cell? ⟨w'.heap.size, 5, none⟩ = some (.int .i64 t.T.N) ∧ W.cell? ⟨w'.heap.size, 6, none⟩ = some (.slice a1 l1 c1) ∧ W.cell? ⟨w'.heap.size, 7, none⟩ = some (.slice a2 l2 c2) ∧ W.cell? ⟨w'.heap.size, 8, none⟩ = some (.slice a3 l3 c3))
    (first | with_reducible exact HS.out _ _ z2 | with_reducible exact HS.out _ _ z1 | with_reducible exact HS.out _ _ z0)
    (first | (go_at_call 66; refine (HP1.out _ z1).mono ?_; rintro e y2 ⟨rfl, z2⟩) | (go_at_call 66; refine (HP0.out _ z0).mono ?_; rintro e y1 ⟨rfl, z1⟩))
  all_goals
    go_wp2_with fail
    go_ret
    exact ⟨rfl, hN.trans z2⟩

set_option maxRecDepth 100000 in
set_option maxHeartbeats 1000000 in
theorem form_7 (p : Nat) (t : Tm) (a1 : Option Addr) (l1 c1 : Nat) (a2 : Option Addr) (l2 c2 : Nat) (a3 : Option Addr) (l3 c3 : Nat) (τ : Nat → Int → TypeId) (u : Nat → Int → Value) (k : Nat → Int) (w w' : World) (c : Int) (hw : Nx p w w' c) (hK : t.K = 7) (hc : 0 ≤ c) (hk : ∀ i, 0 ≤ k i) (hm : (c + 1 + k 0 + k 1) ≤ 1000000) (h0 : PartIs p w #[.int .i64 t.K, .int .i64 t.N, .string t.S, .string t.Z, .int .i64 t.T.K, .int .i64 t.T.N, .slice a1 l1 c1, .slice a2 l2 c2, .slice a3 l3 c3] 0 (fun c => .iface (τ 0 c) (u 0 c)) (k 0)) (h1 : PartIs p w #[.int .i64 t.K, .int .i64 t.N, .string t.S, .string t.Z, .int .i64 t.T.K, .int .i64 t.T.N, .slice a1 l1 c1, .slice a2 l2 c2, .slice a3 l3 c3] 1 (fun c => .iface (τ 1 c) (u 1 c)) (k 1)) :
    Calls Tryz.prog 55 #[.agg #[.int .i64 t.K, .int .i64 t.N, .string t.S, .string t.Z, .int .i64 t.T.K, .int .i64 t.T.N, .slice a1 l1 c1, .slice a2 l2 c2, .slice a3 l3 c3], .pointer (some ⟨p, 0, none⟩)] w' fun e w'' => e = .returned (.iface 96 (.agg #[.string t.S, .int .i64 t.N, .int .i64 t.T.K, .int .i64 t.T.N, .slice a1 l1 c1, .iface (τ 0 (c + 1)) (u 0 (c + 1)), .iface (τ 1 (c + 1 + k 0)) (u 1 (c + 1 + k 0))])) ∧ Nx p w' w'' (c + 1 + k 0 + k 1) := by
  have hpl := hw.lt
  have r0 := cell_1 hw.is
  have r1 := row_free hw.is 0
  obtain ⟨X, hX⟩ : ∃ X, X = ((w'.setCell ⟨p, 0, none⟩ (.int .i64 (c + 1))).alloc (.cells #[.int .i64 t.K, .int .i64 t.N, .string t.S, .string t.Z, .int .i64 t.T.K, .int .i64 t.T.N, .slice a1 l1 c1, .slice a2 l2 c2, .slice a3 l3 c3] 34)).alloc (.cells #[.pointer (some ⟨p, 0, none⟩)] 48) := ⟨_, rfl⟩
  have hXb : Below (w'.setCell ⟨p, 0, none⟩ (.int .i64 (c + 1))).heap.size (w'.setCell ⟨p, 0, none⟩ (.int .i64 (c + 1))) X := by rw [hX]; exact ((Below.refl _ _).alloc (Nat.le_refl _) _).alloc (by simp) _
  have hXs : X.heap.size = w'.heap.size + 2 := by rw [hX]; simp
  have hXp : X.heap[p]? = some (.cells #[.int .i64 (c + 1)] 3 (0, 0)) := by rw [hXb.block p (by simpa using hpl), row_set hw.is]; rfl
  have hN : Nx p w' X (c + 1) := ⟨⟨hXb.os, hXb.tape, hXb.output, by omega, fun i hi hne => (hXb.block i (by simpa using hi)).trans (row_other _ _ _ hne), fun i hi => Or.inl hi⟩, hXp⟩
  have hbx : X.heap[w'.heap.size]? = some (.cells #[.int .i64 t.K, .int .i64 t.N, .string t.S, .string t.Z, .int .i64 t.T.K, .int .i64 t.T.N, .slice a1 l1 c1, .slice a2 l2 c2, .slice a3 l3 c3] 34 (0, 0)) := by rw [hX, Below.heap_alloc _ _ _ (by simp)]; exact heap_new (by simp)
  have hbp : X.heap[w'.heap.size + 1]? = some (.cells #[.pointer (some ⟨p, 0, none⟩)] 48 (0, 0)) := by rw [hX]; exact heap_new (by simp)
  have hw1 : IntKind.i64.wrap (c + 1) = c + 1 := by have h0 := hk 0; have h1 := hk 1; have h2 := hk 2; rw [IntKind.wrap_i64]; omega
  have HX : Hid (X = ((w'.setCell ⟨p, 0, none⟩ (.int .i64 (c + 1))).alloc (.cells #[.int .i64 7, .int .i64 t.N, .string t.S, .string t.Z, .int .i64 t.T.K, .int .i64 t.T.N, .slice a1 l1 c1, .slice a2 l2 c2, .slice a3 l3 c3] 34)).alloc (.cells #[.pointer (some ⟨p, 0, none⟩)] 48)) := by show _ = _; rw [hX, hK]
  have HP0 : Hid (∀ y, Nx p X y (c + 1) → Calls Tryz.prog 66 #[.int .i64 0, .pointer (some ⟨w'.heap.size, 0, none⟩), .pointer (some ⟨w'.heap.size + 1, 0, none⟩)] y fun e y2 => e = .returned (.iface (τ 0 (c + 1)) (u 0 (c + 1))) ∧ Nx p X y2 (c + 1 + k 0)) := fun y hy =>
    (h0.call w'.heap.size (w'.heap.size + 1) y (c + 1) ((hw.trans hN).trans hy) ((hy.kf.block _ (by omega) (by omega)).trans hbx) ((hy.kf.block _ (by omega) (by omega)).trans hbp) (by have g0 := hk 0; have g1 := hk 1; have g2 := hk 2; omega) (by have g0 := hk 0; have g1 := hk 1; have g2 := hk 2; omega)).mono fun e y2 ⟨g1, g2⟩ => ⟨g1, hy.trans g2⟩
  have HP1 : Hid (∀ y, Nx p X y (c + 1 + k 0) → Calls Tryz.prog 66 #[.int .i64 1, .pointer (some ⟨w'.heap.size, 0, none⟩), .pointer (some ⟨w'.heap.size + 1, 0, none⟩)] y fun e y2 => e = .returned (.iface (τ 1 (c + 1 + k 0)) (u 1 (c + 1 + k 0))) ∧ Nx p X y2 (c + 1 + k 0 + k 1)) := fun y hy =>
    (h1.call w'.heap.size (w'.heap.size + 1) y (c + 1 + k 0) ((hw.trans hN).trans hy) ((hy.kf.block _ (by omega) (by omega)).trans hbx) ((hy.kf.block _ (by omega) (by omega)).trans hbp) (by have g0 := hk 0; have g1 := hk 1; have g2 := hk 2; omega) (by have g0 := hk 0; have g1 := hk 1; have g2 := hk 2; omega)).mono fun e y2 ⟨g1, g2⟩ => ⟨g1, hy.trans g2⟩
  have HS : Hid (∀ W ci, Nx p X W ci → W.cell? ⟨w'.heap.size, 0, none⟩ = some (.int .i64 7) ∧ W.cell? ⟨w'.heap.size, 1, none⟩ = some (.int .i64 t.N) ∧ W.cell? ⟨w'.heap.size, 2, none⟩ = some (.string t.S) ∧ W.cell? ⟨w'.heap.size, 3, none⟩ = some (.string t.Z) ∧ W.cell? ⟨w'.heap.size, 4, none⟩ = some (.int .i64 t.T.K) ∧ W.cell? ⟨w'.heap.size, 5, none⟩ = some (.int .i64 t.T.N) ∧ W.cell? ⟨w'.heap.size, 6, none⟩ = some (.slice a1 l1 c1) ∧ W.cell? ⟨w'.heap.size, 7, none⟩ = some (.slice a2 l2 c2) ∧ W.cell? ⟨w'.heap.size, 8, none⟩ = some (.slice a3 l3 c3)) := fun W ci hW => by
    obtain ⟨q0, q1, q2, q3, q4, q5, q6, q7, q8⟩ := Nine.box ((hW.kf.block _ (by omega) (by omega)).trans hbx)
    rw [hK] at q0
    exact ⟨q0, q1, q2, q3, q4, q5, q6, q7, q8⟩
  have z0 : Nx p X X.drew (c + 1) := Nx.drew ⟨Kf.of_below (Below.refl _ _), hXp⟩
  clear hX hbx hbp hXp hXb
  go_enter Tryz.func55, Tryz.ntmps55
  go_wp2_with fail
  rw [← HX.out]
  go_region_held3 (fun W => W.cell? ⟨w'.heap.size, 0, none⟩ = some (.int .i64 7) ∧ W.cell? ⟨w'.heap.size, 1, none⟩ = some (.int .i64 t.N) ∧ W.cell? ⟨w'.heap.size, 2, none⟩ = some (.string t.S) ∧ W.cell? ⟨w'.heap.size, 3, none⟩ = some (.string t.Z) ∧ W.cell? ⟨w'.heap.size, 4, none⟩ = some (.int .i64 t.T.K) ∧ W.cell? ⟨w'.heap.size, 5, none⟩ = some (.int .i64 t.T.N) ∧ W.cell? ⟨w'.heap.size, 6, none⟩ = some (.slice a1 l1 c1) ∧ W.cell? ⟨w'.heap.size, 7, none⟩ = some (.slice a2 l2 c2) ∧ W.cell? ⟨w'.heap.size, 8, none⟩ = some (.slice a3 l3 c3))
    (first | with_reducible exact HS.out _ _ z2 | with_reducible exact HS.out _ _ z1 | with_reducible exact HS.out _ _ z0)
    (first | (go_at_call 66; refine (HP1.out _ z1).mono ?_; rintro e y2 ⟨rfl, z2⟩) | (go_at_call 66; refine (HP0.out _ z0).mono ?_; rintro e y1 ⟨rfl, z1⟩))
  all_goals
    go_wp2_with fail
    go_ret
    exact ⟨rfl, hN.trans z2⟩

set_option maxRecDepth 100000 in
set_option maxHeartbeats 1000000 in
theorem form_8 (p : Nat) (t : Tm) (a1 : Option Addr) (l1 c1 : Nat) (a2 : Option Addr) (l2 c2 : Nat) (a3 : Option Addr) (l3 c3 : Nat) (τ : Nat → Int → TypeId) (u : Nat → Int → Value) (k : Nat → Int) (w w' : World) (c : Int) (hw : Nx p w w' c) (hK : t.K = 8) (hc : 0 ≤ c) (hk : ∀ i, 0 ≤ k i) (hm : (c + 1 + k 0 + k 1 + k 2) ≤ 1000000) (h0 : PartIs p w #[.int .i64 t.K, .int .i64 t.N, .string t.S, .string t.Z, .int .i64 t.T.K, .int .i64 t.T.N, .slice a1 l1 c1, .slice a2 l2 c2, .slice a3 l3 c3] 0 (fun c => .iface (τ 0 c) (u 0 c)) (k 0)) (h1 : PartIs p w #[.int .i64 t.K, .int .i64 t.N, .string t.S, .string t.Z, .int .i64 t.T.K, .int .i64 t.T.N, .slice a1 l1 c1, .slice a2 l2 c2, .slice a3 l3 c3] 1 (fun c => .iface (τ 1 c) (u 1 c)) (k 1)) (h2 : PartIs p w #[.int .i64 t.K, .int .i64 t.N, .string t.S, .string t.Z, .int .i64 t.T.K, .int .i64 t.T.N, .slice a1 l1 c1, .slice a2 l2 c2, .slice a3 l3 c3] 2 (fun c => .iface (τ 2 c) (u 2 c)) (k 2)) :
    Calls Tryz.prog 55 #[.agg #[.int .i64 t.K, .int .i64 t.N, .string t.S, .string t.Z, .int .i64 t.T.K, .int .i64 t.T.N, .slice a1 l1 c1, .slice a2 l2 c2, .slice a3 l3 c3], .pointer (some ⟨p, 0, none⟩)] w' fun e w'' => e = .returned (.iface 119 (.agg #[.iface (τ 0 (c + 1)) (u 0 (c + 1)), .iface (τ 1 (c + 1 + k 0)) (u 1 (c + 1 + k 0)), .iface (τ 2 (c + 1 + k 0 + k 1)) (u 2 (c + 1 + k 0 + k 1))])) ∧ Nx p w' w'' (c + 1 + k 0 + k 1 + k 2) := by
  have hpl := hw.lt
  have r0 := cell_1 hw.is
  have r1 := row_free hw.is 0
  obtain ⟨X, hX⟩ : ∃ X, X = ((w'.setCell ⟨p, 0, none⟩ (.int .i64 (c + 1))).alloc (.cells #[.int .i64 t.K, .int .i64 t.N, .string t.S, .string t.Z, .int .i64 t.T.K, .int .i64 t.T.N, .slice a1 l1 c1, .slice a2 l2 c2, .slice a3 l3 c3] 34)).alloc (.cells #[.pointer (some ⟨p, 0, none⟩)] 48) := ⟨_, rfl⟩
  have hXb : Below (w'.setCell ⟨p, 0, none⟩ (.int .i64 (c + 1))).heap.size (w'.setCell ⟨p, 0, none⟩ (.int .i64 (c + 1))) X := by rw [hX]; exact ((Below.refl _ _).alloc (Nat.le_refl _) _).alloc (by simp) _
  have hXs : X.heap.size = w'.heap.size + 2 := by rw [hX]; simp
  have hXp : X.heap[p]? = some (.cells #[.int .i64 (c + 1)] 3 (0, 0)) := by rw [hXb.block p (by simpa using hpl), row_set hw.is]; rfl
  have hN : Nx p w' X (c + 1) := ⟨⟨hXb.os, hXb.tape, hXb.output, by omega, fun i hi hne => (hXb.block i (by simpa using hi)).trans (row_other _ _ _ hne), fun i hi => Or.inl hi⟩, hXp⟩
  have hbx : X.heap[w'.heap.size]? = some (.cells #[.int .i64 t.K, .int .i64 t.N, .string t.S, .string t.Z, .int .i64 t.T.K, .int .i64 t.T.N, .slice a1 l1 c1, .slice a2 l2 c2, .slice a3 l3 c3] 34 (0, 0)) := by rw [hX, Below.heap_alloc _ _ _ (by simp)]; exact heap_new (by simp)
  have hbp : X.heap[w'.heap.size + 1]? = some (.cells #[.pointer (some ⟨p, 0, none⟩)] 48 (0, 0)) := by rw [hX]; exact heap_new (by simp)
  have hw1 : IntKind.i64.wrap (c + 1) = c + 1 := by have h0 := hk 0; have h1 := hk 1; have h2 := hk 2; rw [IntKind.wrap_i64]; omega
  have HX : Hid (X = ((w'.setCell ⟨p, 0, none⟩ (.int .i64 (c + 1))).alloc (.cells #[.int .i64 8, .int .i64 t.N, .string t.S, .string t.Z, .int .i64 t.T.K, .int .i64 t.T.N, .slice a1 l1 c1, .slice a2 l2 c2, .slice a3 l3 c3] 34)).alloc (.cells #[.pointer (some ⟨p, 0, none⟩)] 48)) := by show _ = _; rw [hX, hK]
  have HP0 : Hid (∀ y, Nx p X y (c + 1) → Calls Tryz.prog 66 #[.int .i64 0, .pointer (some ⟨w'.heap.size, 0, none⟩), .pointer (some ⟨w'.heap.size + 1, 0, none⟩)] y fun e y2 => e = .returned (.iface (τ 0 (c + 1)) (u 0 (c + 1))) ∧ Nx p X y2 (c + 1 + k 0)) := fun y hy =>
    (h0.call w'.heap.size (w'.heap.size + 1) y (c + 1) ((hw.trans hN).trans hy) ((hy.kf.block _ (by omega) (by omega)).trans hbx) ((hy.kf.block _ (by omega) (by omega)).trans hbp) (by have g0 := hk 0; have g1 := hk 1; have g2 := hk 2; omega) (by have g0 := hk 0; have g1 := hk 1; have g2 := hk 2; omega)).mono fun e y2 ⟨g1, g2⟩ => ⟨g1, hy.trans g2⟩
  have HP1 : Hid (∀ y, Nx p X y (c + 1 + k 0) → Calls Tryz.prog 66 #[.int .i64 1, .pointer (some ⟨w'.heap.size, 0, none⟩), .pointer (some ⟨w'.heap.size + 1, 0, none⟩)] y fun e y2 => e = .returned (.iface (τ 1 (c + 1 + k 0)) (u 1 (c + 1 + k 0))) ∧ Nx p X y2 (c + 1 + k 0 + k 1)) := fun y hy =>
    (h1.call w'.heap.size (w'.heap.size + 1) y (c + 1 + k 0) ((hw.trans hN).trans hy) ((hy.kf.block _ (by omega) (by omega)).trans hbx) ((hy.kf.block _ (by omega) (by omega)).trans hbp) (by have g0 := hk 0; have g1 := hk 1; have g2 := hk 2; omega) (by have g0 := hk 0; have g1 := hk 1; have g2 := hk 2; omega)).mono fun e y2 ⟨g1, g2⟩ => ⟨g1, hy.trans g2⟩
  have HP2 : Hid (∀ y, Nx p X y (c + 1 + k 0 + k 1) → Calls Tryz.prog 66 #[.int .i64 2, .pointer (some ⟨w'.heap.size, 0, none⟩), .pointer (some ⟨w'.heap.size + 1, 0, none⟩)] y fun e y2 => e = .returned (.iface (τ 2 (c + 1 + k 0 + k 1)) (u 2 (c + 1 + k 0 + k 1))) ∧ Nx p X y2 (c + 1 + k 0 + k 1 + k 2)) := fun y hy =>
    (h2.call w'.heap.size (w'.heap.size + 1) y (c + 1 + k 0 + k 1) ((hw.trans hN).trans hy) ((hy.kf.block _ (by omega) (by omega)).trans hbx) ((hy.kf.block _ (by omega) (by omega)).trans hbp) (by have g0 := hk 0; have g1 := hk 1; have g2 := hk 2; omega) (by have g0 := hk 0; have g1 := hk 1; have g2 := hk 2; omega)).mono fun e y2 ⟨g1, g2⟩ => ⟨g1, hy.trans g2⟩
  have q := Nine.box hbx
  obtain ⟨q0, q1, q2, q3, q4, q5, q6, q7, q8⟩ := q
  rw [hK] at q0
  have z0 : Nx p X X (c + 1) := ⟨Kf.of_below (Below.refl _ _), hXp⟩
  clear hX hbx hbp hXp hXb
  go_enter Tryz.func55, Tryz.ntmps55
  go_wp2_with fail
  rw [← HX.out]
  refine (HP0.out _ z0).mono ?_
  rintro e y0 ⟨rfl, z1⟩
  go_wp2_with fail
  refine (HP1.out _ z1).mono ?_
  rintro e y1 ⟨rfl, z2⟩
  go_wp2_with fail
  refine (HP2.out _ z2).mono ?_
  rintro e y2 ⟨rfl, z3⟩
  go_wp2_with fail
  go_ret
  exact ⟨rfl, hN.trans z3⟩

set_option maxRecDepth 100000 in
set_option maxHeartbeats 1000000 in
theorem form_9 (p : Nat) (t : Tm) (a1 : Option Addr) (l1 c1 : Nat) (a2 : Option Addr) (l2 c2 : Nat) (a3 : Option Addr) (l3 c3 : Nat) (τ : Nat → Int → TypeId) (u : Nat → Int → Value) (k : Nat → Int) (w w' : World) (c : Int) (hw : Nx p w w' c) (hK : t.K = 9) (hc : 0 ≤ c) (hk : ∀ i, 0 ≤ k i) (hm : (c + 1 + k 0 + k 1) ≤ 1000000) (h0 : PartIs p w #[.int .i64 t.K, .int .i64 t.N, .string t.S, .string t.Z, .int .i64 t.T.K, .int .i64 t.T.N, .slice a1 l1 c1, .slice a2 l2 c2, .slice a3 l3 c3] 0 (fun c => .iface (τ 0 c) (u 0 c)) (k 0)) (h1 : PartIs p w #[.int .i64 t.K, .int .i64 t.N, .string t.S, .string t.Z, .int .i64 t.T.K, .int .i64 t.T.N, .slice a1 l1 c1, .slice a2 l2 c2, .slice a3 l3 c3] 1 (fun c => .iface (τ 1 c) (u 1 c)) (k 1)) :
    Calls Tryz.prog 55 #[.agg #[.int .i64 t.K, .int .i64 t.N, .string t.S, .string t.Z, .int .i64 t.T.K, .int .i64 t.T.N, .slice a1 l1 c1, .slice a2 l2 c2, .slice a3 l3 c3], .pointer (some ⟨p, 0, none⟩)] w' fun e w'' => e = .returned (.iface 121 (.agg #[.iface (τ 0 (c + 1)) (u 0 (c + 1)), .iface (τ 1 (c + 1 + k 0)) (u 1 (c + 1 + k 0))])) ∧ Nx p w' w'' (c + 1 + k 0 + k 1) := by
  have hpl := hw.lt
  have r0 := cell_1 hw.is
  have r1 := row_free hw.is 0
  obtain ⟨X, hX⟩ : ∃ X, X = ((w'.setCell ⟨p, 0, none⟩ (.int .i64 (c + 1))).alloc (.cells #[.int .i64 t.K, .int .i64 t.N, .string t.S, .string t.Z, .int .i64 t.T.K, .int .i64 t.T.N, .slice a1 l1 c1, .slice a2 l2 c2, .slice a3 l3 c3] 34)).alloc (.cells #[.pointer (some ⟨p, 0, none⟩)] 48) := ⟨_, rfl⟩
  have hXb : Below (w'.setCell ⟨p, 0, none⟩ (.int .i64 (c + 1))).heap.size (w'.setCell ⟨p, 0, none⟩ (.int .i64 (c + 1))) X := by rw [hX]; exact ((Below.refl _ _).alloc (Nat.le_refl _) _).alloc (by simp) _
  have hXs : X.heap.size = w'.heap.size + 2 := by rw [hX]; simp
  have hXp : X.heap[p]? = some (.cells #[.int .i64 (c + 1)] 3 (0, 0)) := by rw [hXb.block p (by simpa using hpl), row_set hw.is]; rfl
  have hN : Nx p w' X (c + 1) := ⟨⟨hXb.os, hXb.tape, hXb.output, by omega, fun i hi hne => (hXb.block i (by simpa using hi)).trans (row_other _ _ _ hne), fun i hi => Or.inl hi⟩, hXp⟩
  have hbx : X.heap[w'.heap.size]? = some (.cells #[.int .i64 t.K, .int .i64 t.N, .string t.S, .string t.Z, .int .i64 t.T.K, .int .i64 t.T.N, .slice a1 l1 c1, .slice a2 l2 c2, .slice a3 l3 c3] 34 (0, 0)) := by rw [hX, Below.heap_alloc _ _ _ (by simp)]; exact heap_new (by simp)
  have hbp : X.heap[w'.heap.size + 1]? = some (.cells #[.pointer (some ⟨p, 0, none⟩)] 48 (0, 0)) := by rw [hX]; exact heap_new (by simp)
  have hw1 : IntKind.i64.wrap (c + 1) = c + 1 := by have h0 := hk 0; have h1 := hk 1; have h2 := hk 2; rw [IntKind.wrap_i64]; omega
  have HX : Hid (X = ((w'.setCell ⟨p, 0, none⟩ (.int .i64 (c + 1))).alloc (.cells #[.int .i64 9, .int .i64 t.N, .string t.S, .string t.Z, .int .i64 t.T.K, .int .i64 t.T.N, .slice a1 l1 c1, .slice a2 l2 c2, .slice a3 l3 c3] 34)).alloc (.cells #[.pointer (some ⟨p, 0, none⟩)] 48)) := by show _ = _; rw [hX, hK]
  have HP0 : Hid (∀ y, Nx p X y (c + 1) → Calls Tryz.prog 66 #[.int .i64 0, .pointer (some ⟨w'.heap.size, 0, none⟩), .pointer (some ⟨w'.heap.size + 1, 0, none⟩)] y fun e y2 => e = .returned (.iface (τ 0 (c + 1)) (u 0 (c + 1))) ∧ Nx p X y2 (c + 1 + k 0)) := fun y hy =>
    (h0.call w'.heap.size (w'.heap.size + 1) y (c + 1) ((hw.trans hN).trans hy) ((hy.kf.block _ (by omega) (by omega)).trans hbx) ((hy.kf.block _ (by omega) (by omega)).trans hbp) (by have g0 := hk 0; have g1 := hk 1; have g2 := hk 2; omega) (by have g0 := hk 0; have g1 := hk 1; have g2 := hk 2; omega)).mono fun e y2 ⟨g1, g2⟩ => ⟨g1, hy.trans g2⟩
  have HP1 : Hid (∀ y, Nx p X y (c + 1 + k 0) → Calls Tryz.prog 66 #[.int .i64 1, .pointer (some ⟨w'.heap.size, 0, none⟩), .pointer (some ⟨w'.heap.size + 1, 0, none⟩)] y fun e y2 => e = .returned (.iface (τ 1 (c + 1 + k 0)) (u 1 (c + 1 + k 0))) ∧ Nx p X y2 (c + 1 + k 0 + k 1)) := fun y hy =>
    (h1.call w'.heap.size (w'.heap.size + 1) y (c + 1 + k 0) ((hw.trans hN).trans hy) ((hy.kf.block _ (by omega) (by omega)).trans hbx) ((hy.kf.block _ (by omega) (by omega)).trans hbp) (by have g0 := hk 0; have g1 := hk 1; have g2 := hk 2; omega) (by have g0 := hk 0; have g1 := hk 1; have g2 := hk 2; omega)).mono fun e y2 ⟨g1, g2⟩ => ⟨g1, hy.trans g2⟩
  have q := Nine.box hbx
  obtain ⟨q0, q1, q2, q3, q4, q5, q6, q7, q8⟩ := q
  rw [hK] at q0
  have z0 : Nx p X X (c + 1) := ⟨Kf.of_below (Below.refl _ _), hXp⟩
  clear hX hbx hbp hXp hXb
  go_enter Tryz.func55, Tryz.ntmps55
  go_wp2_with fail
  rw [← HX.out]
  refine (HP0.out _ z0).mono ?_
  rintro e y0 ⟨rfl, z1⟩
  go_wp2_with fail
  refine (HP1.out _ z1).mono ?_
  rintro e y1 ⟨rfl, z2⟩
  go_wp2_with fail
  go_ret
  exact ⟨rfl, hN.trans z2⟩

set_option maxRecDepth 100000 in
set_option maxHeartbeats 1000000 in
theorem form_10 (p : Nat) (t : Tm) (a1 : Option Addr) (l1 c1 : Nat) (a2 : Option Addr) (l2 c2 : Nat) (a3 : Option Addr) (l3 c3 : Nat) (τ : Nat → Int → TypeId) (u : Nat → Int → Value) (k : Nat → Int) (w w' : World) (c : Int) (hw : Nx p w w' c) (hK : t.K = 10) (hc : 0 ≤ c) (hk : ∀ i, 0 ≤ k i) (hm : (c + 1 + k 0) ≤ 1000000) (h0 : PartIs p w #[.int .i64 t.K, .int .i64 t.N, .string t.S, .string t.Z, .int .i64 t.T.K, .int .i64 t.T.N, .slice a1 l1 c1, .slice a2 l2 c2, .slice a3 l3 c3] 0 (fun c => .iface (τ 0 c) (u 0 c)) (k 0)) :
    Calls Tryz.prog 55 #[.agg #[.int .i64 t.K, .int .i64 t.N, .string t.S, .string t.Z, .int .i64 t.T.K, .int .i64 t.T.N, .slice a1 l1 c1, .slice a2 l2 c2, .slice a3 l3 c3], .pointer (some ⟨p, 0, none⟩)] w' fun e w'' => e = .returned (.iface 123 (.agg #[.iface (τ 0 (c + 1)) (u 0 (c + 1))])) ∧ Nx p w' w'' (c + 1 + k 0) := by
  have hpl := hw.lt
  have r0 := cell_1 hw.is
  have r1 := row_free hw.is 0
  obtain ⟨X, hX⟩ : ∃ X, X = ((w'.setCell ⟨p, 0, none⟩ (.int .i64 (c + 1))).alloc (.cells #[.int .i64 t.K, .int .i64 t.N, .string t.S, .string t.Z, .int .i64 t.T.K, .int .i64 t.T.N, .slice a1 l1 c1, .slice a2 l2 c2, .slice a3 l3 c3] 34)).alloc (.cells #[.pointer (some ⟨p, 0, none⟩)] 48) := ⟨_, rfl⟩
  have hXb : Below (w'.setCell ⟨p, 0, none⟩ (.int .i64 (c + 1))).heap.size (w'.setCell ⟨p, 0, none⟩ (.int .i64 (c + 1))) X := by rw [hX]; exact ((Below.refl _ _).alloc (Nat.le_refl _) _).alloc (by simp) _
  have hXs : X.heap.size = w'.heap.size + 2 := by rw [hX]; simp
  have hXp : X.heap[p]? = some (.cells #[.int .i64 (c + 1)] 3 (0, 0)) := by rw [hXb.block p (by simpa using hpl), row_set hw.is]; rfl
  have hN : Nx p w' X (c + 1) := ⟨⟨hXb.os, hXb.tape, hXb.output, by omega, fun i hi hne => (hXb.block i (by simpa using hi)).trans (row_other _ _ _ hne), fun i hi => Or.inl hi⟩, hXp⟩
  have hbx : X.heap[w'.heap.size]? = some (.cells #[.int .i64 t.K, .int .i64 t.N, .string t.S, .string t.Z, .int .i64 t.T.K, .int .i64 t.T.N, .slice a1 l1 c1, .slice a2 l2 c2, .slice a3 l3 c3] 34 (0, 0)) := by rw [hX, Below.heap_alloc _ _ _ (by simp)]; exact heap_new (by simp)
  have hbp : X.heap[w'.heap.size + 1]? = some (.cells #[.pointer (some ⟨p, 0, none⟩)] 48 (0, 0)) := by rw [hX]; exact heap_new (by simp)
  have hw1 : IntKind.i64.wrap (c + 1) = c + 1 := by have h0 := hk 0; have h1 := hk 1; have h2 := hk 2; rw [IntKind.wrap_i64]; omega
  have HX : Hid (X = ((w'.setCell ⟨p, 0, none⟩ (.int .i64 (c + 1))).alloc (.cells #[.int .i64 10, .int .i64 t.N, .string t.S, .string t.Z, .int .i64 t.T.K, .int .i64 t.T.N, .slice a1 l1 c1, .slice a2 l2 c2, .slice a3 l3 c3] 34)).alloc (.cells #[.pointer (some ⟨p, 0, none⟩)] 48)) := by show _ = _; rw [hX, hK]
  have HP0 : Hid (∀ y, Nx p X y (c + 1) → Calls Tryz.prog 66 #[.int .i64 0, .pointer (some ⟨w'.heap.size, 0, none⟩), .pointer (some ⟨w'.heap.size + 1, 0, none⟩)] y fun e y2 => e = .returned (.iface (τ 0 (c + 1)) (u 0 (c + 1))) ∧ Nx p X y2 (c + 1 + k 0)) := fun y hy =>
    (h0.call w'.heap.size (w'.heap.size + 1) y (c + 1) ((hw.trans hN).trans hy) ((hy.kf.block _ (by omega) (by omega)).trans hbx) ((hy.kf.block _ (by omega) (by omega)).trans hbp) (by have g0 := hk 0; have g1 := hk 1; have g2 := hk 2; omega) (by have g0 := hk 0; have g1 := hk 1; have g2 := hk 2; omega)).mono fun e y2 ⟨g1, g2⟩ => ⟨g1, hy.trans g2⟩
  have q := Nine.box hbx
  obtain ⟨q0, q1, q2, q3, q4, q5, q6, q7, q8⟩ := q
  rw [hK] at q0
  have z0 : Nx p X X (c + 1) := ⟨Kf.of_below (Below.refl _ _), hXp⟩
  clear hX hbx hbp hXp hXb
  go_enter Tryz.func55, Tryz.ntmps55
  go_wp2_with fail
  rw [← HX.out]
  refine (HP0.out _ z0).mono ?_
  rintro e y0 ⟨rfl, z1⟩
  go_wp2_with fail
  go_ret
  exact ⟨rfl, hN.trans z1⟩

set_option maxRecDepth 100000 in
set_option maxHeartbeats 1000000 in
theorem form_11 (p : Nat) (t : Tm) (a1 : Option Addr) (l1 c1 : Nat) (a2 : Option Addr) (l2 c2 : Nat) (a3 : Option Addr) (l3 c3 : Nat) (τ : Nat → Int → TypeId) (u : Nat → Int → Value) (k : Nat → Int) (w w' : World) (c : Int) (hw : Nx p w w' c) (hK : t.K = 11) (hc : 0 ≤ c) (hk : ∀ i, 0 ≤ k i) (hm : (c + 1 + k 0) ≤ 1000000) (h0 : PartIs p w #[.int .i64 t.K, .int .i64 t.N, .string t.S, .string t.Z, .int .i64 t.T.K, .int .i64 t.T.N, .slice a1 l1 c1, .slice a2 l2 c2, .slice a3 l3 c3] 0 (fun c => .iface (τ 0 c) (u 0 c)) (k 0)) :
    Calls Tryz.prog 55 #[.agg #[.int .i64 t.K, .int .i64 t.N, .string t.S, .string t.Z, .int .i64 t.T.K, .int .i64 t.T.N, .slice a1 l1 c1, .slice a2 l2 c2, .slice a3 l3 c3], .pointer (some ⟨p, 0, none⟩)] w' fun e w'' => e = .returned (.iface 124 (.agg #[.iface (τ 0 (c + 1)) (u 0 (c + 1))])) ∧ Nx p w' w'' (c + 1 + k 0) := by
  have hpl := hw.lt
  have r0 := cell_1 hw.is
  have r1 := row_free hw.is 0
  obtain ⟨X, hX⟩ : ∃ X, X = ((w'.setCell ⟨p, 0, none⟩ (.int .i64 (c + 1))).alloc (.cells #[.int .i64 t.K, .int .i64 t.N, .string t.S, .string t.Z, .int .i64 t.T.K, .int .i64 t.T.N, .slice a1 l1 c1, .slice a2 l2 c2, .slice a3 l3 c3] 34)).alloc (.cells #[.pointer (some ⟨p, 0, none⟩)] 48) := ⟨_, rfl⟩
  have hXb : Below (w'.setCell ⟨p, 0, none⟩ (.int .i64 (c + 1))).heap.size (w'.setCell ⟨p, 0, none⟩ (.int .i64 (c + 1))) X := by rw [hX]; exact ((Below.refl _ _).alloc (Nat.le_refl _) _).alloc (by simp) _
  have hXs : X.heap.size = w'.heap.size + 2 := by rw [hX]; simp
  have hXp : X.heap[p]? = some (.cells #[.int .i64 (c + 1)] 3 (0, 0)) := by rw [hXb.block p (by simpa using hpl), row_set hw.is]; rfl
  have hN : Nx p w' X (c + 1) := ⟨⟨hXb.os, hXb.tape, hXb.output, by omega, fun i hi hne => (hXb.block i (by simpa using hi)).trans (row_other _ _ _ hne), fun i hi => Or.inl hi⟩, hXp⟩
  have hbx : X.heap[w'.heap.size]? = some (.cells #[.int .i64 t.K, .int .i64 t.N, .string t.S, .string t.Z, .int .i64 t.T.K, .int .i64 t.T.N, .slice a1 l1 c1, .slice a2 l2 c2, .slice a3 l3 c3] 34 (0, 0)) := by rw [hX, Below.heap_alloc _ _ _ (by simp)]; exact heap_new (by simp)
  have hbp : X.heap[w'.heap.size + 1]? = some (.cells #[.pointer (some ⟨p, 0, none⟩)] 48 (0, 0)) := by rw [hX]; exact heap_new (by simp)
  have hw1 : IntKind.i64.wrap (c + 1) = c + 1 := by have h0 := hk 0; have h1 := hk 1; have h2 := hk 2; rw [IntKind.wrap_i64]; omega
  have HX : Hid (X = ((w'.setCell ⟨p, 0, none⟩ (.int .i64 (c + 1))).alloc (.cells #[.int .i64 11, .int .i64 t.N, .string t.S, .string t.Z, .int .i64 t.T.K, .int .i64 t.T.N, .slice a1 l1 c1, .slice a2 l2 c2, .slice a3 l3 c3] 34)).alloc (.cells #[.pointer (some ⟨p, 0, none⟩)] 48)) := by show _ = _; rw [hX, hK]
  have HP0 : Hid (∀ y, Nx p X y (c + 1) → Calls Tryz.prog 66 #[.int .i64 0, .pointer (some ⟨w'.heap.size, 0, none⟩), .pointer (some ⟨w'.heap.size + 1, 0, none⟩)] y fun e y2 => e = .returned (.iface (τ 0 (c + 1)) (u 0 (c + 1))) ∧ Nx p X y2 (c + 1 + k 0)) := fun y hy =>
    (h0.call w'.heap.size (w'.heap.size + 1) y (c + 1) ((hw.trans hN).trans hy) ((hy.kf.block _ (by omega) (by omega)).trans hbx) ((hy.kf.block _ (by omega) (by omega)).trans hbp) (by have g0 := hk 0; have g1 := hk 1; have g2 := hk 2; omega) (by have g0 := hk 0; have g1 := hk 1; have g2 := hk 2; omega)).mono fun e y2 ⟨g1, g2⟩ => ⟨g1, hy.trans g2⟩
  have q := Nine.box hbx
  obtain ⟨q0, q1, q2, q3, q4, q5, q6, q7, q8⟩ := q
  rw [hK] at q0
  have z0 : Nx p X X (c + 1) := ⟨Kf.of_below (Below.refl _ _), hXp⟩
  clear hX hbx hbp hXp hXb
  go_enter Tryz.func55, Tryz.ntmps55
  go_wp2_with fail
  rw [← HX.out]
  refine (HP0.out _ z0).mono ?_
  rintro e y0 ⟨rfl, z1⟩
  go_wp2_with fail
  go_ret
  exact ⟨rfl, hN.trans z1⟩

set_option maxRecDepth 100000 in
set_option maxHeartbeats 1000000 in
theorem form_12 (p : Nat) (t : Tm) (a1 : Option Addr) (l1 c1 : Nat) (a2 : Option Addr) (l2 c2 : Nat) (a3 : Option Addr) (l3 c3 : Nat) (τ : Nat → Int → TypeId) (u : Nat → Int → Value) (k : Nat → Int) (w w' : World) (c : Int) (hw : Nx p w w' c) (hK : t.K = 12) (hc : 0 ≤ c) (hk : ∀ i, 0 ≤ k i) (hm : (c + 1) ≤ 1000000)  :
    Calls Tryz.prog 55 #[.agg #[.int .i64 t.K, .int .i64 t.N, .string t.S, .string t.Z, .int .i64 t.T.K, .int .i64 t.T.N, .slice a1 l1 c1, .slice a2 l2 c2, .slice a3 l3 c3], .pointer (some ⟨p, 0, none⟩)] w' fun e w'' => e = .returned (.iface 126 (.agg #[.int .i64 t.T.K, .int .i64 t.T.N, .slice a1 l1 c1])) ∧ Nx p w' w'' (c + 1) := by
  have hpl := hw.lt
  have r0 := cell_1 hw.is
  have r1 := row_free hw.is 0
  obtain ⟨X, hX⟩ : ∃ X, X = ((w'.setCell ⟨p, 0, none⟩ (.int .i64 (c + 1))).alloc (.cells #[.int .i64 t.K, .int .i64 t.N, .string t.S, .string t.Z, .int .i64 t.T.K, .int .i64 t.T.N, .slice a1 l1 c1, .slice a2 l2 c2, .slice a3 l3 c3] 34)).alloc (.cells #[.pointer (some ⟨p, 0, none⟩)] 48) := ⟨_, rfl⟩
  have hXb : Below (w'.setCell ⟨p, 0, none⟩ (.int .i64 (c + 1))).heap.size (w'.setCell ⟨p, 0, none⟩ (.int .i64 (c + 1))) X := by rw [hX]; exact ((Below.refl _ _).alloc (Nat.le_refl _) _).alloc (by simp) _
  have hXs : X.heap.size = w'.heap.size + 2 := by rw [hX]; simp
  have hXp : X.heap[p]? = some (.cells #[.int .i64 (c + 1)] 3 (0, 0)) := by rw [hXb.block p (by simpa using hpl), row_set hw.is]; rfl
  have hN : Nx p w' X (c + 1) := ⟨⟨hXb.os, hXb.tape, hXb.output, by omega, fun i hi hne => (hXb.block i (by simpa using hi)).trans (row_other _ _ _ hne), fun i hi => Or.inl hi⟩, hXp⟩
  have hbx : X.heap[w'.heap.size]? = some (.cells #[.int .i64 t.K, .int .i64 t.N, .string t.S, .string t.Z, .int .i64 t.T.K, .int .i64 t.T.N, .slice a1 l1 c1, .slice a2 l2 c2, .slice a3 l3 c3] 34 (0, 0)) := by rw [hX, Below.heap_alloc _ _ _ (by simp)]; exact heap_new (by simp)
  have hbp : X.heap[w'.heap.size + 1]? = some (.cells #[.pointer (some ⟨p, 0, none⟩)] 48 (0, 0)) := by rw [hX]; exact heap_new (by simp)
  have hw1 : IntKind.i64.wrap (c + 1) = c + 1 := by have h0 := hk 0; have h1 := hk 1; have h2 := hk 2; rw [IntKind.wrap_i64]; omega
  have HX : Hid (X = ((w'.setCell ⟨p, 0, none⟩ (.int .i64 (c + 1))).alloc (.cells #[.int .i64 12, .int .i64 t.N, .string t.S, .string t.Z, .int .i64 t.T.K, .int .i64 t.T.N, .slice a1 l1 c1, .slice a2 l2 c2, .slice a3 l3 c3] 34)).alloc (.cells #[.pointer (some ⟨p, 0, none⟩)] 48)) := by show _ = _; rw [hX, hK]
  clear hX hbx hbp hXp hXb
  go_enter Tryz.func55, Tryz.ntmps55
  go_wp2_with fail
  rw [← HX.out]
  go_ret
  exact ⟨rfl, hN⟩

set_option maxRecDepth 100000 in
set_option maxHeartbeats 1000000 in
theorem form_13 (p : Nat) (t : Tm) (a1 : Option Addr) (l1 c1 : Nat) (a2 : Option Addr) (l2 c2 : Nat) (a3 : Option Addr) (l3 c3 : Nat) (τ : Nat → Int → TypeId) (u : Nat → Int → Value) (k : Nat → Int) (w w' : World) (c : Int) (hw : Nx p w w' c) (hK : t.K = 13) (hc : 0 ≤ c) (hk : ∀ i, 0 ≤ k i) (hm : (c + 1 + k 0 + k 1) ≤ 1000000) (h0 : PartIs p w #[.int .i64 t.K, .int .i64 t.N, .string t.S, .string t.Z, .int .i64 t.T.K, .int .i64 t.T.N, .slice a1 l1 c1, .slice a2 l2 c2, .slice a3 l3 c3] 0 (fun c => .iface (τ 0 c) (u 0 c)) (k 0)) (h1 : PartIs p w #[.int .i64 t.K, .int .i64 t.N, .string t.S, .string t.Z, .int .i64 t.T.K, .int .i64 t.T.N, .slice a1 l1 c1, .slice a2 l2 c2, .slice a3 l3 c3] 1 (fun c => .iface (τ 1 c) (u 1 c)) (k 1)) :
    Calls Tryz.prog 55 #[.agg #[.int .i64 t.K, .int .i64 t.N, .string t.S, .string t.Z, .int .i64 t.T.K, .int .i64 t.T.N, .slice a1 l1 c1, .slice a2 l2 c2, .slice a3 l3 c3], .pointer (some ⟨p, 0, none⟩)] w' fun e w'' => e = .returned (.iface 128 (.agg #[.iface (τ 0 (c + 1)) (u 0 (c + 1)), .iface (τ 1 (c + 1 + k 0)) (u 1 (c + 1 + k 0))])) ∧ Nx p w' w'' (c + 1 + k 0 + k 1) := by
  have hpl := hw.lt
  have r0 := cell_1 hw.is
  have r1 := row_free hw.is 0
  obtain ⟨X, hX⟩ : ∃ X, X = ((w'.setCell ⟨p, 0, none⟩ (.int .i64 (c + 1))).alloc (.cells #[.int .i64 t.K, .int .i64 t.N, .string t.S, .string t.Z, .int .i64 t.T.K, .int .i64 t.T.N, .slice a1 l1 c1, .slice a2 l2 c2, .slice a3 l3 c3] 34)).alloc (.cells #[.pointer (some ⟨p, 0, none⟩)] 48) := ⟨_, rfl⟩
  have hXb : Below (w'.setCell ⟨p, 0, none⟩ (.int .i64 (c + 1))).heap.size (w'.setCell ⟨p, 0, none⟩ (.int .i64 (c + 1))) X := by rw [hX]; exact ((Below.refl _ _).alloc (Nat.le_refl _) _).alloc (by simp) _
  have hXs : X.heap.size = w'.heap.size + 2 := by rw [hX]; simp
  have hXp : X.heap[p]? = some (.cells #[.int .i64 (c + 1)] 3 (0, 0)) := by rw [hXb.block p (by simpa using hpl), row_set hw.is]; rfl
  have hN : Nx p w' X (c + 1) := ⟨⟨hXb.os, hXb.tape, hXb.output, by omega, fun i hi hne => (hXb.block i (by simpa using hi)).trans (row_other _ _ _ hne), fun i hi => Or.inl hi⟩, hXp⟩
  have hbx : X.heap[w'.heap.size]? = some (.cells #[.int .i64 t.K, .int .i64 t.N, .string t.S, .string t.Z, .int .i64 t.T.K, .int .i64 t.T.N, .slice a1 l1 c1, .slice a2 l2 c2, .slice a3 l3 c3] 34 (0, 0)) := by rw [hX, Below.heap_alloc _ _ _ (by simp)]; exact heap_new (by simp)
  have hbp : X.heap[w'.heap.size + 1]? = some (.cells #[.pointer (some ⟨p, 0, none⟩)] 48 (0, 0)) := by rw [hX]; exact heap_new (by simp)
  have hw1 : IntKind.i64.wrap (c + 1) = c + 1 := by have h0 := hk 0; have h1 := hk 1; have h2 := hk 2; rw [IntKind.wrap_i64]; omega
  have HX : Hid (X = ((w'.setCell ⟨p, 0, none⟩ (.int .i64 (c + 1))).alloc (.cells #[.int .i64 13, .int .i64 t.N, .string t.S, .string t.Z, .int .i64 t.T.K, .int .i64 t.T.N, .slice a1 l1 c1, .slice a2 l2 c2, .slice a3 l3 c3] 34)).alloc (.cells #[.pointer (some ⟨p, 0, none⟩)] 48)) := by show _ = _; rw [hX, hK]
  have HP0 : Hid (∀ y, Nx p X y (c + 1) → Calls Tryz.prog 66 #[.int .i64 0, .pointer (some ⟨w'.heap.size, 0, none⟩), .pointer (some ⟨w'.heap.size + 1, 0, none⟩)] y fun e y2 => e = .returned (.iface (τ 0 (c + 1)) (u 0 (c + 1))) ∧ Nx p X y2 (c + 1 + k 0)) := fun y hy =>
    (h0.call w'.heap.size (w'.heap.size + 1) y (c + 1) ((hw.trans hN).trans hy) ((hy.kf.block _ (by omega) (by omega)).trans hbx) ((hy.kf.block _ (by omega) (by omega)).trans hbp) (by have g0 := hk 0; have g1 := hk 1; have g2 := hk 2; omega) (by have g0 := hk 0; have g1 := hk 1; have g2 := hk 2; omega)).mono fun e y2 ⟨g1, g2⟩ => ⟨g1, hy.trans g2⟩
  have HP1 : Hid (∀ y, Nx p X y (c + 1 + k 0) → Calls Tryz.prog 66 #[.int .i64 1, .pointer (some ⟨w'.heap.size, 0, none⟩), .pointer (some ⟨w'.heap.size + 1, 0, none⟩)] y fun e y2 => e = .returned (.iface (τ 1 (c + 1 + k 0)) (u 1 (c + 1 + k 0))) ∧ Nx p X y2 (c + 1 + k 0 + k 1)) := fun y hy =>
    (h1.call w'.heap.size (w'.heap.size + 1) y (c + 1 + k 0) ((hw.trans hN).trans hy) ((hy.kf.block _ (by omega) (by omega)).trans hbx) ((hy.kf.block _ (by omega) (by omega)).trans hbp) (by have g0 := hk 0; have g1 := hk 1; have g2 := hk 2; omega) (by have g0 := hk 0; have g1 := hk 1; have g2 := hk 2; omega)).mono fun e y2 ⟨g1, g2⟩ => ⟨g1, hy.trans g2⟩
  have q := Nine.box hbx
  obtain ⟨q0, q1, q2, q3, q4, q5, q6, q7, q8⟩ := q
  rw [hK] at q0
  have z0 : Nx p X X (c + 1) := ⟨Kf.of_below (Below.refl _ _), hXp⟩
  clear hX hbx hbp hXp hXb
  go_enter Tryz.func55, Tryz.ntmps55
  go_wp2_with fail
  rw [← HX.out]
  refine (HP0.out _ z0).mono ?_
  rintro e y0 ⟨rfl, z1⟩
  go_wp2_with fail
  refine (HP1.out _ z1).mono ?_
  rintro e y1 ⟨rfl, z2⟩
  go_wp2_with fail
  go_ret
  exact ⟨rfl, hN.trans z2⟩

set_option maxRecDepth 100000 in
set_option maxHeartbeats 1000000 in
theorem form_14 (p : Nat) (t : Tm) (a1 : Option Addr) (l1 c1 : Nat) (a2 : Option Addr) (l2 c2 : Nat) (a3 : Option Addr) (l3 c3 : Nat) (τ : Nat → Int → TypeId) (u : Nat → Int → Value) (k : Nat → Int) (w w' : World) (c : Int) (hw : Nx p w w' c) (hK : t.K = 14) (hc : 0 ≤ c) (hk : ∀ i, 0 ≤ k i) (hm : (c + 1 + k 0 + k 1 + k 2) ≤ 1000000) (h0 : PartIs p w #[.int .i64 t.K, .int .i64 t.N, .string t.S, .string t.Z, .int .i64 t.T.K, .int .i64 t.T.N, .slice a1 l1 c1, .slice a2 l2 c2, .slice a3 l3 c3] 0 (fun c => .iface (τ 0 c) (u 0 c)) (k 0)) (h1 : PartIs p w #[.int .i64 t.K, .int .i64 t.N, .string t.S, .string t.Z, .int .i64 t.T.K, .int .i64 t.T.N, .slice a1 l1 c1, .slice a2 l2 c2, .slice a3 l3 c3] 1 (fun c => .iface (τ 1 c) (u 1 c)) (k 1)) (h2 : PartIs p w #[.int .i64 t.K, .int .i64 t.N, .string t.S, .string t.Z, .int .i64 t.T.K, .int .i64 t.T.N, .slice a1 l1 c1, .slice a2 l2 c2, .slice a3 l3 c3] 2 (fun c => .iface (τ 2 c) (u 2 c)) (k 2)) :
    Calls Tryz.prog 55 #[.agg #[.int .i64 t.K, .int .i64 t.N, .string t.S, .string t.Z, .int .i64 t.T.K, .int .i64 t.T.N, .slice a1 l1 c1, .slice a2 l2 c2, .slice a3 l3 c3], .pointer (some ⟨p, 0, none⟩)] w' fun e w'' => e = .returned (.iface 98 (.agg #[.string t.S, .string t.Z, .iface (τ 0 (c + 1)) (u 0 (c + 1)), .iface (τ 1 (c + 1 + k 0)) (u 1 (c + 1 + k 0)), .iface (τ 2 (c + 1 + k 0 + k 1)) (u 2 (c + 1 + k 0 + k 1))])) ∧ Nx p w' w'' (c + 1 + k 0 + k 1 + k 2) := by
  have hpl := hw.lt
  have r0 := cell_1 hw.is
  have r1 := row_free hw.is 0
  obtain ⟨X, hX⟩ : ∃ X, X = ((w'.setCell ⟨p, 0, none⟩ (.int .i64 (c + 1))).alloc (.cells #[.int .i64 t.K, .int .i64 t.N, .string t.S, .string t.Z, .int .i64 t.T.K, .int .i64 t.T.N, .slice a1 l1 c1, .slice a2 l2 c2, .slice a3 l3 c3] 34)).alloc (.cells #[.pointer (some ⟨p, 0, none⟩)] 48) := ⟨_, rfl⟩
  have hXb : Below (w'.setCell ⟨p, 0, none⟩ (.int .i64 (c + 1))).heap.size (w'.setCell ⟨p, 0, none⟩ (.int .i64 (c + 1))) X := by rw [hX]; exact ((Below.refl _ _).alloc (Nat.le_refl _) _).alloc (by simp) _
  have hXs : X.heap.size = w'.heap.size + 2 := by rw [hX]; simp
  have hXp : X.heap[p]? = some (.cells #[.int .i64 (c + 1)] 3 (0, 0)) := by rw [hXb.block p (by simpa using hpl), row_set hw.is]; rfl
  have hN : Nx p w' X (c + 1) := ⟨⟨hXb.os, hXb.tape, hXb.output, by omega, fun i hi hne => (hXb.block i (by simpa using hi)).trans (row_other _ _ _ hne), fun i hi => Or.inl hi⟩, hXp⟩
  have hbx : X.heap[w'.heap.size]? = some (.cells #[.int .i64 t.K, .int .i64 t.N, .string t.S, .string t.Z, .int .i64 t.T.K, .int .i64 t.T.N, .slice a1 l1 c1, .slice a2 l2 c2, .slice a3 l3 c3] 34 (0, 0)) := by rw [hX, Below.heap_alloc _ _ _ (by simp)]; exact heap_new (by simp)
  have hbp : X.heap[w'.heap.size + 1]? = some (.cells #[.pointer (some ⟨p, 0, none⟩)] 48 (0, 0)) := by rw [hX]; exact heap_new (by simp)
  have hw1 : IntKind.i64.wrap (c + 1) = c + 1 := by have h0 := hk 0; have h1 := hk 1; have h2 := hk 2; rw [IntKind.wrap_i64]; omega
  have HX : Hid (X = ((w'.setCell ⟨p, 0, none⟩ (.int .i64 (c + 1))).alloc (.cells #[.int .i64 14, .int .i64 t.N, .string t.S, .string t.Z, .int .i64 t.T.K, .int .i64 t.T.N, .slice a1 l1 c1, .slice a2 l2 c2, .slice a3 l3 c3] 34)).alloc (.cells #[.pointer (some ⟨p, 0, none⟩)] 48)) := by show _ = _; rw [hX, hK]
  have HP0 : Hid (∀ y, Nx p X y (c + 1) → Calls Tryz.prog 66 #[.int .i64 0, .pointer (some ⟨w'.heap.size, 0, none⟩), .pointer (some ⟨w'.heap.size + 1, 0, none⟩)] y fun e y2 => e = .returned (.iface (τ 0 (c + 1)) (u 0 (c + 1))) ∧ Nx p X y2 (c + 1 + k 0)) := fun y hy =>
    (h0.call w'.heap.size (w'.heap.size + 1) y (c + 1) ((hw.trans hN).trans hy) ((hy.kf.block _ (by omega) (by omega)).trans hbx) ((hy.kf.block _ (by omega) (by omega)).trans hbp) (by have g0 := hk 0; have g1 := hk 1; have g2 := hk 2; omega) (by have g0 := hk 0; have g1 := hk 1; have g2 := hk 2; omega)).mono fun e y2 ⟨g1, g2⟩ => ⟨g1, hy.trans g2⟩
  have HP1 : Hid (∀ y, Nx p X y (c + 1 + k 0) → Calls Tryz.prog 66 #[.int .i64 1, .pointer (some ⟨w'.heap.size, 0, none⟩), .pointer (some ⟨w'.heap.size + 1, 0, none⟩)] y fun e y2 => e = .returned (.iface (τ 1 (c + 1 + k 0)) (u 1 (c + 1 + k 0))) ∧ Nx p X y2 (c + 1 + k 0 + k 1)) := fun y hy =>
    (h1.call w'.heap.size (w'.heap.size + 1) y (c + 1 + k 0) ((hw.trans hN).trans hy) ((hy.kf.block _ (by omega) (by omega)).trans hbx) ((hy.kf.block _ (by omega) (by omega)).trans hbp) (by have g0 := hk 0; have g1 := hk 1; have g2 := hk 2; omega) (by have g0 := hk 0; have g1 := hk 1; have g2 := hk 2; omega)).mono fun e y2 ⟨g1, g2⟩ => ⟨g1, hy.trans g2⟩
  have HP2 : Hid (∀ y, Nx p X y (c + 1 + k 0 + k 1) → Calls Tryz.prog 66 #[.int .i64 2, .pointer (some ⟨w'.heap.size, 0, none⟩), .pointer (some ⟨w'.heap.size + 1, 0, none⟩)] y fun e y2 => e = .returned (.iface (τ 2 (c + 1 + k 0 + k 1)) (u 2 (c + 1 + k 0 + k 1))) ∧ Nx p X y2 (c + 1 + k 0 + k 1 + k 2)) := fun y hy =>
    (h2.call w'.heap.size (w'.heap.size + 1) y (c + 1 + k 0 + k 1) ((hw.trans hN).trans hy) ((hy.kf.block _ (by omega) (by omega)).trans hbx) ((hy.kf.block _ (by omega) (by omega)).trans hbp) (by have g0 := hk 0; have g1 := hk 1; have g2 := hk 2; omega) (by have g0 := hk 0; have g1 := hk 1; have g2 := hk 2; omega)).mono fun e y2 ⟨g1, g2⟩ => ⟨g1, hy.trans g2⟩
  have HS : Hid (∀ W ci, Nx p X W ci → W.cell? ⟨w'.heap.size, 0, none⟩ = some (.int .i64 14) ∧ W.cell? ⟨w'.heap.size, 1, none⟩ = some (.int .i64 t.N) ∧ W.cell? ⟨w'.heap.size, 2, none⟩ = some (.string t.S) ∧ W.cell? ⟨w'.heap.size, 3, none⟩ = some (.string t.Z) ∧ W.cell? ⟨w'.heap.size, 4, none⟩ = some (.int .i64 t.T.K) ∧ W.cell? ⟨w'.heap.size, 5, none⟩ = some (.int .i64 t.T.N) ∧ W.cell? ⟨w'.heap.size, 6, none⟩ = some (.slice a1 l1 c1) ∧ W.cell? ⟨w'.heap.size, 7, none⟩ = some (.slice a2 l2 c2) ∧ W.cell? ⟨w'.heap.size, 8, none⟩ = some (.slice a3 l3 c3)) := fun W ci hW => by
    obtain ⟨q0, q1, q2, q3, q4, q5, q6, q7, q8⟩ := Nine.box ((hW.kf.block _ (by omega) (by omega)).trans hbx)
    rw [hK] at q0
    exact ⟨q0, q1, q2, q3, q4, q5, q6, q7, q8⟩
  have z0 : Nx p X X.drew (c + 1) := Nx.drew ⟨Kf.of_below (Below.refl _ _), hXp⟩
  clear hX hbx hbp hXp hXb
  go_enter Tryz.func55, Tryz.ntmps55
  go_wp2_with fail
  rw [← HX.out]
  go_region_held3 (fun W => W.cell? ⟨w'.heap.size, 0, none⟩ = some (.int .i64 14) ∧ W.cell? ⟨w'.heap.size, 1, none⟩ = some (.int .i64 t.N) ∧ W.cell? ⟨w'.heap.size, 2, none⟩ = some (.string t.S) ∧ W.cell? ⟨w'.heap.size, 3, none⟩ = some (.string t.Z) ∧ W.cell? ⟨w'.heap.size, 4, none⟩ = some (.int .i64 t.T.K) ∧ W.cell? ⟨w'.heap.size, 5, none⟩ = some (.int .i64 t.T.N) ∧ W.cell? ⟨w'.heap.size, 6, none⟩ = some (.slice a1 l1 c1) ∧ W.cell? ⟨w'.heap.size, 7, none⟩ = some (.slice a2 l2 c2) ∧ W.cell? ⟨w'.heap.size, 8, none⟩ = some (.slice a3 l3 c3))
    (first | with_reducible exact HS.out _ _ z3 | with_reducible exact HS.out _ _ z2 | with_reducible exact HS.out _ _ z1 | with_reducible exact HS.out _ _ z0)
    (first | (go_at_call 66; refine (HP2.out _ z2).mono ?_; rintro e y3 ⟨rfl, z3⟩) | (go_at_call 66; refine (HP1.out _ z1).mono ?_; rintro e y2 ⟨rfl, z2⟩) | (go_at_call 66; refine (HP0.out _ z0).mono ?_; rintro e y1 ⟨rfl, z1⟩))
  all_goals
    go_wp2_with fail
    go_ret
    exact ⟨rfl, hN.trans z3⟩

set_option maxRecDepth 100000 in
set_option maxHeartbeats 1000000 in
theorem form_15 (p : Nat) (t : Tm) (a1 : Option Addr) (l1 c1 : Nat) (a2 : Option Addr) (l2 c2 : Nat) (a3 : Option Addr) (l3 c3 : Nat) (τ : Nat → Int → TypeId) (u : Nat → Int → Value) (k : Nat → Int) (w w' : World) (c : Int) (hw : Nx p w w' c) (hK : t.K = 15) (hc : 0 ≤ c) (hk : ∀ i, 0 ≤ k i) (hm : (c + 1 + k 0 + k 1) ≤ 1000000) (h0 : PartIs p w #[.int .i64 t.K, .int .i64 t.N, .string t.S, .string t.Z, .int .i64 t.T.K, .int .i64 t.T.N, .slice a1 l1 c1, .slice a2 l2 c2, .slice a3 l3 c3] 0 (fun c => .iface (τ 0 c) (u 0 c)) (k 0)) (h1 : PartIs p w #[.int .i64 t.K, .int .i64 t.N, .string t.S, .string t.Z, .int .i64 t.T.K, .int .i64 t.T.N, .slice a1 l1 c1, .slice a2 l2 c2, .slice a3 l3 c3] 1 (fun c => .iface (τ 1 c) (u 1 c)) (k 1)) :
    Calls Tryz.prog 55 #[.agg #[.int .i64 t.K, .int .i64 t.N, .string t.S, .string t.Z, .int .i64 t.T.K, .int .i64 t.T.N, .slice a1 l1 c1, .slice a2 l2 c2, .slice a3 l3 c3], .pointer (some ⟨p, 0, none⟩)] w' fun e w'' => e = .returned (.iface 130 (.agg #[.int .i64 t.N, .iface (τ 0 (c + 1)) (u 0 (c + 1)), .iface (τ 1 (c + 1 + k 0)) (u 1 (c + 1 + k 0))])) ∧ Nx p w' w'' (c + 1 + k 0 + k 1) := by
  have hpl := hw.lt
  have r0 := cell_1 hw.is
  have r1 := row_free hw.is 0
  obtain ⟨X, hX⟩ : ∃ X, X = ((w'.setCell ⟨p, 0, none⟩ (.int .i64 (c + 1))).alloc (.cells #[.int .i64 t.K, .int .i64 t.N, .string t.S, .string t.Z, .int .i64 t.T.K, .int .i64 t.T.N, .slice a1 l1 c1, .slice a2 l2 c2, .slice a3 l3 c3] 34)).alloc (.cells #[.pointer (some ⟨p, 0, none⟩)] 48) := ⟨_, rfl⟩
  have hXb : Below (w'.setCell ⟨p, 0, none⟩ (.int .i64 (c + 1))).heap.size (w'.setCell ⟨p, 0, none⟩ (.int .i64 (c + 1))) X := by rw [hX]; exact ((Below.refl _ _).alloc (Nat.le_refl _) _).alloc (by simp) _
  have hXs : X.heap.size = w'.heap.size + 2 := by rw [hX]; simp
  have hXp : X.heap[p]? = some (.cells #[.int .i64 (c + 1)] 3 (0, 0)) := by rw [hXb.block p (by simpa using hpl), row_set hw.is]; rfl
  have hN : Nx p w' X (c + 1) := ⟨⟨hXb.os, hXb.tape, hXb.output, by omega, fun i hi hne => (hXb.block i (by simpa using hi)).trans (row_other _ _ _ hne), fun i hi => Or.inl hi⟩, hXp⟩
  have hbx : X.heap[w'.heap.size]? = some (.cells #[.int .i64 t.K, .int .i64 t.N, .string t.S, .string t.Z, .int .i64 t.T.K, .int .i64 t.T.N, .slice a1 l1 c1, .slice a2 l2 c2, .slice a3 l3 c3] 34 (0, 0)) := by rw [hX, Below.heap_alloc _ _ _ (by simp)]; exact heap_new (by simp)
  have hbp : X.heap[w'.heap.size + 1]? = some (.cells #[.pointer (some ⟨p, 0, none⟩)] 48 (0, 0)) := by rw [hX]; exact heap_new (by simp)
  have hw1 : IntKind.i64.wrap (c + 1) = c + 1 := by have h0 := hk 0; have h1 := hk 1; have h2 := hk 2; rw [IntKind.wrap_i64]; omega
  have HX : Hid (X = ((w'.setCell ⟨p, 0, none⟩ (.int .i64 (c + 1))).alloc (.cells #[.int .i64 15, .int .i64 t.N, .string t.S, .string t.Z, .int .i64 t.T.K, .int .i64 t.T.N, .slice a1 l1 c1, .slice a2 l2 c2, .slice a3 l3 c3] 34)).alloc (.cells #[.pointer (some ⟨p, 0, none⟩)] 48)) := by show _ = _; rw [hX, hK]
  have HP0 : Hid (∀ y, Nx p X y (c + 1) → Calls Tryz.prog 66 #[.int .i64 0, .pointer (some ⟨w'.heap.size, 0, none⟩), .pointer (some ⟨w'.heap.size + 1, 0, none⟩)] y fun e y2 => e = .returned (.iface (τ 0 (c + 1)) (u 0 (c + 1))) ∧ Nx p X y2 (c + 1 + k 0)) := fun y hy =>
    (h0.call w'.heap.size (w'.heap.size + 1) y (c + 1) ((hw.trans hN).trans hy) ((hy.kf.block _ (by omega) (by omega)).trans hbx) ((hy.kf.block _ (by omega) (by omega)).trans hbp) (by have g0 := hk 0; have g1 := hk 1; have g2 := hk 2; omega) (by have g0 := hk 0; have g1 := hk 1; have g2 := hk 2; omega)).mono fun e y2 ⟨g1, g2⟩ => ⟨g1, hy.trans g2⟩
  have HP1 : Hid (∀ y, Nx p X y (c + 1 + k 0) → Calls Tryz.prog 66 #[.int .i64 1, .pointer (some ⟨w'.heap.size, 0, none⟩), .pointer (some ⟨w'.heap.size + 1, 0, none⟩)] y fun e y2 => e = .returned (.iface (τ 1 (c + 1 + k 0)) (u 1 (c + 1 + k 0))) ∧ Nx p X y2 (c + 1 + k 0 + k 1)) := fun y hy =>
    (h1.call w'.heap.size (w'.heap.size + 1) y (c + 1 + k 0) ((hw.trans hN).trans hy) ((hy.kf.block _ (by omega) (by omega)).trans hbx) ((hy.kf.block _ (by omega) (by omega)).trans hbp) (by have g0 := hk 0; have g1 := hk 1; have g2 := hk 2; omega) (by have g0 := hk 0; have g1 := hk 1; have g2 := hk 2; omega)).mono fun e y2 ⟨g1, g2⟩ => ⟨g1, hy.trans g2⟩
  have HS : Hid (∀ W ci, Nx p X W ci → W.cell? ⟨w'.heap.size, 0, none⟩ = some (.int .i64 15) ∧ W.cell? ⟨w'.heap.size, 1, none⟩ = some (.int .i64 t.N) ∧ W.cell? ⟨w'.heap.size, 2, none⟩ = some (.string t.S) ∧ W.cell? ⟨w'.heap.size, 3, none⟩ = some (.string t.Z) ∧ W.cell? ⟨w'.heap.size, 4, none⟩ = some (.int .i64 t.T.K) ∧ W.cell? ⟨w'.heap.size, 5, none⟩ = some (.int .i64 t.T.N) ∧ W.cell? ⟨w'.heap.size, 6, none⟩ = some (.slice a1 l1 c1) ∧ W.cell? ⟨w'.heap.size, 7, none⟩ = some (.slice a2 l2 c2) ∧ W.cell? ⟨w'.heap.size, 8, none⟩ = some (.slice a3 l3 c3)) := fun W ci hW => by
    obtain ⟨q0, q1, q2, q3, q4, q5, q6, q7, q8⟩ := Nine.box ((hW.kf.block _ (by omega) (by omega)).trans hbx)
    rw [hK] at q0
    exact ⟨q0, q1, q2, q3, q4, q5, q6, q7, q8⟩
  have z0 : Nx p X X.drew (c + 1) := Nx.drew ⟨Kf.of_below (Below.refl _ _), hXp⟩
  clear hX hbx hbp hXp hXb
  go_enter Tryz.func55, Tryz.ntmps55
  go_wp2_with fail
  rw [← HX.out]
  go_region_held3 (fun W => W.cell? ⟨w'.heap.size, 0, none⟩ = some (.int .i64 15) ∧ W.cell? ⟨w'.heap.size, 1, none⟩ = some (.int .i64 t.N) ∧ W.cell? ⟨w'.heap.size, 2, none⟩ = some (.string t.S) ∧ W.cell? ⟨w'.heap.size, 3, none⟩ = some (.string t.Z) ∧ W.cell? ⟨w'.heap.size, 4, none⟩ = some (.int .i64 t.T.K) ∧ W.cell? ⟨w'.heap.size, 5, none⟩ = some (.int .i64 t.T.N) ∧ W.cell? ⟨w'.heap.size, 6, none⟩ = some (.slice a1 l1 c1) ∧ W.cell? ⟨w'.heap.size, 7, none⟩ = some (.slice a2 l2 c2) ∧ W.cell? ⟨w'.heap.size, 8, none⟩ = some (.slice a3 l3 c3))
    (first | with_reducible exact HS.out _ _ z2 | with_reducible exact HS.out _ _ z1 | with_reducible exact HS.out _ _ z0)
    (first | (go_at_call 66; refine (HP1.out _ z1).mono ?_; rintro e y2 ⟨rfl, z2⟩) | (go_at_call 66; refine (HP0.out _ z0).mono ?_; rintro e y1 ⟨rfl, z1⟩))
  all_goals
    go_wp2_with fail
    go_ret
    exact ⟨rfl, hN.trans z2⟩

set_option maxRecDepth 100000 in
set_option maxHeartbeats 1000000 in
theorem form_16 (p : Nat) (t : Tm) (a1 : Option Addr) (l1 c1 : Nat) (a2 : Option Addr) (l2 c2 : Nat) (a3 : Option Addr) (l3 c3 : Nat) (τ : Nat → Int → TypeId) (u : Nat → Int → Value) (k : Nat → Int) (w w' : World) (c : Int) (hw : Nx p w w' c) (hK : t.K = 16) (hc : 0 ≤ c) (hk : ∀ i, 0 ≤ k i) (hm : (c + 1 + k 0) ≤ 1000000) (h0 : PartIs p w #[.int .i64 t.K, .int .i64 t.N, .string t.S, .string t.Z, .int .i64 t.T.K, .int .i64 t.T.N, .slice a1 l1 c1, .slice a2 l2 c2, .slice a3 l3 c3] 0 (fun c => .iface (τ 0 c) (u 0 c)) (k 0)) :
    Calls Tryz.prog 55 #[.agg #[.int .i64 t.K, .int .i64 t.N, .string t.S, .string t.Z, .int .i64 t.T.K, .int .i64 t.T.N, .slice a1 l1 c1, .slice a2 l2 c2, .slice a3 l3 c3], .pointer (some ⟨p, 0, none⟩)] w' fun e w'' => e = .returned (.iface 132 (.agg #[.int .i64 t.T.K, .int .i64 t.T.N, .slice a1 l1 c1, .iface (τ 0 (c + 1)) (u 0 (c + 1))])) ∧ Nx p w' w'' (c + 1 + k 0) := by
  have hpl := hw.lt
  have r0 := cell_1 hw.is
  have r1 := row_free hw.is 0
  obtain ⟨X, hX⟩ : ∃ X, X = ((w'.setCell ⟨p, 0, none⟩ (.int .i64 (c + 1))).alloc (.cells #[.int .i64 t.K, .int .i64 t.N, .string t.S, .string t.Z, .int .i64 t.T.K, .int .i64 t.T.N, .slice a1 l1 c1, .slice a2 l2 c2, .slice a3 l3 c3] 34)).alloc (.cells #[.pointer (some ⟨p, 0, none⟩)] 48) := ⟨_, rfl⟩
  have hXb : Below (w'.setCell ⟨p, 0, none⟩ (.int .i64 (c + 1))).heap.size (w'.setCell ⟨p, 0, none⟩ (.int .i64 (c + 1))) X := by rw [hX]; exact ((Below.refl _ _).alloc (Nat.le_refl _) _).alloc (by simp) _
  have hXs : X.heap.size = w'.heap.size + 2 := by rw [hX]; simp
  have hXp : X.heap[p]? = some (.cells #[.int .i64 (c + 1)] 3 (0, 0)) := by rw [hXb.block p (by simpa using hpl), row_set hw.is]; rfl
  have hN : Nx p w' X (c + 1) := ⟨⟨hXb.os, hXb.tape, hXb.output, by omega, fun i hi hne => (hXb.block i (by simpa using hi)).trans (row_other _ _ _ hne), fun i hi => Or.inl hi⟩, hXp⟩
  have hbx : X.heap[w'.heap.size]? = some (.cells #[.int .i64 t.K, .int .i64 t.N, .string t.S, .string t.Z, .int .i64 t.T.K, .int .i64 t.T.N, .slice a1 l1 c1, .slice a2 l2 c2, .slice a3 l3 c3] 34 (0, 0)) := by rw [hX, Below.heap_alloc _ _ _ (by simp)]; exact heap_new (by simp)
  have hbp : X.heap[w'.heap.size + 1]? = some (.cells #[.pointer (some ⟨p, 0, none⟩)] 48 (0, 0)) := by rw [hX]; exact heap_new (by simp)
  have hw1 : IntKind.i64.wrap (c + 1) = c + 1 := by have h0 := hk 0; have h1 := hk 1; have h2 := hk 2; rw [IntKind.wrap_i64]; omega
  have HX : Hid (X = ((w'.setCell ⟨p, 0, none⟩ (.int .i64 (c + 1))).alloc (.cells #[.int .i64 16, .int .i64 t.N, .string t.S, .string t.Z, .int .i64 t.T.K, .int .i64 t.T.N, .slice a1 l1 c1, .slice a2 l2 c2, .slice a3 l3 c3] 34)).alloc (.cells #[.pointer (some ⟨p, 0, none⟩)] 48)) := by show _ = _; rw [hX, hK]
  have HP0 : Hid (∀ y, Nx p X y (c + 1) → Calls Tryz.prog 66 #[.int .i64 0, .pointer (some ⟨w'.heap.size, 0, none⟩), .pointer (some ⟨w'.heap.size + 1, 0, none⟩)] y fun e y2 => e = .returned (.iface (τ 0 (c + 1)) (u 0 (c + 1))) ∧ Nx p X y2 (c + 1 + k 0)) := fun y hy =>
    (h0.call w'.heap.size (w'.heap.size + 1) y (c + 1) ((hw.trans hN).trans hy) ((hy.kf.block _ (by omega) (by omega)).trans hbx) ((hy.kf.block _ (by omega) (by omega)).trans hbp) (by have g0 := hk 0; have g1 := hk 1; have g2 := hk 2; omega) (by have g0 := hk 0; have g1 := hk 1; have g2 := hk 2; omega)).mono fun e y2 ⟨g1, g2⟩ => ⟨g1, hy.trans g2⟩
  have HS : Hid (∀ W ci, Nx p X W ci → W.cell? ⟨w'.heap.size, 0, none⟩ = some (.int .i64 16) ∧ W.cell? ⟨w'.heap.size, 1, none⟩ = some (.int .i64 t.N) ∧ W.cell? ⟨w'.heap.size, 2, none⟩ = some (.string t.S) ∧ W.cell? ⟨w'.heap.size, 3, none⟩ = some (.string t.Z) ∧ W.cell? ⟨w'.heap.size, 4, none⟩ = some (.int .i64 t.T.K) ∧ W.cell? ⟨w'.heap.size, 5, none⟩ = some (.int .i64 t.T.N) ∧ W.cell? ⟨w'.heap.size, 6, none⟩ = some (.slice a1 l1 c1) ∧ W.cell? ⟨w'.heap.size, 7, none⟩ = some (.slice a2 l2 c2) ∧ W.cell? ⟨w'.heap.size, 8, none⟩ = some (.slice a3 l3 c3)) := fun W ci hW => by
    obtain ⟨q0, q1, q2, q3, q4, q5, q6, q7, q8⟩ := Nine.box ((hW.kf.block _ (by omega) (by omega)).trans hbx)
    rw [hK] at q0
    exact ⟨q0, q1, q2, q3, q4, q5, q6, q7, q8⟩
  have z0 : Nx p X X.drew (c + 1) := Nx.drew ⟨Kf.of_below (Below.refl _ _), hXp⟩
  clear hX hbx hbp hXp hXb
  go_enter Tryz.func55, Tryz.ntmps55
  go_wp2_with fail
  rw [← HX.out]
  go_region_held3 (fun W => W.cell? ⟨w'.heap.size, 0, none⟩ = some (.int .i64 16) ∧ W.cell? ⟨w'.heap.size, 1, none⟩ = some (.int .i64 t.N) ∧ W.cell? ⟨w'.heap.size, 2, none⟩ = some (.string t.S) ∧ W.cell? ⟨w'.heap.size, 3, none⟩ = some (.string t.Z) ∧ W.cell? ⟨w'.heap.size, 4, none⟩ = some (.int .i64 t.T.K) ∧ W.cell? ⟨w'.heap.size, 5, none⟩ = some (.int .i64 t.T.N) ∧ W.cell? ⟨w'.heap.size, 6, none⟩ = some (.slice a1 l1 c1) ∧ W.cell? ⟨w'.heap.size, 7, none⟩ = some (.slice a2 l2 c2) ∧ W.cell? ⟨w'.heap.size, 8, none⟩ = some (.slice a3 l3 c3))
    (first | with_reducible exact HS.out _ _ z1 | with_reducible exact HS.out _ _ z0)
    (first | (go_at_call 66; refine (HP0.out _ z0).mono ?_; rintro e y1 ⟨rfl, z1⟩))
  all_goals
    go_wp2_with fail
    go_ret
    exact ⟨rfl, hN.trans z1⟩

set_option maxRecDepth 100000 in
set_option maxHeartbeats 1000000 in
theorem form_17 (p : Nat) (t : Tm) (a1 : Option Addr) (l1 c1 : Nat) (a2 : Option Addr) (l2 c2 : Nat) (a3 : Option Addr) (l3 c3 : Nat) (τ : Nat → Int → TypeId) (u : Nat → Int → Value) (k : Nat → Int) (w w' : World) (c : Int) (hw : Nx p w w' c) (hK : t.K = 17) (hc : 0 ≤ c) (hk : ∀ i, 0 ≤ k i) (hm : (c + 1 + k 0 + k 1) ≤ 1000000) (h0 : PartIs p w #[.int .i64 t.K, .int .i64 t.N, .string t.S, .string t.Z, .int .i64 t.T.K, .int .i64 t.T.N, .slice a1 l1 c1, .slice a2 l2 c2, .slice a3 l3 c3] 0 (fun c => .iface (τ 0 c) (u 0 c)) (k 0)) (h1 : PartIs p w #[.int .i64 t.K, .int .i64 t.N, .string t.S, .string t.Z, .int .i64 t.T.K, .int .i64 t.T.N, .slice a1 l1 c1, .slice a2 l2 c2, .slice a3 l3 c3] 1 (fun c => .iface (τ 1 c) (u 1 c)) (k 1)) :
    Calls Tryz.prog 55 #[.agg #[.int .i64 t.K, .int .i64 t.N, .string t.S, .string t.Z, .int .i64 t.T.K, .int .i64 t.T.N, .slice a1 l1 c1, .slice a2 l2 c2, .slice a3 l3 c3], .pointer (some ⟨p, 0, none⟩)] w' fun e w'' => e = .returned (.iface 100 (.agg #[.string t.S, .iface (τ 0 (c + 1)) (u 0 (c + 1)), .iface (τ 1 (c + 1 + k 0)) (u 1 (c + 1 + k 0))])) ∧ Nx p w' w'' (c + 1 + k 0 + k 1) := by
  have hpl := hw.lt
  have r0 := cell_1 hw.is
  have r1 := row_free hw.is 0
  obtain ⟨X, hX⟩ : ∃ X, X = ((w'.setCell ⟨p, 0, none⟩ (.int .i64 (c + 1))).alloc (.cells #[.int .i64 t.K, .int .i64 t.N, .string t.S, .string t.Z, .int .i64 t.T.K, .int .i64 t.T.N, .slice a1 l1 c1, .slice a2 l2 c2, .slice a3 l3 c3] 34)).alloc (.cells #[.pointer (some ⟨p, 0, none⟩)] 48) := ⟨_, rfl⟩
  have hXb : Below (w'.setCell ⟨p, 0, none⟩ (.int .i64 (c + 1))).heap.size (w'.setCell ⟨p, 0, none⟩ (.int .i64 (c + 1))) X := by rw [hX]; exact ((Below.refl _ _).alloc (Nat.le_refl _) _).alloc (by simp) _
  have hXs : X.heap.size = w'.heap.size + 2 := by rw [hX]; simp
  have hXp : X.heap[p]? = some (.cells #[.int .i64 (c + 1)] 3 (0, 0)) := by rw [hXb.block p (by simpa using hpl), row_set hw.is]; rfl
  have hN : Nx p w' X (c + 1) := ⟨⟨hXb.os, hXb.tape, hXb.output, by omega, fun i hi hne => (hXb.block i (by simpa using hi)).trans (row_other _ _ _ hne), fun i hi => Or.inl hi⟩, hXp⟩
  have hbx : X.heap[w'.heap.size]? = some (.cells #[.int .i64 t.K, .int .i64 t.N, .string t.S, .string t.Z, .int .i64 t.T.K, .int .i64 t.T.N, .slice a1 l1 c1, .slice a2 l2 c2, .slice a3 l3 c3] 34 (0, 0)) := by rw [hX, Below.heap_alloc _ _ _ (by simp)]; exact heap_new (by simp)
  have hbp : X.heap[w'.heap.size + 1]? = some (.cells #[.pointer (some ⟨p, 0, none⟩)] 48 (0, 0)) := by rw [hX]; exact heap_new (by simp)
  have hw1 : IntKind.i64.wrap (c + 1) = c + 1 := by have h0 := hk 0; have h1 := hk 1; have h2 := hk 2; rw [IntKind.wrap_i64]; omega
  have HX : Hid (X = ((w'.setCell ⟨p, 0, none⟩ (.int .i64 (c + 1))).alloc (.cells #[.int .i64 17, .int .i64 t.N, .string t.S, .string t.Z, .int .i64 t.T.K, .int .i64 t.T.N, .slice a1 l1 c1, .slice a2 l2 c2, .slice a3 l3 c3] 34)).alloc (.cells #[.pointer (some ⟨p, 0, none⟩)] 48)) := by show _ = _; rw [hX, hK]
  have HP0 : Hid (∀ y, Nx p X y (c + 1) → Calls Tryz.prog 66 #[.int .i64 0, .pointer (some ⟨w'.heap.size, 0, none⟩), .pointer (some ⟨w'.heap.size + 1, 0, none⟩)] y fun e y2 => e = .returned (.iface (τ 0 (c + 1)) (u 0 (c + 1))) ∧ Nx p X y2 (c + 1 + k 0)) := fun y hy =>
    (h0.call w'.heap.size (w'.heap.size + 1) y (c + 1) ((hw.trans hN).trans hy) ((hy.kf.block _ (by omega) (by omega)).trans hbx) ((hy.kf.block _ (by omega) (by omega)).trans hbp) (by have g0 := hk 0; have g1 := hk 1; have g2 := hk 2; omega) (by have g0 := hk 0; have g1 := hk 1; have g2 := hk 2; omega)).mono fun e y2 ⟨g1, g2⟩ => ⟨g1, hy.trans g2⟩
  have HP1 : Hid (∀ y, Nx p X y (c + 1 + k 0) → Calls Tryz.prog 66 #[.int .i64 1, .pointer (some ⟨w'.heap.size, 0, none⟩), .pointer (some ⟨w'.heap.size + 1, 0, none⟩)] y fun e y2 => e = .returned (.iface (τ 1 (c + 1 + k 0)) (u 1 (c + 1 + k 0))) ∧ Nx p X y2 (c + 1 + k 0 + k 1)) := fun y hy =>
    (h1.call w'.heap.size (w'.heap.size + 1) y (c + 1 + k 0) ((hw.trans hN).trans hy) ((hy.kf.block _ (by omega) (by omega)).trans hbx) ((hy.kf.block _ (by omega) (by omega)).trans hbp) (by have g0 := hk 0; have g1 := hk 1; have g2 := hk 2; omega) (by have g0 := hk 0; have g1 := hk 1; have g2 := hk 2; omega)).mono fun e y2 ⟨g1, g2⟩ => ⟨g1, hy.trans g2⟩
  have HS : Hid (∀ W ci, Nx p X W ci → W.cell? ⟨w'.heap.size, 0, none⟩ = some (.int .i64 17) ∧ W.cell? ⟨w'.heap.size, 1, none⟩ = some (.int .i64 t.N) ∧ W.cell? ⟨w'.heap.size, 2, none⟩ = some (.string t.S) ∧ W.cell? ⟨w'.heap.size, 3, none⟩ = some (.string t.Z) ∧ W.cell? ⟨w'.heap.size, 4, none⟩ = some (.int .i64 t.T.K) ∧ W.cell? ⟨w'.heap.size, 5, none⟩ = some (.int .i64 t.T.N) ∧ W.cell? ⟨w'.heap.size, 6, none⟩ = some (.slice a1 l1 c1) ∧ W.cell? ⟨w'.heap.size, 7, none⟩ = some (.slice a2 l2 c2) ∧ W.cell? ⟨w'.heap.size, 8, none⟩ = some (.slice a3 l3 c3)) := fun W ci hW => by
    obtain ⟨q0, q1, q2, q3, q4, q5, q6, q7, q8⟩ := Nine.box ((hW.kf.block _ (by omega) (by omega)).trans hbx)
    rw [hK] at q0
    exact ⟨q0, q1, q2, q3, q4, q5, q6, q7, q8⟩
  have z0 : Nx p X X.drew (c + 1) := Nx.drew ⟨Kf.of_below (Below.refl _ _), hXp⟩
  clear hX hbx hbp hXp hXb
  go_enter Tryz.func55, Tryz.ntmps55
  go_wp2_with fail
  rw [← HX.out]
  go_region_held3 (fun W => W.cell? ⟨w'.heap.size, 0, none⟩ = some (.int .i64 17) ∧ W.cell? ⟨w'.heap.size, 1, none⟩ = some (.int .i64 t.N) ∧ W.cell? ⟨w'.heap.size, 2, none⟩ = some (.string t.S) ∧ W.cell? ⟨w'.heap.size, 3, none⟩ = some (.string t.Z) ∧ W.cell? ⟨w'.heap.size, 4, none⟩ = some (.int .i64 t.T.K) ∧ W.cell? ⟨w'.heap.size, 5, none⟩ = some (.int .i64 t.T.N) ∧ W.cell? ⟨w'.heap.size, 6, none⟩ = some (.slice a1 l1 c1) ∧ W.cell? ⟨w'.heap.size, 7, none⟩ = some (.slice a2 l2 c2) ∧ W.cell? ⟨w'.heap.size, 8, none⟩ = some (.slice a3 l3 c3))
    (first | with_reducible exact HS.out _ _ z2 | with_reducible exact HS.out _ _ z1 | with_reducible exact HS.out _ _ z0)
    (first | (go_at_call 66; refine (HP1.out _ z1).mono ?_; rintro e y2 ⟨rfl, z2⟩) | (go_at_call 66; refine (HP0.out _ z0).mono ?_; rintro e y1 ⟨rfl, z1⟩))
  all_goals
    go_wp2_with fail
    go_ret
    exact ⟨rfl, hN.trans z2⟩

theorem len0 {t : Tm} (h : t.A.length = 0) : (allW t).length = 1 := by
  have e : t.A = [] := List.length_eq_zero_iff.1 h
  rw [allW_eq, e]; rfl
theorem len1 {t : Tm} (h : t.A.length = 1) : (allW t).length = 1 + (allW (t.A[0]'(by omega))).length := by
  rw [preW_all t 1 (by omega), List.length_cons, preW_succ t 0 (by omega), preW_zero]; simp; omega
theorem len2 {t : Tm} (h : t.A.length = 2) : (allW t).length = 1 + (allW (t.A[0]'(by omega))).length + (allW (t.A[1]'(by omega))).length := by
  rw [preW_all t 2 (by omega), List.length_cons, preW_succ t 1 (by omega), preW_succ t 0 (by omega), preW_zero]; simp; omega
theorem len3 {t : Tm} (h : t.A.length = 3) : (allW t).length = 1 + (allW (t.A[0]'(by omega))).length + (allW (t.A[1]'(by omega))).length + (allW (t.A[2]'(by omega))).length := by
  rw [preW_all t 3 (by omega), List.length_cons, preW_succ t 2 (by omega), preW_succ t 1 (by omega), preW_succ t 0 (by omega), preW_zero]; simp; omega

set_option maxRecDepth 100000 in
set_option maxHeartbeats 1000000 in
theorem fb_succ (l : Nat) (IH : SaidFb l) : SaidFb (l + 1) := by
  intro D d L B t a1 l1 c1 a2 l2 c2 a3 l3 c3 m w hB hf hm
  obtain ⟨hn, hparts⟩ := nodesM_inv hm
  obtain ⟨hk1, hk2, hlen⟩ := nodeM_kinds hn
  have hmt := allW_len _ t m hm
  have hq : ∀ i : Nat, ∃ v : (Int → TypeId × Value) × Int, 0 ≤ v.2 ∧ ∀ (hi : i < t.A.length), v.2 = ((allW t.A[i]).length : Int) ∧ (∀ c, Fv L B w D l t.A[i] (.iface (v.1 c).1 (v.1 c).2)) ∧ ∀ p, B ≤ p → PartIs p w #[.int .i64 t.K, .int .i64 t.N, .string t.S, .string t.Z, .int .i64 t.T.K, .int .i64 t.T.N, .slice a1 l1 c1, .slice a2 l2 c2, .slice a3 l3 c3] (i : Int) (fun c => .iface (v.1 c).1 (v.1 c).2) v.2 := by
    intro i
    by_cases hi : i < t.A.length
    · obtain ⟨a, ha⟩ := hparts i hi
      obtain ⟨q, h1, h2⟩ := part_any D d L B t a1 l1 c1 a2 l2 c2 a3 l3 c3 l IH w hB hf i hi a ha
      have hex : ∀ c, ∃ x : TypeId × Value, q c = .iface x.1 x.2 := fun c => by
        obtain ⟨τ, u, e⟩ := Fv.iface (h1 c)
        exact ⟨(τ, u), e⟩
      obtain ⟨g, hg⟩ := Classical.axiomOfChoice hex
      have eq : q = fun c => .iface (g c).1 (g c).2 := funext hg
      subst eq
      exact ⟨(g, a), by simp, fun _ => ⟨by rw [allW_len _ _ _ ha], h1, h2⟩⟩
    · exact ⟨(fun _ => (0, .nilIface), 0), by simp, fun h => (hi h).elim⟩
  obtain ⟨q, hq⟩ := Classical.axiomOfChoice hq
  have hk : ∀ i, 0 ≤ (fun i => (q i).2) i := fun i => (hq i).1
  obtain ⟨C, hC⟩ : ∃ C : Nat → Int → Int, C = fun i c => if i = 0 then c + 1 else if i = 1 then c + 1 + (q 0).2 else c + 1 + (q 0).2 + (q 1).2 := ⟨_, rfl⟩
  refine ⟨fun c => fval c t.K t.N t.S t.Z t.T.K t.T.N (.slice a1 l1 c1) (.slice a2 l2 c2) (.iface ((q 0).1 (C 0 c)).1 ((q 0).1 (C 0 c)).2) (.iface ((q 1).1 (C 1 c)).1 ((q 1).1 (C 1 c)).2) (.iface ((q 2).1 (C 2 c)).1 ((q 2).1 (C 2 c)).2), fun c => ⟨c, a1, l1, c1, a2, l2, c2, (fun i => .iface ((q i).1 (C i c)).1 ((q i).1 (C i c)).2), hf.t1, hf.t2, fun i h => ((hq i).2 h).2.1 _, rfl⟩, fun p w' c hp hw hc hcm => ?_⟩
  subst hC
  have hK : t.K = 1 ∨ t.K = 2 ∨ t.K = 3 ∨ t.K = 4 ∨ t.K = 5 ∨ t.K = 6 ∨ t.K = 7 ∨ t.K = 8 ∨ t.K = 9 ∨ t.K = 10 ∨ t.K = 11 ∨ t.K = 12 ∨ t.K = 13 ∨ t.K = 14 ∨ t.K = 15 ∨ t.K = 16 ∨ t.K = 17 := by omega
  rcases hK with hK | hK | hK | hK | hK | hK | hK | hK | hK | hK | hK | hK | hK | hK | hK | hK | hK
  · have hl : (t.A.length : Int) = 0 := by rw [hlen, hK]; rfl
    have hl' : t.A.length = 0 := by omega
    have hll := len0 hl'
    have hcl : c + (m : Int) = (c + 1) := by omega
    rw [hcl]
    rw [hcl] at hcm
    have h := form_1 p t a1 l1 c1 a2 l2 c2 a3 l3 c3 (fun i c => ((q i).1 c).1) (fun i c => ((q i).1 c).2) (fun i => (q i).2) w w' c hw hK hc hk hcm 
    have hK' := hK
    refine h.mono ?_
    rintro e w2 ⟨rfl, h2⟩
    refine ⟨?_, h2⟩
    rw [hK]
    rfl
  · have hl : (t.A.length : Int) = 0 := by rw [hlen, hK]; rfl
    have hl' : t.A.length = 0 := by omega
    have hll := len0 hl'
    have hcl : c + (m : Int) = (c + 1) := by omega
    rw [hcl]
    rw [hcl] at hcm
    have h := form_2 p t a1 l1 c1 a2 l2 c2 a3 l3 c3 (fun i c => ((q i).1 c).1) (fun i c => ((q i).1 c).2) (fun i => (q i).2) w w' c hw hK hc hk hcm 
    have hK' := hK
    refine h.mono ?_
    rintro e w2 ⟨rfl, h2⟩
    refine ⟨?_, h2⟩
    rw [hK]
    rfl
  · have hl : (t.A.length : Int) = 0 := by rw [hlen, hK]; rfl
    have hl' : t.A.length = 0 := by omega
    have hll := len0 hl'
    have hcl : c + (m : Int) = (c + 1) := by omega
    rw [hcl]
    rw [hcl] at hcm
    have h := form_3 p t a1 l1 c1 a2 l2 c2 a3 l3 c3 (fun i c => ((q i).1 c).1) (fun i c => ((q i).1 c).2) (fun i => (q i).2) w w' c hw hK hc hk hcm 
    have hK' := hK
    refine h.mono ?_
    rintro e w2 ⟨rfl, h2⟩
    refine ⟨?_, h2⟩
    rw [hK]
    rfl
  · have hl : (t.A.length : Int) = 1 := by rw [hlen, hK]; rfl
    have hl' : t.A.length = 1 := by omega
    have hll := len1 hl'
    have e0 := ((hq 0).2 (by omega)).1
    have hcl : c + (m : Int) = (c + 1 + (q 0).2) := by omega
    rw [hcl]
    rw [hcl] at hcm
    have h := form_4 p t a1 l1 c1 a2 l2 c2 a3 l3 c3 (fun i c => ((q i).1 c).1) (fun i c => ((q i).1 c).2) (fun i => (q i).2) w w' c hw hK hc hk hcm (((hq 0).2 (by omega)).2.2 p hp)
    have hK' := hK
    refine h.mono ?_
    rintro e w2 ⟨rfl, h2⟩
    refine ⟨?_, h2⟩
    rw [hK]
    rfl
  · have hl : (t.A.length : Int) = 2 := by rw [hlen, hK]; rfl
    have hl' : t.A.length = 2 := by omega
    have hll := len2 hl'
    have e0 := ((hq 0).2 (by omega)).1
    have e1 := ((hq 1).2 (by omega)).1
    have hcl : c + (m : Int) = (c + 1 + (q 0).2 + (q 1).2) := by omega
    rw [hcl]
    rw [hcl] at hcm
    have h := form_5 p t a1 l1 c1 a2 l2 c2 a3 l3 c3 (fun i c => ((q i).1 c).1) (fun i c => ((q i).1 c).2) (fun i => (q i).2) w w' c hw hK hc hk hcm (((hq 0).2 (by omega)).2.2 p hp) (((hq 1).2 (by omega)).2.2 p hp)
    have hK' := hK
    refine h.mono ?_
    rintro e w2 ⟨rfl, h2⟩
    refine ⟨?_, h2⟩
    rw [hK]
    rfl
  · have hl : (t.A.length : Int) = 2 := by rw [hlen, hK]; rfl
    have hl' : t.A.length = 2 := by omega
    have hll := len2 hl'
    have e0 := ((hq 0).2 (by omega)).1
    have e1 := ((hq 1).2 (by omega)).1
    have hcl : c + (m : Int) = (c + 1 + (q 0).2 + (q 1).2) := by omega
    rw [hcl]
    rw [hcl] at hcm
    have h := form_6 p t a1 l1 c1 a2 l2 c2 a3 l3 c3 (fun i c => ((q i).1 c).1) (fun i c => ((q i).1 c).2) (fun i => (q i).2) w w' c hw hK hc hk hcm (((hq 0).2 (by omega)).2.2 p hp) (((hq 1).2 (by omega)).2.2 p hp)
    have hK' := hK
    refine h.mono ?_
    rintro e w2 ⟨rfl, h2⟩
    refine ⟨?_, h2⟩
    rw [hK]
    rfl
  · have hl : (t.A.length : Int) = 2 := by rw [hlen, hK]; rfl
    have hl' : t.A.length = 2 := by omega
    have hll := len2 hl'
    have e0 := ((hq 0).2 (by omega)).1
    have e1 := ((hq 1).2 (by omega)).1
    have hcl : c + (m : Int) = (c + 1 + (q 0).2 + (q 1).2) := by omega
    rw [hcl]
    rw [hcl] at hcm
    have h := form_7 p t a1 l1 c1 a2 l2 c2 a3 l3 c3 (fun i c => ((q i).1 c).1) (fun i c => ((q i).1 c).2) (fun i => (q i).2) w w' c hw hK hc hk hcm (((hq 0).2 (by omega)).2.2 p hp) (((hq 1).2 (by omega)).2.2 p hp)
    have hK' := hK
    refine h.mono ?_
    rintro e w2 ⟨rfl, h2⟩
    refine ⟨?_, h2⟩
    rw [hK]
    rfl
  · have hl : (t.A.length : Int) = 3 := by rw [hlen, hK]; rfl
    have hl' : t.A.length = 3 := by omega
    have hll := len3 hl'
    have e0 := ((hq 0).2 (by omega)).1
    have e1 := ((hq 1).2 (by omega)).1
    have e2 := ((hq 2).2 (by omega)).1
    have hcl : c + (m : Int) = (c + 1 + (q 0).2 + (q 1).2 + (q 2).2) := by omega
    rw [hcl]
    rw [hcl] at hcm
    have h := form_8 p t a1 l1 c1 a2 l2 c2 a3 l3 c3 (fun i c => ((q i).1 c).1) (fun i c => ((q i).1 c).2) (fun i => (q i).2) w w' c hw hK hc hk hcm (((hq 0).2 (by omega)).2.2 p hp) (((hq 1).2 (by omega)).2.2 p hp) (((hq 2).2 (by omega)).2.2 p hp)
    have hK' := hK
    refine h.mono ?_
    rintro e w2 ⟨rfl, h2⟩
    refine ⟨?_, h2⟩
    rw [hK]
    rfl
  · have hl : (t.A.length : Int) = 2 := by rw [hlen, hK]; rfl
    have hl' : t.A.length = 2 := by omega
    have hll := len2 hl'
    have e0 := ((hq 0).2 (by omega)).1
    have e1 := ((hq 1).2 (by omega)).1
    have hcl : c + (m : Int) = (c + 1 + (q 0).2 + (q 1).2) := by omega
    rw [hcl]
    rw [hcl] at hcm
    have h := form_9 p t a1 l1 c1 a2 l2 c2 a3 l3 c3 (fun i c => ((q i).1 c).1) (fun i c => ((q i).1 c).2) (fun i => (q i).2) w w' c hw hK hc hk hcm (((hq 0).2 (by omega)).2.2 p hp) (((hq 1).2 (by omega)).2.2 p hp)
    have hK' := hK
    refine h.mono ?_
    rintro e w2 ⟨rfl, h2⟩
    refine ⟨?_, h2⟩
    rw [hK]
    rfl
  · have hl : (t.A.length : Int) = 1 := by rw [hlen, hK]; rfl
    have hl' : t.A.length = 1 := by omega
    have hll := len1 hl'
    have e0 := ((hq 0).2 (by omega)).1
    have hcl : c + (m : Int) = (c + 1 + (q 0).2) := by omega
    rw [hcl]
    rw [hcl] at hcm
    have h := form_10 p t a1 l1 c1 a2 l2 c2 a3 l3 c3 (fun i c => ((q i).1 c).1) (fun i c => ((q i).1 c).2) (fun i => (q i).2) w w' c hw hK hc hk hcm (((hq 0).2 (by omega)).2.2 p hp)
    have hK' := hK
    refine h.mono ?_
    rintro e w2 ⟨rfl, h2⟩
    refine ⟨?_, h2⟩
    rw [hK]
    rfl
  · have hl : (t.A.length : Int) = 1 := by rw [hlen, hK]; rfl
    have hl' : t.A.length = 1 := by omega
    have hll := len1 hl'
    have e0 := ((hq 0).2 (by omega)).1
    have hcl : c + (m : Int) = (c + 1 + (q 0).2) := by omega
    rw [hcl]
    rw [hcl] at hcm
    have h := form_11 p t a1 l1 c1 a2 l2 c2 a3 l3 c3 (fun i c => ((q i).1 c).1) (fun i c => ((q i).1 c).2) (fun i => (q i).2) w w' c hw hK hc hk hcm (((hq 0).2 (by omega)).2.2 p hp)
    have hK' := hK
    refine h.mono ?_
    rintro e w2 ⟨rfl, h2⟩
    refine ⟨?_, h2⟩
    rw [hK]
    rfl
  · have hl : (t.A.length : Int) = 0 := by rw [hlen, hK]; rfl
    have hl' : t.A.length = 0 := by omega
    have hll := len0 hl'
    have hcl : c + (m : Int) = (c + 1) := by omega
    rw [hcl]
    rw [hcl] at hcm
    have h := form_12 p t a1 l1 c1 a2 l2 c2 a3 l3 c3 (fun i c => ((q i).1 c).1) (fun i c => ((q i).1 c).2) (fun i => (q i).2) w w' c hw hK hc hk hcm 
    have hK' := hK
    refine h.mono ?_
    rintro e w2 ⟨rfl, h2⟩
    refine ⟨?_, h2⟩
    rw [hK]
    rfl
  · have hl : (t.A.length : Int) = 2 := by rw [hlen, hK]; rfl
    have hl' : t.A.length = 2 := by omega
    have hll := len2 hl'
    have e0 := ((hq 0).2 (by omega)).1
    have e1 := ((hq 1).2 (by omega)).1
    have hcl : c + (m : Int) = (c + 1 + (q 0).2 + (q 1).2) := by omega
    rw [hcl]
    rw [hcl] at hcm
    have h := form_13 p t a1 l1 c1 a2 l2 c2 a3 l3 c3 (fun i c => ((q i).1 c).1) (fun i c => ((q i).1 c).2) (fun i => (q i).2) w w' c hw hK hc hk hcm (((hq 0).2 (by omega)).2.2 p hp) (((hq 1).2 (by omega)).2.2 p hp)
    have hK' := hK
    refine h.mono ?_
    rintro e w2 ⟨rfl, h2⟩
    refine ⟨?_, h2⟩
    rw [hK]
    rfl
  · have hl : (t.A.length : Int) = 3 := by rw [hlen, hK]; rfl
    have hl' : t.A.length = 3 := by omega
    have hll := len3 hl'
    have e0 := ((hq 0).2 (by omega)).1
    have e1 := ((hq 1).2 (by omega)).1
    have e2 := ((hq 2).2 (by omega)).1
    have hcl : c + (m : Int) = (c + 1 + (q 0).2 + (q 1).2 + (q 2).2) := by omega
    rw [hcl]
    rw [hcl] at hcm
    have h := form_14 p t a1 l1 c1 a2 l2 c2 a3 l3 c3 (fun i c => ((q i).1 c).1) (fun i c => ((q i).1 c).2) (fun i => (q i).2) w w' c hw hK hc hk hcm (((hq 0).2 (by omega)).2.2 p hp) (((hq 1).2 (by omega)).2.2 p hp) (((hq 2).2 (by omega)).2.2 p hp)
    have hK' := hK
    refine h.mono ?_
    rintro e w2 ⟨rfl, h2⟩
    refine ⟨?_, h2⟩
    rw [hK]
    rfl
  · have hl : (t.A.length : Int) = 2 := by rw [hlen, hK]; rfl
    have hl' : t.A.length = 2 := by omega
    have hll := len2 hl'
    have e0 := ((hq 0).2 (by omega)).1
    have e1 := ((hq 1).2 (by omega)).1
    have hcl : c + (m : Int) = (c + 1 + (q 0).2 + (q 1).2) := by omega
    rw [hcl]
    rw [hcl] at hcm
    have h := form_15 p t a1 l1 c1 a2 l2 c2 a3 l3 c3 (fun i c => ((q i).1 c).1) (fun i c => ((q i).1 c).2) (fun i => (q i).2) w w' c hw hK hc hk hcm (((hq 0).2 (by omega)).2.2 p hp) (((hq 1).2 (by omega)).2.2 p hp)
    have hK' := hK
    refine h.mono ?_
    rintro e w2 ⟨rfl, h2⟩
    refine ⟨?_, h2⟩
    rw [hK]
    rfl
  · have hl : (t.A.length : Int) = 1 := by rw [hlen, hK]; rfl
    have hl' : t.A.length = 1 := by omega
    have hll := len1 hl'
    have e0 := ((hq 0).2 (by omega)).1
    have hcl : c + (m : Int) = (c + 1 + (q 0).2) := by omega
    rw [hcl]
    rw [hcl] at hcm
    have h := form_16 p t a1 l1 c1 a2 l2 c2 a3 l3 c3 (fun i c => ((q i).1 c).1) (fun i c => ((q i).1 c).2) (fun i => (q i).2) w w' c hw hK hc hk hcm (((hq 0).2 (by omega)).2.2 p hp)
    have hK' := hK
    refine h.mono ?_
    rintro e w2 ⟨rfl, h2⟩
    refine ⟨?_, h2⟩
    rw [hK]
    rfl
  · have hl : (t.A.length : Int) = 2 := by rw [hlen, hK]; rfl
    have hl' : t.A.length = 2 := by omega
    have hll := len2 hl'
    have e0 := ((hq 0).2 (by omega)).1
    have e1 := ((hq 1).2 (by omega)).1
    have hcl : c + (m : Int) = (c + 1 + (q 0).2 + (q 1).2) := by omega
    rw [hcl]
    rw [hcl] at hcm
    have h := form_17 p t a1 l1 c1 a2 l2 c2 a3 l3 c3 (fun i c => ((q i).1 c).1) (fun i c => ((q i).1 c).2) (fun i => (q i).2) w w' c hw hK hc hk hcm (((hq 0).2 (by omega)).2.2 p hp) (((hq 1).2 (by omega)).2.2 p hp)
    have hK' := hK
    refine h.mono ?_
    rintro e w2 ⟨rfl, h2⟩
    refine ⟨?_, h2⟩
    rw [hK]
    rfl

theorem fb_any (l : Nat) : SaidFb l := by
  induction l with
  | zero => exact fb_zero
  | succ l ih => exact fb_succ l ih

/-- What 'formOf' answers of a term, in every world that goes on from w. -/
def SaidFo (l : Nat) : Prop := ∀ (D d L B : Nat) (t : Tm) (a1 : Option Addr) (l1 c1 : Nat) (a2 : Option Addr) (l2 c2 : Nat) (a3 : Option Addr) (l3 c3 : Nat) (m : Nat) (w : World), B ≤ w.heap.size → Fm L B w D d t a1 l1 a2 l2 a3 l3 → nodesM l t = some m → m ≤ 1000 →
    ∃ v, Fv L B w D l t v ∧ ∀ w', Below w.heap.size w w' → Calls Tryz.prog 43 #[.agg #[.int .i64 t.K, .int .i64 t.N, .string t.S, .string t.Z, .int .i64 t.T.K, .int .i64 t.T.N, .slice a1 l1 c1, .slice a2 l2 c2, .slice a3 l3 c3]] w' fun e w'' => e = .returned v ∧ Below w'.heap.size w' w''

set_option maxRecDepth 100000 in
set_option maxHeartbeats 1000000 in
theorem fo_any (l : Nat) : SaidFo l := by
  intro D d L B t a1 l1 c1 a2 l2 c2 a3 l3 c3 m w hB hf hm hm6
  obtain ⟨V, hV, hcall⟩ := fb_any l D d L B t a1 l1 c1 a2 l2 c2 a3 l3 c3 m w hB hf hm
  refine ⟨V 0, hV 0, fun w' hw => ?_⟩
  have hws := hw.size
  obtain ⟨X, hX⟩ : ∃ X, X = (w'.alloc (.cells #[.int .i64 t.K, .int .i64 t.N, .string t.S, .string t.Z, .int .i64 t.T.K, .int .i64 t.T.N, .slice a1 l1 c1, .slice a2 l2 c2, .slice a3 l3 c3] 34)).alloc (.cells #[.int .i64 0] 3) := ⟨_, rfl⟩
  have hXs : X.heap.size = w'.heap.size + 2 := by rw [hX]; simp
  have hXb : Below w'.heap.size w' X := by rw [hX]; exact ((Below.refl _ _).alloc (Nat.le_refl _) _).alloc (by simp) _
  have hXp : X.heap[w'.heap.size + 1]? = some (.cells #[.int .i64 0] 3 (0, 0)) := by rw [hX]; exact heap_new (by simp)
  have hNX : Nx (w'.heap.size + 1) w X 0 := ⟨Kf.of_below (hw.trans (hXb.mono hws)), hXp⟩
  have K := hcall (w'.heap.size + 1) X 0 (by omega) hNX (by omega) (by omega)
  obtain ⟨τ, u, hu⟩ := Fv.iface (hV 0)
  rw [hu] at K ⊢
  have HX : Hid (X = _) := hX
  clear hX hcall hV hu
  go_enter Tryz.func43, Tryz.ntmps43
  go_wp2_with fail
  rw [← HX.out]
  refine K.mono ?_
  rintro e w2 ⟨rfl, hN⟩
  have hb2 : Below w'.heap.size w' w2 := hXb.trans (hN.kf.below (fun k hk => by omega) (by omega))
  go_wp2_with fail
  go_ret
  exact ⟨rfl, hb2⟩

end Go.Proofs.YtgljlgiebmnekaaGreatDoor
