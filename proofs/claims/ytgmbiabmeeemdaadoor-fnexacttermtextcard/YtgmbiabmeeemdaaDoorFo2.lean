/-
  What the program's 'formOf' comes to, kind by kind.
-/
import Derived.Test.YtgmbiabmeeemdaaDoorFo
namespace Go.Proofs.YtgmbiabmeeemdaaDoor
open Go.RowKit
set_option linter.unusedVariables false
set_option linter.unusedSimpArgs false

set_option maxRecDepth 100000 in
set_option maxHeartbeats 1000000 in
theorem form_1 (t : Tm) (a1 : Option Addr) (l1 c1 : Nat) (a2 : Option Addr) (l2 c2 : Nat) (a3 : Option Addr) (l3 c3 : Nat) (τ : Nat → TypeId) (u : Nat → Value) (w w' : World) (hw : Below w.heap.size w w') (hK : t.K = 1)  :
    Calls Tryd.prog 20 #[.agg #[.int .i64 t.K, .int .i64 t.N, .string t.S, .string t.Z, .int .i64 t.T.K, .int .i64 t.T.N, .slice a1 l1 c1, .slice a2 l2 c2, .slice a3 l3 c3]] w' fun e w'' => e = .returned (.iface 74 (.agg #[.int .i64 t.N])) ∧ Below w'.heap.size w' w'' := by
  go_enter Tryd.func20, Tryd.ntmps20
  go_wp2_with fail
  go_ret
  exact ⟨rfl, (Below.refl _ _).alloc (Nat.le_refl _) _⟩

set_option maxRecDepth 100000 in
set_option maxHeartbeats 1000000 in
theorem form_2 (t : Tm) (a1 : Option Addr) (l1 c1 : Nat) (a2 : Option Addr) (l2 c2 : Nat) (a3 : Option Addr) (l3 c3 : Nat) (τ : Nat → TypeId) (u : Nat → Value) (w w' : World) (hw : Below w.heap.size w w') (hK : t.K = 2)  :
    Calls Tryd.prog 20 #[.agg #[.int .i64 t.K, .int .i64 t.N, .string t.S, .string t.Z, .int .i64 t.T.K, .int .i64 t.T.N, .slice a1 l1 c1, .slice a2 l2 c2, .slice a3 l3 c3]] w' fun e w'' => e = .returned (.iface 75 (.agg #[.int .i64 t.N])) ∧ Below w'.heap.size w' w'' := by
  go_enter Tryd.func20, Tryd.ntmps20
  go_wp2_with fail
  go_ret
  exact ⟨rfl, (Below.refl _ _).alloc (Nat.le_refl _) _⟩

set_option maxRecDepth 100000 in
set_option maxHeartbeats 1000000 in
theorem form_3 (t : Tm) (a1 : Option Addr) (l1 c1 : Nat) (a2 : Option Addr) (l2 c2 : Nat) (a3 : Option Addr) (l3 c3 : Nat) (τ : Nat → TypeId) (u : Nat → Value) (w w' : World) (hw : Below w.heap.size w w') (hK : t.K = 3)  :
    Calls Tryd.prog 20 #[.agg #[.int .i64 t.K, .int .i64 t.N, .string t.S, .string t.Z, .int .i64 t.T.K, .int .i64 t.T.N, .slice a1 l1 c1, .slice a2 l2 c2, .slice a3 l3 c3]] w' fun e w'' => e = .returned (.iface 77 (.agg #[.string t.S, .slice a2 l2 c2])) ∧ Below w'.heap.size w' w'' := by
  go_enter Tryd.func20, Tryd.ntmps20
  go_wp2_with fail
  go_ret
  exact ⟨rfl, (Below.refl _ _).alloc (Nat.le_refl _) _⟩

set_option maxRecDepth 100000 in
set_option maxHeartbeats 1000000 in
theorem form_4 (t : Tm) (a1 : Option Addr) (l1 c1 : Nat) (a2 : Option Addr) (l2 c2 : Nat) (a3 : Option Addr) (l3 c3 : Nat) (τ : Nat → TypeId) (u : Nat → Value) (w w' : World) (hw : Below w.heap.size w w') (hK : t.K = 4) (h0 : PartIs w #[.int .i64 t.K, .int .i64 t.N, .string t.S, .string t.Z, .int .i64 t.T.K, .int .i64 t.T.N, .slice a1 l1 c1, .slice a2 l2 c2, .slice a3 l3 c3] 0 (.iface (τ 0) (u 0))) :
    Calls Tryd.prog 20 #[.agg #[.int .i64 t.K, .int .i64 t.N, .string t.S, .string t.Z, .int .i64 t.T.K, .int .i64 t.T.N, .slice a1 l1 c1, .slice a2 l2 c2, .slice a3 l3 c3]] w' fun e w'' => e = .returned (.iface 79 (.agg #[.string t.S, .int .i64 t.T.K, .int .i64 t.T.N, .slice a1 l1 c1, .iface (τ 0) (u 0)])) ∧ Below w'.heap.size w' w'' := by
  obtain ⟨X, hX⟩ : ∃ X, X = w'.alloc (.cells #[.int .i64 t.K, .int .i64 t.N, .string t.S, .string t.Z, .int .i64 t.T.K, .int .i64 t.T.N, .slice a1 l1 c1, .slice a2 l2 c2, .slice a3 l3 c3] 35) := ⟨_, rfl⟩
  have hXb : Below w'.heap.size w' X := by rw [hX]; exact (Below.refl _ _).alloc (Nat.le_refl _) _
  have hXw : Below w.heap.size w X := hw.trans (hXb.mono hw.size)
  have hbx : X.heap[w'.heap.size]? = some (.cells #[.int .i64 t.K, .int .i64 t.N, .string t.S, .string t.Z, .int .i64 t.T.K, .int .i64 t.T.N, .slice a1 l1 c1, .slice a2 l2 c2, .slice a3 l3 c3] 35 (0, 0)) := by rw [hX]; exact heap_new rfl
  have hlt : w'.heap.size < X.heap.size := by rw [hX]; simp
  have q := Nine.box hbx
  obtain ⟨q0, q1, q2, q3, q4, q5, q6, q7, q8⟩ := q
  have HP : Hid (∀ (x : Int) (v : Value), PartIs w #[.int .i64 t.K, .int .i64 t.N, .string t.S, .string t.Z, .int .i64 t.T.K, .int .i64 t.T.N, .slice a1 l1 c1, .slice a2 l2 c2, .slice a3 l3 c3] x v → ∀ w2, Below X.heap.size X w2 → Calls Tryd.prog 33 #[.int .i64 x, .pointer (some ⟨w'.heap.size, 0, none⟩)] w2 fun e w3 => e = .returned v ∧ Below X.heap.size X w3) := fun x v h w2 hC =>
    (h.call w'.heap.size w2 (hXw.trans (hC.mono hXw.size)) ((hC.block _ hlt).trans hbx) (Nat.lt_of_lt_of_le hlt hC.size)).mono fun e w3 ⟨h1, h2⟩ => ⟨h1, hC.trans (h2.mono hC.size)⟩
  have HX : Hid (X = _) := hX
  clear hX hbx hXw
  rw [hK] at q0
  go_enter Tryd.func20, Tryd.ntmps20
  go_wp2_with fail
  rw [show w'.alloc (.cells #[.int .i64 4, .int .i64 t.N, .string t.S, .string t.Z, .int .i64 t.T.K, .int .i64 t.T.N, .slice a1 l1 c1, .slice a2 l2 c2, .slice a3 l3 c3] 35) = X by rw [HX.out, hK]]
  refine wp_region_below (by kernel_rfl) (by kernel_rfl) ?_
  repeat (first
    | go_big_quiet_skip
    | (go_big_quiet_want; unfold Oper.quiet; apply Exists.intro; refine ⟨fun w2 hC => ?_, ?_⟩; (have g0 := (bcell hC hlt 0).trans q0; have g1 := (bcell hC hlt 1).trans q1; have g2 := (bcell hC hlt 2).trans q2; have g3 := (bcell hC hlt 3).trans q3; have g4 := (bcell hC hlt 4).trans q4; have g5 := (bcell hC hlt 5).trans q5; have g6 := (bcell hC hlt 6).trans q6; have g7 := (bcell hC hlt 7).trans q7; have g8 := (bcell hC hlt 8).trans q8; unfold Oper.quietAt; go_simp; first | exact rfl | exact ⟨rfl, rfl⟩ | (go_at_call 33; exact HP.out _ _ (by first | exact h0) _ hC)); go_big_quiet_on; simp only [Act.put, List.setIfInBounds_toArray, List.set_cons_zero, List.set_cons_succ]))
  refine wpQuiet_nil ?_
  intro w3 hb3
  go_wp2_with fail
  go_ret
  exact ⟨rfl, hXb.trans (hb3.mono (Nat.le_of_lt hlt))⟩

set_option maxRecDepth 100000 in
set_option maxHeartbeats 1000000 in
theorem form_5 (t : Tm) (a1 : Option Addr) (l1 c1 : Nat) (a2 : Option Addr) (l2 c2 : Nat) (a3 : Option Addr) (l3 c3 : Nat) (τ : Nat → TypeId) (u : Nat → Value) (w w' : World) (hw : Below w.heap.size w w') (hK : t.K = 5) (h0 : PartIs w #[.int .i64 t.K, .int .i64 t.N, .string t.S, .string t.Z, .int .i64 t.T.K, .int .i64 t.T.N, .slice a1 l1 c1, .slice a2 l2 c2, .slice a3 l3 c3] 0 (.iface (τ 0) (u 0))) (h1 : PartIs w #[.int .i64 t.K, .int .i64 t.N, .string t.S, .string t.Z, .int .i64 t.T.K, .int .i64 t.T.N, .slice a1 l1 c1, .slice a2 l2 c2, .slice a3 l3 c3] 1 (.iface (τ 1) (u 1))) :
    Calls Tryd.prog 20 #[.agg #[.int .i64 t.K, .int .i64 t.N, .string t.S, .string t.Z, .int .i64 t.T.K, .int .i64 t.T.N, .slice a1 l1 c1, .slice a2 l2 c2, .slice a3 l3 c3]] w' fun e w'' => e = .returned (.iface 81 (.agg #[.iface (τ 0) (u 0), .iface (τ 1) (u 1)])) ∧ Below w'.heap.size w' w'' := by
  obtain ⟨X, hX⟩ : ∃ X, X = w'.alloc (.cells #[.int .i64 t.K, .int .i64 t.N, .string t.S, .string t.Z, .int .i64 t.T.K, .int .i64 t.T.N, .slice a1 l1 c1, .slice a2 l2 c2, .slice a3 l3 c3] 35) := ⟨_, rfl⟩
  have hXb : Below w'.heap.size w' X := by rw [hX]; exact (Below.refl _ _).alloc (Nat.le_refl _) _
  have hXw : Below w.heap.size w X := hw.trans (hXb.mono hw.size)
  have hbx : X.heap[w'.heap.size]? = some (.cells #[.int .i64 t.K, .int .i64 t.N, .string t.S, .string t.Z, .int .i64 t.T.K, .int .i64 t.T.N, .slice a1 l1 c1, .slice a2 l2 c2, .slice a3 l3 c3] 35 (0, 0)) := by rw [hX]; exact heap_new rfl
  have hlt : w'.heap.size < X.heap.size := by rw [hX]; simp
  have q := Nine.box hbx
  obtain ⟨q0, q1, q2, q3, q4, q5, q6, q7, q8⟩ := q
  have HP : Hid (∀ (x : Int) (v : Value), PartIs w #[.int .i64 t.K, .int .i64 t.N, .string t.S, .string t.Z, .int .i64 t.T.K, .int .i64 t.T.N, .slice a1 l1 c1, .slice a2 l2 c2, .slice a3 l3 c3] x v → ∀ w2, Below X.heap.size X w2 → Calls Tryd.prog 33 #[.int .i64 x, .pointer (some ⟨w'.heap.size, 0, none⟩)] w2 fun e w3 => e = .returned v ∧ Below X.heap.size X w3) := fun x v h w2 hC =>
    (h.call w'.heap.size w2 (hXw.trans (hC.mono hXw.size)) ((hC.block _ hlt).trans hbx) (Nat.lt_of_lt_of_le hlt hC.size)).mono fun e w3 ⟨h1, h2⟩ => ⟨h1, hC.trans (h2.mono hC.size)⟩
  have HX : Hid (X = _) := hX
  clear hX hbx hXw
  rw [hK] at q0
  go_enter Tryd.func20, Tryd.ntmps20
  go_wp2_with fail
  rw [show w'.alloc (.cells #[.int .i64 5, .int .i64 t.N, .string t.S, .string t.Z, .int .i64 t.T.K, .int .i64 t.T.N, .slice a1 l1 c1, .slice a2 l2 c2, .slice a3 l3 c3] 35) = X by rw [HX.out, hK]]
  have z0 : Below X.heap.size X X := Below.refl _ _
  refine (HP.out _ _ h0 _ z0).mono ?_
  rintro e y0 ⟨rfl, z1⟩
  go_wp2_with fail
  refine (HP.out _ _ h1 _ z1).mono ?_
  rintro e y1 ⟨rfl, z2⟩
  go_wp2_with fail
  go_ret
  exact ⟨rfl, hXb.trans (z2.mono (Nat.le_of_lt hlt))⟩

set_option maxRecDepth 100000 in
set_option maxHeartbeats 1000000 in
theorem form_6 (t : Tm) (a1 : Option Addr) (l1 c1 : Nat) (a2 : Option Addr) (l2 c2 : Nat) (a3 : Option Addr) (l3 c3 : Nat) (τ : Nat → TypeId) (u : Nat → Value) (w w' : World) (hw : Below w.heap.size w w') (hK : t.K = 6) (h0 : PartIs w #[.int .i64 t.K, .int .i64 t.N, .string t.S, .string t.Z, .int .i64 t.T.K, .int .i64 t.T.N, .slice a1 l1 c1, .slice a2 l2 c2, .slice a3 l3 c3] 0 (.iface (τ 0) (u 0))) (h1 : PartIs w #[.int .i64 t.K, .int .i64 t.N, .string t.S, .string t.Z, .int .i64 t.T.K, .int .i64 t.T.N, .slice a1 l1 c1, .slice a2 l2 c2, .slice a3 l3 c3] 1 (.iface (τ 1) (u 1))) :
    Calls Tryd.prog 20 #[.agg #[.int .i64 t.K, .int .i64 t.N, .string t.S, .string t.Z, .int .i64 t.T.K, .int .i64 t.T.N, .slice a1 l1 c1, .slice a2 l2 c2, .slice a3 l3 c3]] w' fun e w'' => e = .returned (.iface 83 (.agg #[.string t.S, .int .i64 t.N, .iface (τ 0) (u 0), .iface (τ 1) (u 1)])) ∧ Below w'.heap.size w' w'' := by
  obtain ⟨X, hX⟩ : ∃ X, X = w'.alloc (.cells #[.int .i64 t.K, .int .i64 t.N, .string t.S, .string t.Z, .int .i64 t.T.K, .int .i64 t.T.N, .slice a1 l1 c1, .slice a2 l2 c2, .slice a3 l3 c3] 35) := ⟨_, rfl⟩
  have hXb : Below w'.heap.size w' X := by rw [hX]; exact (Below.refl _ _).alloc (Nat.le_refl _) _
  have hXw : Below w.heap.size w X := hw.trans (hXb.mono hw.size)
  have hbx : X.heap[w'.heap.size]? = some (.cells #[.int .i64 t.K, .int .i64 t.N, .string t.S, .string t.Z, .int .i64 t.T.K, .int .i64 t.T.N, .slice a1 l1 c1, .slice a2 l2 c2, .slice a3 l3 c3] 35 (0, 0)) := by rw [hX]; exact heap_new rfl
  have hlt : w'.heap.size < X.heap.size := by rw [hX]; simp
  have q := Nine.box hbx
  obtain ⟨q0, q1, q2, q3, q4, q5, q6, q7, q8⟩ := q
  have HP : Hid (∀ (x : Int) (v : Value), PartIs w #[.int .i64 t.K, .int .i64 t.N, .string t.S, .string t.Z, .int .i64 t.T.K, .int .i64 t.T.N, .slice a1 l1 c1, .slice a2 l2 c2, .slice a3 l3 c3] x v → ∀ w2, Below X.heap.size X w2 → Calls Tryd.prog 33 #[.int .i64 x, .pointer (some ⟨w'.heap.size, 0, none⟩)] w2 fun e w3 => e = .returned v ∧ Below X.heap.size X w3) := fun x v h w2 hC =>
    (h.call w'.heap.size w2 (hXw.trans (hC.mono hXw.size)) ((hC.block _ hlt).trans hbx) (Nat.lt_of_lt_of_le hlt hC.size)).mono fun e w3 ⟨h1, h2⟩ => ⟨h1, hC.trans (h2.mono hC.size)⟩
  have HX : Hid (X = _) := hX
  clear hX hbx hXw
  rw [hK] at q0
  go_enter Tryd.func20, Tryd.ntmps20
  go_wp2_with fail
  rw [show w'.alloc (.cells #[.int .i64 6, .int .i64 t.N, .string t.S, .string t.Z, .int .i64 t.T.K, .int .i64 t.T.N, .slice a1 l1 c1, .slice a2 l2 c2, .slice a3 l3 c3] 35) = X by rw [HX.out, hK]]
  refine wp_region_below (by kernel_rfl) (by kernel_rfl) ?_
  repeat (first
    | go_big_quiet_skip
    | (go_big_quiet_want; unfold Oper.quiet; apply Exists.intro; refine ⟨fun w2 hC => ?_, ?_⟩; (have g0 := (bcell hC hlt 0).trans q0; have g1 := (bcell hC hlt 1).trans q1; have g2 := (bcell hC hlt 2).trans q2; have g3 := (bcell hC hlt 3).trans q3; have g4 := (bcell hC hlt 4).trans q4; have g5 := (bcell hC hlt 5).trans q5; have g6 := (bcell hC hlt 6).trans q6; have g7 := (bcell hC hlt 7).trans q7; have g8 := (bcell hC hlt 8).trans q8; unfold Oper.quietAt; go_simp; first | exact rfl | exact ⟨rfl, rfl⟩ | (go_at_call 33; exact HP.out _ _ (by first | exact h0 | exact h1) _ hC)); go_big_quiet_on; simp only [Act.put, List.setIfInBounds_toArray, List.set_cons_zero, List.set_cons_succ]))
  refine wpQuiet_nil ?_
  intro w3 hb3
  go_wp2_with fail
  go_ret
  exact ⟨rfl, hXb.trans (hb3.mono (Nat.le_of_lt hlt))⟩

set_option maxRecDepth 100000 in
set_option maxHeartbeats 1000000 in
theorem form_7 (t : Tm) (a1 : Option Addr) (l1 c1 : Nat) (a2 : Option Addr) (l2 c2 : Nat) (a3 : Option Addr) (l3 c3 : Nat) (τ : Nat → TypeId) (u : Nat → Value) (w w' : World) (hw : Below w.heap.size w w') (hK : t.K = 7) (h0 : PartIs w #[.int .i64 t.K, .int .i64 t.N, .string t.S, .string t.Z, .int .i64 t.T.K, .int .i64 t.T.N, .slice a1 l1 c1, .slice a2 l2 c2, .slice a3 l3 c3] 0 (.iface (τ 0) (u 0))) (h1 : PartIs w #[.int .i64 t.K, .int .i64 t.N, .string t.S, .string t.Z, .int .i64 t.T.K, .int .i64 t.T.N, .slice a1 l1 c1, .slice a2 l2 c2, .slice a3 l3 c3] 1 (.iface (τ 1) (u 1))) :
    Calls Tryd.prog 20 #[.agg #[.int .i64 t.K, .int .i64 t.N, .string t.S, .string t.Z, .int .i64 t.T.K, .int .i64 t.T.N, .slice a1 l1 c1, .slice a2 l2 c2, .slice a3 l3 c3]] w' fun e w'' => e = .returned (.iface 85 (.agg #[.string t.S, .int .i64 t.N, .int .i64 t.T.K, .int .i64 t.T.N, .slice a1 l1 c1, .iface (τ 0) (u 0), .iface (τ 1) (u 1)])) ∧ Below w'.heap.size w' w'' := by
  obtain ⟨X, hX⟩ : ∃ X, X = w'.alloc (.cells #[.int .i64 t.K, .int .i64 t.N, .string t.S, .string t.Z, .int .i64 t.T.K, .int .i64 t.T.N, .slice a1 l1 c1, .slice a2 l2 c2, .slice a3 l3 c3] 35) := ⟨_, rfl⟩
  have hXb : Below w'.heap.size w' X := by rw [hX]; exact (Below.refl _ _).alloc (Nat.le_refl _) _
  have hXw : Below w.heap.size w X := hw.trans (hXb.mono hw.size)
  have hbx : X.heap[w'.heap.size]? = some (.cells #[.int .i64 t.K, .int .i64 t.N, .string t.S, .string t.Z, .int .i64 t.T.K, .int .i64 t.T.N, .slice a1 l1 c1, .slice a2 l2 c2, .slice a3 l3 c3] 35 (0, 0)) := by rw [hX]; exact heap_new rfl
  have hlt : w'.heap.size < X.heap.size := by rw [hX]; simp
  have q := Nine.box hbx
  obtain ⟨q0, q1, q2, q3, q4, q5, q6, q7, q8⟩ := q
  have HP : Hid (∀ (x : Int) (v : Value), PartIs w #[.int .i64 t.K, .int .i64 t.N, .string t.S, .string t.Z, .int .i64 t.T.K, .int .i64 t.T.N, .slice a1 l1 c1, .slice a2 l2 c2, .slice a3 l3 c3] x v → ∀ w2, Below X.heap.size X w2 → Calls Tryd.prog 33 #[.int .i64 x, .pointer (some ⟨w'.heap.size, 0, none⟩)] w2 fun e w3 => e = .returned v ∧ Below X.heap.size X w3) := fun x v h w2 hC =>
    (h.call w'.heap.size w2 (hXw.trans (hC.mono hXw.size)) ((hC.block _ hlt).trans hbx) (Nat.lt_of_lt_of_le hlt hC.size)).mono fun e w3 ⟨h1, h2⟩ => ⟨h1, hC.trans (h2.mono hC.size)⟩
  have HX : Hid (X = _) := hX
  clear hX hbx hXw
  rw [hK] at q0
  go_enter Tryd.func20, Tryd.ntmps20
  go_wp2_with fail
  rw [show w'.alloc (.cells #[.int .i64 7, .int .i64 t.N, .string t.S, .string t.Z, .int .i64 t.T.K, .int .i64 t.T.N, .slice a1 l1 c1, .slice a2 l2 c2, .slice a3 l3 c3] 35) = X by rw [HX.out, hK]]
  refine wp_region_below (by kernel_rfl) (by kernel_rfl) ?_
  repeat (first
    | go_big_quiet_skip
    | (go_big_quiet_want; unfold Oper.quiet; apply Exists.intro; refine ⟨fun w2 hC => ?_, ?_⟩; (have g0 := (bcell hC hlt 0).trans q0; have g1 := (bcell hC hlt 1).trans q1; have g2 := (bcell hC hlt 2).trans q2; have g3 := (bcell hC hlt 3).trans q3; have g4 := (bcell hC hlt 4).trans q4; have g5 := (bcell hC hlt 5).trans q5; have g6 := (bcell hC hlt 6).trans q6; have g7 := (bcell hC hlt 7).trans q7; have g8 := (bcell hC hlt 8).trans q8; unfold Oper.quietAt; go_simp; first | exact rfl | exact ⟨rfl, rfl⟩ | (go_at_call 33; exact HP.out _ _ (by first | exact h0 | exact h1) _ hC)); go_big_quiet_on; simp only [Act.put, List.setIfInBounds_toArray, List.set_cons_zero, List.set_cons_succ]))
  refine wpQuiet_nil ?_
  intro w3 hb3
  go_wp2_with fail
  go_ret
  exact ⟨rfl, hXb.trans (hb3.mono (Nat.le_of_lt hlt))⟩

set_option maxRecDepth 100000 in
set_option maxHeartbeats 1000000 in
theorem form_8 (t : Tm) (a1 : Option Addr) (l1 c1 : Nat) (a2 : Option Addr) (l2 c2 : Nat) (a3 : Option Addr) (l3 c3 : Nat) (τ : Nat → TypeId) (u : Nat → Value) (w w' : World) (hw : Below w.heap.size w w') (hK : t.K = 8) (h0 : PartIs w #[.int .i64 t.K, .int .i64 t.N, .string t.S, .string t.Z, .int .i64 t.T.K, .int .i64 t.T.N, .slice a1 l1 c1, .slice a2 l2 c2, .slice a3 l3 c3] 0 (.iface (τ 0) (u 0))) (h1 : PartIs w #[.int .i64 t.K, .int .i64 t.N, .string t.S, .string t.Z, .int .i64 t.T.K, .int .i64 t.T.N, .slice a1 l1 c1, .slice a2 l2 c2, .slice a3 l3 c3] 1 (.iface (τ 1) (u 1))) (h2 : PartIs w #[.int .i64 t.K, .int .i64 t.N, .string t.S, .string t.Z, .int .i64 t.T.K, .int .i64 t.T.N, .slice a1 l1 c1, .slice a2 l2 c2, .slice a3 l3 c3] 2 (.iface (τ 2) (u 2))) :
    Calls Tryd.prog 20 #[.agg #[.int .i64 t.K, .int .i64 t.N, .string t.S, .string t.Z, .int .i64 t.T.K, .int .i64 t.T.N, .slice a1 l1 c1, .slice a2 l2 c2, .slice a3 l3 c3]] w' fun e w'' => e = .returned (.iface 87 (.agg #[.iface (τ 0) (u 0), .iface (τ 1) (u 1), .iface (τ 2) (u 2)])) ∧ Below w'.heap.size w' w'' := by
  obtain ⟨X, hX⟩ : ∃ X, X = w'.alloc (.cells #[.int .i64 t.K, .int .i64 t.N, .string t.S, .string t.Z, .int .i64 t.T.K, .int .i64 t.T.N, .slice a1 l1 c1, .slice a2 l2 c2, .slice a3 l3 c3] 35) := ⟨_, rfl⟩
  have hXb : Below w'.heap.size w' X := by rw [hX]; exact (Below.refl _ _).alloc (Nat.le_refl _) _
  have hXw : Below w.heap.size w X := hw.trans (hXb.mono hw.size)
  have hbx : X.heap[w'.heap.size]? = some (.cells #[.int .i64 t.K, .int .i64 t.N, .string t.S, .string t.Z, .int .i64 t.T.K, .int .i64 t.T.N, .slice a1 l1 c1, .slice a2 l2 c2, .slice a3 l3 c3] 35 (0, 0)) := by rw [hX]; exact heap_new rfl
  have hlt : w'.heap.size < X.heap.size := by rw [hX]; simp
  have q := Nine.box hbx
  obtain ⟨q0, q1, q2, q3, q4, q5, q6, q7, q8⟩ := q
  have HP : Hid (∀ (x : Int) (v : Value), PartIs w #[.int .i64 t.K, .int .i64 t.N, .string t.S, .string t.Z, .int .i64 t.T.K, .int .i64 t.T.N, .slice a1 l1 c1, .slice a2 l2 c2, .slice a3 l3 c3] x v → ∀ w2, Below X.heap.size X w2 → Calls Tryd.prog 33 #[.int .i64 x, .pointer (some ⟨w'.heap.size, 0, none⟩)] w2 fun e w3 => e = .returned v ∧ Below X.heap.size X w3) := fun x v h w2 hC =>
    (h.call w'.heap.size w2 (hXw.trans (hC.mono hXw.size)) ((hC.block _ hlt).trans hbx) (Nat.lt_of_lt_of_le hlt hC.size)).mono fun e w3 ⟨h1, h2⟩ => ⟨h1, hC.trans (h2.mono hC.size)⟩
  have HX : Hid (X = _) := hX
  clear hX hbx hXw
  rw [hK] at q0
  go_enter Tryd.func20, Tryd.ntmps20
  go_wp2_with fail
  rw [show w'.alloc (.cells #[.int .i64 8, .int .i64 t.N, .string t.S, .string t.Z, .int .i64 t.T.K, .int .i64 t.T.N, .slice a1 l1 c1, .slice a2 l2 c2, .slice a3 l3 c3] 35) = X by rw [HX.out, hK]]
  have z0 : Below X.heap.size X X := Below.refl _ _
  refine (HP.out _ _ h0 _ z0).mono ?_
  rintro e y0 ⟨rfl, z1⟩
  go_wp2_with fail
  refine (HP.out _ _ h1 _ z1).mono ?_
  rintro e y1 ⟨rfl, z2⟩
  go_wp2_with fail
  refine (HP.out _ _ h2 _ z2).mono ?_
  rintro e y2 ⟨rfl, z3⟩
  go_wp2_with fail
  go_ret
  exact ⟨rfl, hXb.trans (z3.mono (Nat.le_of_lt hlt))⟩

set_option maxRecDepth 100000 in
set_option maxHeartbeats 1000000 in
theorem form_9 (t : Tm) (a1 : Option Addr) (l1 c1 : Nat) (a2 : Option Addr) (l2 c2 : Nat) (a3 : Option Addr) (l3 c3 : Nat) (τ : Nat → TypeId) (u : Nat → Value) (w w' : World) (hw : Below w.heap.size w w') (hK : t.K = 9) (h0 : PartIs w #[.int .i64 t.K, .int .i64 t.N, .string t.S, .string t.Z, .int .i64 t.T.K, .int .i64 t.T.N, .slice a1 l1 c1, .slice a2 l2 c2, .slice a3 l3 c3] 0 (.iface (τ 0) (u 0))) (h1 : PartIs w #[.int .i64 t.K, .int .i64 t.N, .string t.S, .string t.Z, .int .i64 t.T.K, .int .i64 t.T.N, .slice a1 l1 c1, .slice a2 l2 c2, .slice a3 l3 c3] 1 (.iface (τ 1) (u 1))) :
    Calls Tryd.prog 20 #[.agg #[.int .i64 t.K, .int .i64 t.N, .string t.S, .string t.Z, .int .i64 t.T.K, .int .i64 t.T.N, .slice a1 l1 c1, .slice a2 l2 c2, .slice a3 l3 c3]] w' fun e w'' => e = .returned (.iface 89 (.agg #[.iface (τ 0) (u 0), .iface (τ 1) (u 1)])) ∧ Below w'.heap.size w' w'' := by
  obtain ⟨X, hX⟩ : ∃ X, X = w'.alloc (.cells #[.int .i64 t.K, .int .i64 t.N, .string t.S, .string t.Z, .int .i64 t.T.K, .int .i64 t.T.N, .slice a1 l1 c1, .slice a2 l2 c2, .slice a3 l3 c3] 35) := ⟨_, rfl⟩
  have hXb : Below w'.heap.size w' X := by rw [hX]; exact (Below.refl _ _).alloc (Nat.le_refl _) _
  have hXw : Below w.heap.size w X := hw.trans (hXb.mono hw.size)
  have hbx : X.heap[w'.heap.size]? = some (.cells #[.int .i64 t.K, .int .i64 t.N, .string t.S, .string t.Z, .int .i64 t.T.K, .int .i64 t.T.N, .slice a1 l1 c1, .slice a2 l2 c2, .slice a3 l3 c3] 35 (0, 0)) := by rw [hX]; exact heap_new rfl
  have hlt : w'.heap.size < X.heap.size := by rw [hX]; simp
  have q := Nine.box hbx
  obtain ⟨q0, q1, q2, q3, q4, q5, q6, q7, q8⟩ := q
  have HP : Hid (∀ (x : Int) (v : Value), PartIs w #[.int .i64 t.K, .int .i64 t.N, .string t.S, .string t.Z, .int .i64 t.T.K, .int .i64 t.T.N, .slice a1 l1 c1, .slice a2 l2 c2, .slice a3 l3 c3] x v → ∀ w2, Below X.heap.size X w2 → Calls Tryd.prog 33 #[.int .i64 x, .pointer (some ⟨w'.heap.size, 0, none⟩)] w2 fun e w3 => e = .returned v ∧ Below X.heap.size X w3) := fun x v h w2 hC =>
    (h.call w'.heap.size w2 (hXw.trans (hC.mono hXw.size)) ((hC.block _ hlt).trans hbx) (Nat.lt_of_lt_of_le hlt hC.size)).mono fun e w3 ⟨h1, h2⟩ => ⟨h1, hC.trans (h2.mono hC.size)⟩
  have HX : Hid (X = _) := hX
  clear hX hbx hXw
  rw [hK] at q0
  go_enter Tryd.func20, Tryd.ntmps20
  go_wp2_with fail
  rw [show w'.alloc (.cells #[.int .i64 9, .int .i64 t.N, .string t.S, .string t.Z, .int .i64 t.T.K, .int .i64 t.T.N, .slice a1 l1 c1, .slice a2 l2 c2, .slice a3 l3 c3] 35) = X by rw [HX.out, hK]]
  have z0 : Below X.heap.size X X := Below.refl _ _
  refine (HP.out _ _ h0 _ z0).mono ?_
  rintro e y0 ⟨rfl, z1⟩
  go_wp2_with fail
  refine (HP.out _ _ h1 _ z1).mono ?_
  rintro e y1 ⟨rfl, z2⟩
  go_wp2_with fail
  go_ret
  exact ⟨rfl, hXb.trans (z2.mono (Nat.le_of_lt hlt))⟩

set_option maxRecDepth 100000 in
set_option maxHeartbeats 1000000 in
theorem form_10 (t : Tm) (a1 : Option Addr) (l1 c1 : Nat) (a2 : Option Addr) (l2 c2 : Nat) (a3 : Option Addr) (l3 c3 : Nat) (τ : Nat → TypeId) (u : Nat → Value) (w w' : World) (hw : Below w.heap.size w w') (hK : t.K = 10) (h0 : PartIs w #[.int .i64 t.K, .int .i64 t.N, .string t.S, .string t.Z, .int .i64 t.T.K, .int .i64 t.T.N, .slice a1 l1 c1, .slice a2 l2 c2, .slice a3 l3 c3] 0 (.iface (τ 0) (u 0))) :
    Calls Tryd.prog 20 #[.agg #[.int .i64 t.K, .int .i64 t.N, .string t.S, .string t.Z, .int .i64 t.T.K, .int .i64 t.T.N, .slice a1 l1 c1, .slice a2 l2 c2, .slice a3 l3 c3]] w' fun e w'' => e = .returned (.iface 91 (.agg #[.iface (τ 0) (u 0)])) ∧ Below w'.heap.size w' w'' := by
  obtain ⟨X, hX⟩ : ∃ X, X = w'.alloc (.cells #[.int .i64 t.K, .int .i64 t.N, .string t.S, .string t.Z, .int .i64 t.T.K, .int .i64 t.T.N, .slice a1 l1 c1, .slice a2 l2 c2, .slice a3 l3 c3] 35) := ⟨_, rfl⟩
  have hXb : Below w'.heap.size w' X := by rw [hX]; exact (Below.refl _ _).alloc (Nat.le_refl _) _
  have hXw : Below w.heap.size w X := hw.trans (hXb.mono hw.size)
  have hbx : X.heap[w'.heap.size]? = some (.cells #[.int .i64 t.K, .int .i64 t.N, .string t.S, .string t.Z, .int .i64 t.T.K, .int .i64 t.T.N, .slice a1 l1 c1, .slice a2 l2 c2, .slice a3 l3 c3] 35 (0, 0)) := by rw [hX]; exact heap_new rfl
  have hlt : w'.heap.size < X.heap.size := by rw [hX]; simp
  have q := Nine.box hbx
  obtain ⟨q0, q1, q2, q3, q4, q5, q6, q7, q8⟩ := q
  have HP : Hid (∀ (x : Int) (v : Value), PartIs w #[.int .i64 t.K, .int .i64 t.N, .string t.S, .string t.Z, .int .i64 t.T.K, .int .i64 t.T.N, .slice a1 l1 c1, .slice a2 l2 c2, .slice a3 l3 c3] x v → ∀ w2, Below X.heap.size X w2 → Calls Tryd.prog 33 #[.int .i64 x, .pointer (some ⟨w'.heap.size, 0, none⟩)] w2 fun e w3 => e = .returned v ∧ Below X.heap.size X w3) := fun x v h w2 hC =>
    (h.call w'.heap.size w2 (hXw.trans (hC.mono hXw.size)) ((hC.block _ hlt).trans hbx) (Nat.lt_of_lt_of_le hlt hC.size)).mono fun e w3 ⟨h1, h2⟩ => ⟨h1, hC.trans (h2.mono hC.size)⟩
  have HX : Hid (X = _) := hX
  clear hX hbx hXw
  rw [hK] at q0
  go_enter Tryd.func20, Tryd.ntmps20
  go_wp2_with fail
  rw [show w'.alloc (.cells #[.int .i64 10, .int .i64 t.N, .string t.S, .string t.Z, .int .i64 t.T.K, .int .i64 t.T.N, .slice a1 l1 c1, .slice a2 l2 c2, .slice a3 l3 c3] 35) = X by rw [HX.out, hK]]
  have z0 : Below X.heap.size X X := Below.refl _ _
  refine (HP.out _ _ h0 _ z0).mono ?_
  rintro e y0 ⟨rfl, z1⟩
  go_wp2_with fail
  go_ret
  exact ⟨rfl, hXb.trans (z1.mono (Nat.le_of_lt hlt))⟩

set_option maxRecDepth 100000 in
set_option maxHeartbeats 1000000 in
theorem form_11 (t : Tm) (a1 : Option Addr) (l1 c1 : Nat) (a2 : Option Addr) (l2 c2 : Nat) (a3 : Option Addr) (l3 c3 : Nat) (τ : Nat → TypeId) (u : Nat → Value) (w w' : World) (hw : Below w.heap.size w w') (hK : t.K = 11) (h0 : PartIs w #[.int .i64 t.K, .int .i64 t.N, .string t.S, .string t.Z, .int .i64 t.T.K, .int .i64 t.T.N, .slice a1 l1 c1, .slice a2 l2 c2, .slice a3 l3 c3] 0 (.iface (τ 0) (u 0))) :
    Calls Tryd.prog 20 #[.agg #[.int .i64 t.K, .int .i64 t.N, .string t.S, .string t.Z, .int .i64 t.T.K, .int .i64 t.T.N, .slice a1 l1 c1, .slice a2 l2 c2, .slice a3 l3 c3]] w' fun e w'' => e = .returned (.iface 92 (.agg #[.iface (τ 0) (u 0)])) ∧ Below w'.heap.size w' w'' := by
  obtain ⟨X, hX⟩ : ∃ X, X = w'.alloc (.cells #[.int .i64 t.K, .int .i64 t.N, .string t.S, .string t.Z, .int .i64 t.T.K, .int .i64 t.T.N, .slice a1 l1 c1, .slice a2 l2 c2, .slice a3 l3 c3] 35) := ⟨_, rfl⟩
  have hXb : Below w'.heap.size w' X := by rw [hX]; exact (Below.refl _ _).alloc (Nat.le_refl _) _
  have hXw : Below w.heap.size w X := hw.trans (hXb.mono hw.size)
  have hbx : X.heap[w'.heap.size]? = some (.cells #[.int .i64 t.K, .int .i64 t.N, .string t.S, .string t.Z, .int .i64 t.T.K, .int .i64 t.T.N, .slice a1 l1 c1, .slice a2 l2 c2, .slice a3 l3 c3] 35 (0, 0)) := by rw [hX]; exact heap_new rfl
  have hlt : w'.heap.size < X.heap.size := by rw [hX]; simp
  have q := Nine.box hbx
  obtain ⟨q0, q1, q2, q3, q4, q5, q6, q7, q8⟩ := q
  have HP : Hid (∀ (x : Int) (v : Value), PartIs w #[.int .i64 t.K, .int .i64 t.N, .string t.S, .string t.Z, .int .i64 t.T.K, .int .i64 t.T.N, .slice a1 l1 c1, .slice a2 l2 c2, .slice a3 l3 c3] x v → ∀ w2, Below X.heap.size X w2 → Calls Tryd.prog 33 #[.int .i64 x, .pointer (some ⟨w'.heap.size, 0, none⟩)] w2 fun e w3 => e = .returned v ∧ Below X.heap.size X w3) := fun x v h w2 hC =>
    (h.call w'.heap.size w2 (hXw.trans (hC.mono hXw.size)) ((hC.block _ hlt).trans hbx) (Nat.lt_of_lt_of_le hlt hC.size)).mono fun e w3 ⟨h1, h2⟩ => ⟨h1, hC.trans (h2.mono hC.size)⟩
  have HX : Hid (X = _) := hX
  clear hX hbx hXw
  rw [hK] at q0
  go_enter Tryd.func20, Tryd.ntmps20
  go_wp2_with fail
  rw [show w'.alloc (.cells #[.int .i64 11, .int .i64 t.N, .string t.S, .string t.Z, .int .i64 t.T.K, .int .i64 t.T.N, .slice a1 l1 c1, .slice a2 l2 c2, .slice a3 l3 c3] 35) = X by rw [HX.out, hK]]
  have z0 : Below X.heap.size X X := Below.refl _ _
  refine (HP.out _ _ h0 _ z0).mono ?_
  rintro e y0 ⟨rfl, z1⟩
  go_wp2_with fail
  go_ret
  exact ⟨rfl, hXb.trans (z1.mono (Nat.le_of_lt hlt))⟩

set_option maxRecDepth 100000 in
set_option maxHeartbeats 1000000 in
theorem form_12 (t : Tm) (a1 : Option Addr) (l1 c1 : Nat) (a2 : Option Addr) (l2 c2 : Nat) (a3 : Option Addr) (l3 c3 : Nat) (τ : Nat → TypeId) (u : Nat → Value) (w w' : World) (hw : Below w.heap.size w w') (hK : t.K = 12)  :
    Calls Tryd.prog 20 #[.agg #[.int .i64 t.K, .int .i64 t.N, .string t.S, .string t.Z, .int .i64 t.T.K, .int .i64 t.T.N, .slice a1 l1 c1, .slice a2 l2 c2, .slice a3 l3 c3]] w' fun e w'' => e = .returned (.iface 94 (.agg #[.int .i64 t.T.K, .int .i64 t.T.N, .slice a1 l1 c1])) ∧ Below w'.heap.size w' w'' := by
  go_enter Tryd.func20, Tryd.ntmps20
  go_wp2_with fail
  go_ret
  exact ⟨rfl, (Below.refl _ _).alloc (Nat.le_refl _) _⟩

set_option maxRecDepth 100000 in
set_option maxHeartbeats 1000000 in
theorem form_13 (t : Tm) (a1 : Option Addr) (l1 c1 : Nat) (a2 : Option Addr) (l2 c2 : Nat) (a3 : Option Addr) (l3 c3 : Nat) (τ : Nat → TypeId) (u : Nat → Value) (w w' : World) (hw : Below w.heap.size w w') (hK : t.K = 13) (h0 : PartIs w #[.int .i64 t.K, .int .i64 t.N, .string t.S, .string t.Z, .int .i64 t.T.K, .int .i64 t.T.N, .slice a1 l1 c1, .slice a2 l2 c2, .slice a3 l3 c3] 0 (.iface (τ 0) (u 0))) (h1 : PartIs w #[.int .i64 t.K, .int .i64 t.N, .string t.S, .string t.Z, .int .i64 t.T.K, .int .i64 t.T.N, .slice a1 l1 c1, .slice a2 l2 c2, .slice a3 l3 c3] 1 (.iface (τ 1) (u 1))) :
    Calls Tryd.prog 20 #[.agg #[.int .i64 t.K, .int .i64 t.N, .string t.S, .string t.Z, .int .i64 t.T.K, .int .i64 t.T.N, .slice a1 l1 c1, .slice a2 l2 c2, .slice a3 l3 c3]] w' fun e w'' => e = .returned (.iface 96 (.agg #[.iface (τ 0) (u 0), .iface (τ 1) (u 1)])) ∧ Below w'.heap.size w' w'' := by
  obtain ⟨X, hX⟩ : ∃ X, X = w'.alloc (.cells #[.int .i64 t.K, .int .i64 t.N, .string t.S, .string t.Z, .int .i64 t.T.K, .int .i64 t.T.N, .slice a1 l1 c1, .slice a2 l2 c2, .slice a3 l3 c3] 35) := ⟨_, rfl⟩
  have hXb : Below w'.heap.size w' X := by rw [hX]; exact (Below.refl _ _).alloc (Nat.le_refl _) _
  have hXw : Below w.heap.size w X := hw.trans (hXb.mono hw.size)
  have hbx : X.heap[w'.heap.size]? = some (.cells #[.int .i64 t.K, .int .i64 t.N, .string t.S, .string t.Z, .int .i64 t.T.K, .int .i64 t.T.N, .slice a1 l1 c1, .slice a2 l2 c2, .slice a3 l3 c3] 35 (0, 0)) := by rw [hX]; exact heap_new rfl
  have hlt : w'.heap.size < X.heap.size := by rw [hX]; simp
  have q := Nine.box hbx
  obtain ⟨q0, q1, q2, q3, q4, q5, q6, q7, q8⟩ := q
  have HP : Hid (∀ (x : Int) (v : Value), PartIs w #[.int .i64 t.K, .int .i64 t.N, .string t.S, .string t.Z, .int .i64 t.T.K, .int .i64 t.T.N, .slice a1 l1 c1, .slice a2 l2 c2, .slice a3 l3 c3] x v → ∀ w2, Below X.heap.size X w2 → Calls Tryd.prog 33 #[.int .i64 x, .pointer (some ⟨w'.heap.size, 0, none⟩)] w2 fun e w3 => e = .returned v ∧ Below X.heap.size X w3) := fun x v h w2 hC =>
    (h.call w'.heap.size w2 (hXw.trans (hC.mono hXw.size)) ((hC.block _ hlt).trans hbx) (Nat.lt_of_lt_of_le hlt hC.size)).mono fun e w3 ⟨h1, h2⟩ => ⟨h1, hC.trans (h2.mono hC.size)⟩
  have HX : Hid (X = _) := hX
  clear hX hbx hXw
  rw [hK] at q0
  go_enter Tryd.func20, Tryd.ntmps20
  go_wp2_with fail
  rw [show w'.alloc (.cells #[.int .i64 13, .int .i64 t.N, .string t.S, .string t.Z, .int .i64 t.T.K, .int .i64 t.T.N, .slice a1 l1 c1, .slice a2 l2 c2, .slice a3 l3 c3] 35) = X by rw [HX.out, hK]]
  have z0 : Below X.heap.size X X := Below.refl _ _
  refine (HP.out _ _ h0 _ z0).mono ?_
  rintro e y0 ⟨rfl, z1⟩
  go_wp2_with fail
  refine (HP.out _ _ h1 _ z1).mono ?_
  rintro e y1 ⟨rfl, z2⟩
  go_wp2_with fail
  go_ret
  exact ⟨rfl, hXb.trans (z2.mono (Nat.le_of_lt hlt))⟩

set_option maxRecDepth 100000 in
set_option maxHeartbeats 1000000 in
theorem form_14 (t : Tm) (a1 : Option Addr) (l1 c1 : Nat) (a2 : Option Addr) (l2 c2 : Nat) (a3 : Option Addr) (l3 c3 : Nat) (τ : Nat → TypeId) (u : Nat → Value) (w w' : World) (hw : Below w.heap.size w w') (hK : t.K = 14) (h0 : PartIs w #[.int .i64 t.K, .int .i64 t.N, .string t.S, .string t.Z, .int .i64 t.T.K, .int .i64 t.T.N, .slice a1 l1 c1, .slice a2 l2 c2, .slice a3 l3 c3] 0 (.iface (τ 0) (u 0))) (h1 : PartIs w #[.int .i64 t.K, .int .i64 t.N, .string t.S, .string t.Z, .int .i64 t.T.K, .int .i64 t.T.N, .slice a1 l1 c1, .slice a2 l2 c2, .slice a3 l3 c3] 1 (.iface (τ 1) (u 1))) (h2 : PartIs w #[.int .i64 t.K, .int .i64 t.N, .string t.S, .string t.Z, .int .i64 t.T.K, .int .i64 t.T.N, .slice a1 l1 c1, .slice a2 l2 c2, .slice a3 l3 c3] 2 (.iface (τ 2) (u 2))) :
    Calls Tryd.prog 20 #[.agg #[.int .i64 t.K, .int .i64 t.N, .string t.S, .string t.Z, .int .i64 t.T.K, .int .i64 t.T.N, .slice a1 l1 c1, .slice a2 l2 c2, .slice a3 l3 c3]] w' fun e w'' => e = .returned (.iface 98 (.agg #[.string t.S, .string t.Z, .iface (τ 0) (u 0), .iface (τ 1) (u 1), .iface (τ 2) (u 2)])) ∧ Below w'.heap.size w' w'' := by
  obtain ⟨X, hX⟩ : ∃ X, X = w'.alloc (.cells #[.int .i64 t.K, .int .i64 t.N, .string t.S, .string t.Z, .int .i64 t.T.K, .int .i64 t.T.N, .slice a1 l1 c1, .slice a2 l2 c2, .slice a3 l3 c3] 35) := ⟨_, rfl⟩
  have hXb : Below w'.heap.size w' X := by rw [hX]; exact (Below.refl _ _).alloc (Nat.le_refl _) _
  have hXw : Below w.heap.size w X := hw.trans (hXb.mono hw.size)
  have hbx : X.heap[w'.heap.size]? = some (.cells #[.int .i64 t.K, .int .i64 t.N, .string t.S, .string t.Z, .int .i64 t.T.K, .int .i64 t.T.N, .slice a1 l1 c1, .slice a2 l2 c2, .slice a3 l3 c3] 35 (0, 0)) := by rw [hX]; exact heap_new rfl
  have hlt : w'.heap.size < X.heap.size := by rw [hX]; simp
  have q := Nine.box hbx
  obtain ⟨q0, q1, q2, q3, q4, q5, q6, q7, q8⟩ := q
  have HP : Hid (∀ (x : Int) (v : Value), PartIs w #[.int .i64 t.K, .int .i64 t.N, .string t.S, .string t.Z, .int .i64 t.T.K, .int .i64 t.T.N, .slice a1 l1 c1, .slice a2 l2 c2, .slice a3 l3 c3] x v → ∀ w2, Below X.heap.size X w2 → Calls Tryd.prog 33 #[.int .i64 x, .pointer (some ⟨w'.heap.size, 0, none⟩)] w2 fun e w3 => e = .returned v ∧ Below X.heap.size X w3) := fun x v h w2 hC =>
    (h.call w'.heap.size w2 (hXw.trans (hC.mono hXw.size)) ((hC.block _ hlt).trans hbx) (Nat.lt_of_lt_of_le hlt hC.size)).mono fun e w3 ⟨h1, h2⟩ => ⟨h1, hC.trans (h2.mono hC.size)⟩
  have HX : Hid (X = _) := hX
  clear hX hbx hXw
  rw [hK] at q0
  go_enter Tryd.func20, Tryd.ntmps20
  go_wp2_with fail
  rw [show w'.alloc (.cells #[.int .i64 14, .int .i64 t.N, .string t.S, .string t.Z, .int .i64 t.T.K, .int .i64 t.T.N, .slice a1 l1 c1, .slice a2 l2 c2, .slice a3 l3 c3] 35) = X by rw [HX.out, hK]]
  refine wp_region_below (by kernel_rfl) (by kernel_rfl) ?_
  repeat (first
    | go_big_quiet_skip
    | (go_big_quiet_want; unfold Oper.quiet; apply Exists.intro; refine ⟨fun w2 hC => ?_, ?_⟩; (have g0 := (bcell hC hlt 0).trans q0; have g1 := (bcell hC hlt 1).trans q1; have g2 := (bcell hC hlt 2).trans q2; have g3 := (bcell hC hlt 3).trans q3; have g4 := (bcell hC hlt 4).trans q4; have g5 := (bcell hC hlt 5).trans q5; have g6 := (bcell hC hlt 6).trans q6; have g7 := (bcell hC hlt 7).trans q7; have g8 := (bcell hC hlt 8).trans q8; unfold Oper.quietAt; go_simp; first | exact rfl | exact ⟨rfl, rfl⟩ | (go_at_call 33; exact HP.out _ _ (by first | exact h0 | exact h1 | exact h2) _ hC)); go_big_quiet_on; simp only [Act.put, List.setIfInBounds_toArray, List.set_cons_zero, List.set_cons_succ]))
  refine wpQuiet_nil ?_
  intro w3 hb3
  go_wp2_with fail
  go_ret
  exact ⟨rfl, hXb.trans (hb3.mono (Nat.le_of_lt hlt))⟩

set_option maxRecDepth 100000 in
set_option maxHeartbeats 1000000 in
theorem form_15 (t : Tm) (a1 : Option Addr) (l1 c1 : Nat) (a2 : Option Addr) (l2 c2 : Nat) (a3 : Option Addr) (l3 c3 : Nat) (τ : Nat → TypeId) (u : Nat → Value) (w w' : World) (hw : Below w.heap.size w w') (hK : t.K = 15) (h0 : PartIs w #[.int .i64 t.K, .int .i64 t.N, .string t.S, .string t.Z, .int .i64 t.T.K, .int .i64 t.T.N, .slice a1 l1 c1, .slice a2 l2 c2, .slice a3 l3 c3] 0 (.iface (τ 0) (u 0))) (h1 : PartIs w #[.int .i64 t.K, .int .i64 t.N, .string t.S, .string t.Z, .int .i64 t.T.K, .int .i64 t.T.N, .slice a1 l1 c1, .slice a2 l2 c2, .slice a3 l3 c3] 1 (.iface (τ 1) (u 1))) :
    Calls Tryd.prog 20 #[.agg #[.int .i64 t.K, .int .i64 t.N, .string t.S, .string t.Z, .int .i64 t.T.K, .int .i64 t.T.N, .slice a1 l1 c1, .slice a2 l2 c2, .slice a3 l3 c3]] w' fun e w'' => e = .returned (.iface 100 (.agg #[.int .i64 t.N, .iface (τ 0) (u 0), .iface (τ 1) (u 1)])) ∧ Below w'.heap.size w' w'' := by
  obtain ⟨X, hX⟩ : ∃ X, X = w'.alloc (.cells #[.int .i64 t.K, .int .i64 t.N, .string t.S, .string t.Z, .int .i64 t.T.K, .int .i64 t.T.N, .slice a1 l1 c1, .slice a2 l2 c2, .slice a3 l3 c3] 35) := ⟨_, rfl⟩
  have hXb : Below w'.heap.size w' X := by rw [hX]; exact (Below.refl _ _).alloc (Nat.le_refl _) _
  have hXw : Below w.heap.size w X := hw.trans (hXb.mono hw.size)
  have hbx : X.heap[w'.heap.size]? = some (.cells #[.int .i64 t.K, .int .i64 t.N, .string t.S, .string t.Z, .int .i64 t.T.K, .int .i64 t.T.N, .slice a1 l1 c1, .slice a2 l2 c2, .slice a3 l3 c3] 35 (0, 0)) := by rw [hX]; exact heap_new rfl
  have hlt : w'.heap.size < X.heap.size := by rw [hX]; simp
  have q := Nine.box hbx
  obtain ⟨q0, q1, q2, q3, q4, q5, q6, q7, q8⟩ := q
  have HP : Hid (∀ (x : Int) (v : Value), PartIs w #[.int .i64 t.K, .int .i64 t.N, .string t.S, .string t.Z, .int .i64 t.T.K, .int .i64 t.T.N, .slice a1 l1 c1, .slice a2 l2 c2, .slice a3 l3 c3] x v → ∀ w2, Below X.heap.size X w2 → Calls Tryd.prog 33 #[.int .i64 x, .pointer (some ⟨w'.heap.size, 0, none⟩)] w2 fun e w3 => e = .returned v ∧ Below X.heap.size X w3) := fun x v h w2 hC =>
    (h.call w'.heap.size w2 (hXw.trans (hC.mono hXw.size)) ((hC.block _ hlt).trans hbx) (Nat.lt_of_lt_of_le hlt hC.size)).mono fun e w3 ⟨h1, h2⟩ => ⟨h1, hC.trans (h2.mono hC.size)⟩
  have HX : Hid (X = _) := hX
  clear hX hbx hXw
  rw [hK] at q0
  go_enter Tryd.func20, Tryd.ntmps20
  go_wp2_with fail
  rw [show w'.alloc (.cells #[.int .i64 15, .int .i64 t.N, .string t.S, .string t.Z, .int .i64 t.T.K, .int .i64 t.T.N, .slice a1 l1 c1, .slice a2 l2 c2, .slice a3 l3 c3] 35) = X by rw [HX.out, hK]]
  refine wp_region_below (by kernel_rfl) (by kernel_rfl) ?_
  repeat (first
    | go_big_quiet_skip
    | (go_big_quiet_want; unfold Oper.quiet; apply Exists.intro; refine ⟨fun w2 hC => ?_, ?_⟩; (have g0 := (bcell hC hlt 0).trans q0; have g1 := (bcell hC hlt 1).trans q1; have g2 := (bcell hC hlt 2).trans q2; have g3 := (bcell hC hlt 3).trans q3; have g4 := (bcell hC hlt 4).trans q4; have g5 := (bcell hC hlt 5).trans q5; have g6 := (bcell hC hlt 6).trans q6; have g7 := (bcell hC hlt 7).trans q7; have g8 := (bcell hC hlt 8).trans q8; unfold Oper.quietAt; go_simp; first | exact rfl | exact ⟨rfl, rfl⟩ | (go_at_call 33; exact HP.out _ _ (by first | exact h0 | exact h1) _ hC)); go_big_quiet_on; simp only [Act.put, List.setIfInBounds_toArray, List.set_cons_zero, List.set_cons_succ]))
  refine wpQuiet_nil ?_
  intro w3 hb3
  go_wp2_with fail
  go_ret
  exact ⟨rfl, hXb.trans (hb3.mono (Nat.le_of_lt hlt))⟩

set_option maxRecDepth 100000 in
set_option maxHeartbeats 1000000 in
theorem form_16 (t : Tm) (a1 : Option Addr) (l1 c1 : Nat) (a2 : Option Addr) (l2 c2 : Nat) (a3 : Option Addr) (l3 c3 : Nat) (τ : Nat → TypeId) (u : Nat → Value) (w w' : World) (hw : Below w.heap.size w w') (hK : t.K = 16) (h0 : PartIs w #[.int .i64 t.K, .int .i64 t.N, .string t.S, .string t.Z, .int .i64 t.T.K, .int .i64 t.T.N, .slice a1 l1 c1, .slice a2 l2 c2, .slice a3 l3 c3] 0 (.iface (τ 0) (u 0))) :
    Calls Tryd.prog 20 #[.agg #[.int .i64 t.K, .int .i64 t.N, .string t.S, .string t.Z, .int .i64 t.T.K, .int .i64 t.T.N, .slice a1 l1 c1, .slice a2 l2 c2, .slice a3 l3 c3]] w' fun e w'' => e = .returned (.iface 102 (.agg #[.int .i64 t.T.K, .int .i64 t.T.N, .slice a1 l1 c1, .iface (τ 0) (u 0)])) ∧ Below w'.heap.size w' w'' := by
  obtain ⟨X, hX⟩ : ∃ X, X = w'.alloc (.cells #[.int .i64 t.K, .int .i64 t.N, .string t.S, .string t.Z, .int .i64 t.T.K, .int .i64 t.T.N, .slice a1 l1 c1, .slice a2 l2 c2, .slice a3 l3 c3] 35) := ⟨_, rfl⟩
  have hXb : Below w'.heap.size w' X := by rw [hX]; exact (Below.refl _ _).alloc (Nat.le_refl _) _
  have hXw : Below w.heap.size w X := hw.trans (hXb.mono hw.size)
  have hbx : X.heap[w'.heap.size]? = some (.cells #[.int .i64 t.K, .int .i64 t.N, .string t.S, .string t.Z, .int .i64 t.T.K, .int .i64 t.T.N, .slice a1 l1 c1, .slice a2 l2 c2, .slice a3 l3 c3] 35 (0, 0)) := by rw [hX]; exact heap_new rfl
  have hlt : w'.heap.size < X.heap.size := by rw [hX]; simp
  have q := Nine.box hbx
  obtain ⟨q0, q1, q2, q3, q4, q5, q6, q7, q8⟩ := q
  have HP : Hid (∀ (x : Int) (v : Value), PartIs w #[.int .i64 t.K, .int .i64 t.N, .string t.S, .string t.Z, .int .i64 t.T.K, .int .i64 t.T.N, .slice a1 l1 c1, .slice a2 l2 c2, .slice a3 l3 c3] x v → ∀ w2, Below X.heap.size X w2 → Calls Tryd.prog 33 #[.int .i64 x, .pointer (some ⟨w'.heap.size, 0, none⟩)] w2 fun e w3 => e = .returned v ∧ Below X.heap.size X w3) := fun x v h w2 hC =>
    (h.call w'.heap.size w2 (hXw.trans (hC.mono hXw.size)) ((hC.block _ hlt).trans hbx) (Nat.lt_of_lt_of_le hlt hC.size)).mono fun e w3 ⟨h1, h2⟩ => ⟨h1, hC.trans (h2.mono hC.size)⟩
  have HX : Hid (X = _) := hX
  clear hX hbx hXw
  rw [hK] at q0
  go_enter Tryd.func20, Tryd.ntmps20
  go_wp2_with fail
  rw [show w'.alloc (.cells #[.int .i64 16, .int .i64 t.N, .string t.S, .string t.Z, .int .i64 t.T.K, .int .i64 t.T.N, .slice a1 l1 c1, .slice a2 l2 c2, .slice a3 l3 c3] 35) = X by rw [HX.out, hK]]
  refine wp_region_below (by kernel_rfl) (by kernel_rfl) ?_
  repeat (first
    | go_big_quiet_skip
    | (go_big_quiet_want; unfold Oper.quiet; apply Exists.intro; refine ⟨fun w2 hC => ?_, ?_⟩; (have g0 := (bcell hC hlt 0).trans q0; have g1 := (bcell hC hlt 1).trans q1; have g2 := (bcell hC hlt 2).trans q2; have g3 := (bcell hC hlt 3).trans q3; have g4 := (bcell hC hlt 4).trans q4; have g5 := (bcell hC hlt 5).trans q5; have g6 := (bcell hC hlt 6).trans q6; have g7 := (bcell hC hlt 7).trans q7; have g8 := (bcell hC hlt 8).trans q8; unfold Oper.quietAt; go_simp; first | exact rfl | exact ⟨rfl, rfl⟩ | (go_at_call 33; exact HP.out _ _ (by first | exact h0) _ hC)); go_big_quiet_on; simp only [Act.put, List.setIfInBounds_toArray, List.set_cons_zero, List.set_cons_succ]))
  refine wpQuiet_nil ?_
  intro w3 hb3
  go_wp2_with fail
  go_ret
  exact ⟨rfl, hXb.trans (hb3.mono (Nat.le_of_lt hlt))⟩

set_option maxRecDepth 100000 in
set_option maxHeartbeats 1000000 in
theorem form_17 (t : Tm) (a1 : Option Addr) (l1 c1 : Nat) (a2 : Option Addr) (l2 c2 : Nat) (a3 : Option Addr) (l3 c3 : Nat) (τ : Nat → TypeId) (u : Nat → Value) (w w' : World) (hw : Below w.heap.size w w') (hK : t.K = 17) (h0 : PartIs w #[.int .i64 t.K, .int .i64 t.N, .string t.S, .string t.Z, .int .i64 t.T.K, .int .i64 t.T.N, .slice a1 l1 c1, .slice a2 l2 c2, .slice a3 l3 c3] 0 (.iface (τ 0) (u 0))) (h1 : PartIs w #[.int .i64 t.K, .int .i64 t.N, .string t.S, .string t.Z, .int .i64 t.T.K, .int .i64 t.T.N, .slice a1 l1 c1, .slice a2 l2 c2, .slice a3 l3 c3] 1 (.iface (τ 1) (u 1))) :
    Calls Tryd.prog 20 #[.agg #[.int .i64 t.K, .int .i64 t.N, .string t.S, .string t.Z, .int .i64 t.T.K, .int .i64 t.T.N, .slice a1 l1 c1, .slice a2 l2 c2, .slice a3 l3 c3]] w' fun e w'' => e = .returned (.iface 104 (.agg #[.string t.S, .iface (τ 0) (u 0), .iface (τ 1) (u 1)])) ∧ Below w'.heap.size w' w'' := by
  obtain ⟨X, hX⟩ : ∃ X, X = w'.alloc (.cells #[.int .i64 t.K, .int .i64 t.N, .string t.S, .string t.Z, .int .i64 t.T.K, .int .i64 t.T.N, .slice a1 l1 c1, .slice a2 l2 c2, .slice a3 l3 c3] 35) := ⟨_, rfl⟩
  have hXb : Below w'.heap.size w' X := by rw [hX]; exact (Below.refl _ _).alloc (Nat.le_refl _) _
  have hXw : Below w.heap.size w X := hw.trans (hXb.mono hw.size)
  have hbx : X.heap[w'.heap.size]? = some (.cells #[.int .i64 t.K, .int .i64 t.N, .string t.S, .string t.Z, .int .i64 t.T.K, .int .i64 t.T.N, .slice a1 l1 c1, .slice a2 l2 c2, .slice a3 l3 c3] 35 (0, 0)) := by rw [hX]; exact heap_new rfl
  have hlt : w'.heap.size < X.heap.size := by rw [hX]; simp
  have q := Nine.box hbx
  obtain ⟨q0, q1, q2, q3, q4, q5, q6, q7, q8⟩ := q
  have HP : Hid (∀ (x : Int) (v : Value), PartIs w #[.int .i64 t.K, .int .i64 t.N, .string t.S, .string t.Z, .int .i64 t.T.K, .int .i64 t.T.N, .slice a1 l1 c1, .slice a2 l2 c2, .slice a3 l3 c3] x v → ∀ w2, Below X.heap.size X w2 → Calls Tryd.prog 33 #[.int .i64 x, .pointer (some ⟨w'.heap.size, 0, none⟩)] w2 fun e w3 => e = .returned v ∧ Below X.heap.size X w3) := fun x v h w2 hC =>
    (h.call w'.heap.size w2 (hXw.trans (hC.mono hXw.size)) ((hC.block _ hlt).trans hbx) (Nat.lt_of_lt_of_le hlt hC.size)).mono fun e w3 ⟨h1, h2⟩ => ⟨h1, hC.trans (h2.mono hC.size)⟩
  have HX : Hid (X = _) := hX
  clear hX hbx hXw
  rw [hK] at q0
  go_enter Tryd.func20, Tryd.ntmps20
  go_wp2_with fail
  rw [show w'.alloc (.cells #[.int .i64 17, .int .i64 t.N, .string t.S, .string t.Z, .int .i64 t.T.K, .int .i64 t.T.N, .slice a1 l1 c1, .slice a2 l2 c2, .slice a3 l3 c3] 35) = X by rw [HX.out, hK]]
  refine wp_region_below (by kernel_rfl) (by kernel_rfl) ?_
  repeat (first
    | go_big_quiet_skip
    | (go_big_quiet_want; unfold Oper.quiet; apply Exists.intro; refine ⟨fun w2 hC => ?_, ?_⟩; (have g0 := (bcell hC hlt 0).trans q0; have g1 := (bcell hC hlt 1).trans q1; have g2 := (bcell hC hlt 2).trans q2; have g3 := (bcell hC hlt 3).trans q3; have g4 := (bcell hC hlt 4).trans q4; have g5 := (bcell hC hlt 5).trans q5; have g6 := (bcell hC hlt 6).trans q6; have g7 := (bcell hC hlt 7).trans q7; have g8 := (bcell hC hlt 8).trans q8; unfold Oper.quietAt; go_simp; first | exact rfl | exact ⟨rfl, rfl⟩ | (go_at_call 33; exact HP.out _ _ (by first | exact h0 | exact h1) _ hC)); go_big_quiet_on; simp only [Act.put, List.setIfInBounds_toArray, List.set_cons_zero, List.set_cons_succ]))
  refine wpQuiet_nil ?_
  intro w3 hb3
  go_wp2_with fail
  go_ret
  exact ⟨rfl, hXb.trans (hb3.mono (Nat.le_of_lt hlt))⟩

theorem fo_succ (l : Nat) (IH : SaidFo l) : SaidFo (l + 1) := by
  intro D d L B t a1 l1 c1 a2 l2 c2 a3 l3 c3 m w hB hf hm
  obtain ⟨hn, hparts⟩ := nodesM_inv hm
  obtain ⟨hk1, hk2, hlen⟩ := nodeM_kinds hn
  have hp : ∀ i : Nat, ∃ v : TypeId × Value, ∀ (hi : i < t.A.length), Fv L B w D l t.A[i] (.iface v.1 v.2) ∧ PartIs w #[.int .i64 t.K, .int .i64 t.N, .string t.S, .string t.Z, .int .i64 t.T.K, .int .i64 t.T.N, .slice a1 l1 c1, .slice a2 l2 c2, .slice a3 l3 c3] (i : Int) (.iface v.1 v.2) := by
    intro i
    by_cases hi : i < t.A.length
    · obtain ⟨a, ha⟩ := hparts i hi
      obtain ⟨v, h1, h2⟩ := part_any D d L B t a1 l1 c1 a2 l2 c2 a3 l3 c3 l IH w hB hf i hi a ha
      obtain ⟨τ, u, rfl⟩ := Fv.iface h1
      exact ⟨(τ, u), fun _ => ⟨h1, h2⟩⟩
    · exact ⟨(0, .nilIface), fun h => (hi h).elim⟩
  obtain ⟨p, hp⟩ := Classical.axiomOfChoice hp
  refine ⟨_, ⟨a1, l1, c1, a2, l2, c2, (fun i => .iface (p i).1 (p i).2), hf.t1, hf.t2, fun i h => (hp i h).1, rfl⟩, fun w' hw => ?_⟩
  have hK : t.K = 1 ∨ t.K = 2 ∨ t.K = 3 ∨ t.K = 4 ∨ t.K = 5 ∨ t.K = 6 ∨ t.K = 7 ∨ t.K = 8 ∨ t.K = 9 ∨ t.K = 10 ∨ t.K = 11 ∨ t.K = 12 ∨ t.K = 13 ∨ t.K = 14 ∨ t.K = 15 ∨ t.K = 16 ∨ t.K = 17 := by omega
  rcases hK with hK | hK | hK | hK | hK | hK | hK | hK | hK | hK | hK | hK | hK | hK | hK | hK | hK
  · have hl : (t.A.length : Int) = 0 := by rw [hlen, hK]; rfl
    have e : fval t.K t.N t.S t.Z t.T.K t.T.N (.slice a1 l1 c1) (.slice a2 l2 c2) (.iface (p 0).1 (p 0).2) (.iface (p 1).1 (p 1).2) (.iface (p 2).1 (p 2).2) = .iface 74 (.agg #[.int .i64 t.N]) := by rw [hK]; rfl
    show Calls _ _ _ _ (fun e w'' => e = .returned (fval t.K t.N t.S t.Z t.T.K t.T.N (.slice a1 l1 c1) (.slice a2 l2 c2) (.iface (p 0).1 (p 0).2) (.iface (p 1).1 (p 1).2) (.iface (p 2).1 (p 2).2)) ∧ _)
    rw [e]
    exact form_1 t a1 l1 c1 a2 l2 c2 a3 l3 c3 (fun i => (p i).1) (fun i => (p i).2) w w' hw hK 
  · have hl : (t.A.length : Int) = 0 := by rw [hlen, hK]; rfl
    have e : fval t.K t.N t.S t.Z t.T.K t.T.N (.slice a1 l1 c1) (.slice a2 l2 c2) (.iface (p 0).1 (p 0).2) (.iface (p 1).1 (p 1).2) (.iface (p 2).1 (p 2).2) = .iface 75 (.agg #[.int .i64 t.N]) := by rw [hK]; rfl
    show Calls _ _ _ _ (fun e w'' => e = .returned (fval t.K t.N t.S t.Z t.T.K t.T.N (.slice a1 l1 c1) (.slice a2 l2 c2) (.iface (p 0).1 (p 0).2) (.iface (p 1).1 (p 1).2) (.iface (p 2).1 (p 2).2)) ∧ _)
    rw [e]
    exact form_2 t a1 l1 c1 a2 l2 c2 a3 l3 c3 (fun i => (p i).1) (fun i => (p i).2) w w' hw hK 
  · have hl : (t.A.length : Int) = 0 := by rw [hlen, hK]; rfl
    have e : fval t.K t.N t.S t.Z t.T.K t.T.N (.slice a1 l1 c1) (.slice a2 l2 c2) (.iface (p 0).1 (p 0).2) (.iface (p 1).1 (p 1).2) (.iface (p 2).1 (p 2).2) = .iface 77 (.agg #[.string t.S, .slice a2 l2 c2]) := by rw [hK]; rfl
    show Calls _ _ _ _ (fun e w'' => e = .returned (fval t.K t.N t.S t.Z t.T.K t.T.N (.slice a1 l1 c1) (.slice a2 l2 c2) (.iface (p 0).1 (p 0).2) (.iface (p 1).1 (p 1).2) (.iface (p 2).1 (p 2).2)) ∧ _)
    rw [e]
    exact form_3 t a1 l1 c1 a2 l2 c2 a3 l3 c3 (fun i => (p i).1) (fun i => (p i).2) w w' hw hK 
  · have hl : (t.A.length : Int) = 1 := by rw [hlen, hK]; rfl
    have e : fval t.K t.N t.S t.Z t.T.K t.T.N (.slice a1 l1 c1) (.slice a2 l2 c2) (.iface (p 0).1 (p 0).2) (.iface (p 1).1 (p 1).2) (.iface (p 2).1 (p 2).2) = .iface 79 (.agg #[.string t.S, .int .i64 t.T.K, .int .i64 t.T.N, .slice a1 l1 c1, .iface ((fun i => (p i).1) 0) ((fun i => (p i).2) 0)]) := by rw [hK]; rfl
    show Calls _ _ _ _ (fun e w'' => e = .returned (fval t.K t.N t.S t.Z t.T.K t.T.N (.slice a1 l1 c1) (.slice a2 l2 c2) (.iface (p 0).1 (p 0).2) (.iface (p 1).1 (p 1).2) (.iface (p 2).1 (p 2).2)) ∧ _)
    rw [e]
    exact form_4 t a1 l1 c1 a2 l2 c2 a3 l3 c3 (fun i => (p i).1) (fun i => (p i).2) w w' hw hK (hp 0 (by omega)).2
  · have hl : (t.A.length : Int) = 2 := by rw [hlen, hK]; rfl
    have e : fval t.K t.N t.S t.Z t.T.K t.T.N (.slice a1 l1 c1) (.slice a2 l2 c2) (.iface (p 0).1 (p 0).2) (.iface (p 1).1 (p 1).2) (.iface (p 2).1 (p 2).2) = .iface 81 (.agg #[.iface ((fun i => (p i).1) 0) ((fun i => (p i).2) 0), .iface ((fun i => (p i).1) 1) ((fun i => (p i).2) 1)]) := by rw [hK]; rfl
    show Calls _ _ _ _ (fun e w'' => e = .returned (fval t.K t.N t.S t.Z t.T.K t.T.N (.slice a1 l1 c1) (.slice a2 l2 c2) (.iface (p 0).1 (p 0).2) (.iface (p 1).1 (p 1).2) (.iface (p 2).1 (p 2).2)) ∧ _)
    rw [e]
    exact form_5 t a1 l1 c1 a2 l2 c2 a3 l3 c3 (fun i => (p i).1) (fun i => (p i).2) w w' hw hK (hp 0 (by omega)).2 (hp 1 (by omega)).2
  · have hl : (t.A.length : Int) = 2 := by rw [hlen, hK]; rfl
    have e : fval t.K t.N t.S t.Z t.T.K t.T.N (.slice a1 l1 c1) (.slice a2 l2 c2) (.iface (p 0).1 (p 0).2) (.iface (p 1).1 (p 1).2) (.iface (p 2).1 (p 2).2) = .iface 83 (.agg #[.string t.S, .int .i64 t.N, .iface ((fun i => (p i).1) 0) ((fun i => (p i).2) 0), .iface ((fun i => (p i).1) 1) ((fun i => (p i).2) 1)]) := by rw [hK]; rfl
    show Calls _ _ _ _ (fun e w'' => e = .returned (fval t.K t.N t.S t.Z t.T.K t.T.N (.slice a1 l1 c1) (.slice a2 l2 c2) (.iface (p 0).1 (p 0).2) (.iface (p 1).1 (p 1).2) (.iface (p 2).1 (p 2).2)) ∧ _)
    rw [e]
    exact form_6 t a1 l1 c1 a2 l2 c2 a3 l3 c3 (fun i => (p i).1) (fun i => (p i).2) w w' hw hK (hp 0 (by omega)).2 (hp 1 (by omega)).2
  · have hl : (t.A.length : Int) = 2 := by rw [hlen, hK]; rfl
    have e : fval t.K t.N t.S t.Z t.T.K t.T.N (.slice a1 l1 c1) (.slice a2 l2 c2) (.iface (p 0).1 (p 0).2) (.iface (p 1).1 (p 1).2) (.iface (p 2).1 (p 2).2) = .iface 85 (.agg #[.string t.S, .int .i64 t.N, .int .i64 t.T.K, .int .i64 t.T.N, .slice a1 l1 c1, .iface ((fun i => (p i).1) 0) ((fun i => (p i).2) 0), .iface ((fun i => (p i).1) 1) ((fun i => (p i).2) 1)]) := by rw [hK]; rfl
    show Calls _ _ _ _ (fun e w'' => e = .returned (fval t.K t.N t.S t.Z t.T.K t.T.N (.slice a1 l1 c1) (.slice a2 l2 c2) (.iface (p 0).1 (p 0).2) (.iface (p 1).1 (p 1).2) (.iface (p 2).1 (p 2).2)) ∧ _)
    rw [e]
    exact form_7 t a1 l1 c1 a2 l2 c2 a3 l3 c3 (fun i => (p i).1) (fun i => (p i).2) w w' hw hK (hp 0 (by omega)).2 (hp 1 (by omega)).2
  · have hl : (t.A.length : Int) = 3 := by rw [hlen, hK]; rfl
    have e : fval t.K t.N t.S t.Z t.T.K t.T.N (.slice a1 l1 c1) (.slice a2 l2 c2) (.iface (p 0).1 (p 0).2) (.iface (p 1).1 (p 1).2) (.iface (p 2).1 (p 2).2) = .iface 87 (.agg #[.iface ((fun i => (p i).1) 0) ((fun i => (p i).2) 0), .iface ((fun i => (p i).1) 1) ((fun i => (p i).2) 1), .iface ((fun i => (p i).1) 2) ((fun i => (p i).2) 2)]) := by rw [hK]; rfl
    show Calls _ _ _ _ (fun e w'' => e = .returned (fval t.K t.N t.S t.Z t.T.K t.T.N (.slice a1 l1 c1) (.slice a2 l2 c2) (.iface (p 0).1 (p 0).2) (.iface (p 1).1 (p 1).2) (.iface (p 2).1 (p 2).2)) ∧ _)
    rw [e]
    exact form_8 t a1 l1 c1 a2 l2 c2 a3 l3 c3 (fun i => (p i).1) (fun i => (p i).2) w w' hw hK (hp 0 (by omega)).2 (hp 1 (by omega)).2 (hp 2 (by omega)).2
  · have hl : (t.A.length : Int) = 2 := by rw [hlen, hK]; rfl
    have e : fval t.K t.N t.S t.Z t.T.K t.T.N (.slice a1 l1 c1) (.slice a2 l2 c2) (.iface (p 0).1 (p 0).2) (.iface (p 1).1 (p 1).2) (.iface (p 2).1 (p 2).2) = .iface 89 (.agg #[.iface ((fun i => (p i).1) 0) ((fun i => (p i).2) 0), .iface ((fun i => (p i).1) 1) ((fun i => (p i).2) 1)]) := by rw [hK]; rfl
    show Calls _ _ _ _ (fun e w'' => e = .returned (fval t.K t.N t.S t.Z t.T.K t.T.N (.slice a1 l1 c1) (.slice a2 l2 c2) (.iface (p 0).1 (p 0).2) (.iface (p 1).1 (p 1).2) (.iface (p 2).1 (p 2).2)) ∧ _)
    rw [e]
    exact form_9 t a1 l1 c1 a2 l2 c2 a3 l3 c3 (fun i => (p i).1) (fun i => (p i).2) w w' hw hK (hp 0 (by omega)).2 (hp 1 (by omega)).2
  · have hl : (t.A.length : Int) = 1 := by rw [hlen, hK]; rfl
    have e : fval t.K t.N t.S t.Z t.T.K t.T.N (.slice a1 l1 c1) (.slice a2 l2 c2) (.iface (p 0).1 (p 0).2) (.iface (p 1).1 (p 1).2) (.iface (p 2).1 (p 2).2) = .iface 91 (.agg #[.iface ((fun i => (p i).1) 0) ((fun i => (p i).2) 0)]) := by rw [hK]; rfl
    show Calls _ _ _ _ (fun e w'' => e = .returned (fval t.K t.N t.S t.Z t.T.K t.T.N (.slice a1 l1 c1) (.slice a2 l2 c2) (.iface (p 0).1 (p 0).2) (.iface (p 1).1 (p 1).2) (.iface (p 2).1 (p 2).2)) ∧ _)
    rw [e]
    exact form_10 t a1 l1 c1 a2 l2 c2 a3 l3 c3 (fun i => (p i).1) (fun i => (p i).2) w w' hw hK (hp 0 (by omega)).2
  · have hl : (t.A.length : Int) = 1 := by rw [hlen, hK]; rfl
    have e : fval t.K t.N t.S t.Z t.T.K t.T.N (.slice a1 l1 c1) (.slice a2 l2 c2) (.iface (p 0).1 (p 0).2) (.iface (p 1).1 (p 1).2) (.iface (p 2).1 (p 2).2) = .iface 92 (.agg #[.iface ((fun i => (p i).1) 0) ((fun i => (p i).2) 0)]) := by rw [hK]; rfl
    show Calls _ _ _ _ (fun e w'' => e = .returned (fval t.K t.N t.S t.Z t.T.K t.T.N (.slice a1 l1 c1) (.slice a2 l2 c2) (.iface (p 0).1 (p 0).2) (.iface (p 1).1 (p 1).2) (.iface (p 2).1 (p 2).2)) ∧ _)
    rw [e]
    exact form_11 t a1 l1 c1 a2 l2 c2 a3 l3 c3 (fun i => (p i).1) (fun i => (p i).2) w w' hw hK (hp 0 (by omega)).2
  · have hl : (t.A.length : Int) = 0 := by rw [hlen, hK]; rfl
    have e : fval t.K t.N t.S t.Z t.T.K t.T.N (.slice a1 l1 c1) (.slice a2 l2 c2) (.iface (p 0).1 (p 0).2) (.iface (p 1).1 (p 1).2) (.iface (p 2).1 (p 2).2) = .iface 94 (.agg #[.int .i64 t.T.K, .int .i64 t.T.N, .slice a1 l1 c1]) := by rw [hK]; rfl
    show Calls _ _ _ _ (fun e w'' => e = .returned (fval t.K t.N t.S t.Z t.T.K t.T.N (.slice a1 l1 c1) (.slice a2 l2 c2) (.iface (p 0).1 (p 0).2) (.iface (p 1).1 (p 1).2) (.iface (p 2).1 (p 2).2)) ∧ _)
    rw [e]
    exact form_12 t a1 l1 c1 a2 l2 c2 a3 l3 c3 (fun i => (p i).1) (fun i => (p i).2) w w' hw hK 
  · have hl : (t.A.length : Int) = 2 := by rw [hlen, hK]; rfl
    have e : fval t.K t.N t.S t.Z t.T.K t.T.N (.slice a1 l1 c1) (.slice a2 l2 c2) (.iface (p 0).1 (p 0).2) (.iface (p 1).1 (p 1).2) (.iface (p 2).1 (p 2).2) = .iface 96 (.agg #[.iface ((fun i => (p i).1) 0) ((fun i => (p i).2) 0), .iface ((fun i => (p i).1) 1) ((fun i => (p i).2) 1)]) := by rw [hK]; rfl
    show Calls _ _ _ _ (fun e w'' => e = .returned (fval t.K t.N t.S t.Z t.T.K t.T.N (.slice a1 l1 c1) (.slice a2 l2 c2) (.iface (p 0).1 (p 0).2) (.iface (p 1).1 (p 1).2) (.iface (p 2).1 (p 2).2)) ∧ _)
    rw [e]
    exact form_13 t a1 l1 c1 a2 l2 c2 a3 l3 c3 (fun i => (p i).1) (fun i => (p i).2) w w' hw hK (hp 0 (by omega)).2 (hp 1 (by omega)).2
  · have hl : (t.A.length : Int) = 3 := by rw [hlen, hK]; rfl
    have e : fval t.K t.N t.S t.Z t.T.K t.T.N (.slice a1 l1 c1) (.slice a2 l2 c2) (.iface (p 0).1 (p 0).2) (.iface (p 1).1 (p 1).2) (.iface (p 2).1 (p 2).2) = .iface 98 (.agg #[.string t.S, .string t.Z, .iface ((fun i => (p i).1) 0) ((fun i => (p i).2) 0), .iface ((fun i => (p i).1) 1) ((fun i => (p i).2) 1), .iface ((fun i => (p i).1) 2) ((fun i => (p i).2) 2)]) := by rw [hK]; rfl
    show Calls _ _ _ _ (fun e w'' => e = .returned (fval t.K t.N t.S t.Z t.T.K t.T.N (.slice a1 l1 c1) (.slice a2 l2 c2) (.iface (p 0).1 (p 0).2) (.iface (p 1).1 (p 1).2) (.iface (p 2).1 (p 2).2)) ∧ _)
    rw [e]
    exact form_14 t a1 l1 c1 a2 l2 c2 a3 l3 c3 (fun i => (p i).1) (fun i => (p i).2) w w' hw hK (hp 0 (by omega)).2 (hp 1 (by omega)).2 (hp 2 (by omega)).2
  · have hl : (t.A.length : Int) = 2 := by rw [hlen, hK]; rfl
    have e : fval t.K t.N t.S t.Z t.T.K t.T.N (.slice a1 l1 c1) (.slice a2 l2 c2) (.iface (p 0).1 (p 0).2) (.iface (p 1).1 (p 1).2) (.iface (p 2).1 (p 2).2) = .iface 100 (.agg #[.int .i64 t.N, .iface ((fun i => (p i).1) 0) ((fun i => (p i).2) 0), .iface ((fun i => (p i).1) 1) ((fun i => (p i).2) 1)]) := by rw [hK]; rfl
    show Calls _ _ _ _ (fun e w'' => e = .returned (fval t.K t.N t.S t.Z t.T.K t.T.N (.slice a1 l1 c1) (.slice a2 l2 c2) (.iface (p 0).1 (p 0).2) (.iface (p 1).1 (p 1).2) (.iface (p 2).1 (p 2).2)) ∧ _)
    rw [e]
    exact form_15 t a1 l1 c1 a2 l2 c2 a3 l3 c3 (fun i => (p i).1) (fun i => (p i).2) w w' hw hK (hp 0 (by omega)).2 (hp 1 (by omega)).2
  · have hl : (t.A.length : Int) = 1 := by rw [hlen, hK]; rfl
    have e : fval t.K t.N t.S t.Z t.T.K t.T.N (.slice a1 l1 c1) (.slice a2 l2 c2) (.iface (p 0).1 (p 0).2) (.iface (p 1).1 (p 1).2) (.iface (p 2).1 (p 2).2) = .iface 102 (.agg #[.int .i64 t.T.K, .int .i64 t.T.N, .slice a1 l1 c1, .iface ((fun i => (p i).1) 0) ((fun i => (p i).2) 0)]) := by rw [hK]; rfl
    show Calls _ _ _ _ (fun e w'' => e = .returned (fval t.K t.N t.S t.Z t.T.K t.T.N (.slice a1 l1 c1) (.slice a2 l2 c2) (.iface (p 0).1 (p 0).2) (.iface (p 1).1 (p 1).2) (.iface (p 2).1 (p 2).2)) ∧ _)
    rw [e]
    exact form_16 t a1 l1 c1 a2 l2 c2 a3 l3 c3 (fun i => (p i).1) (fun i => (p i).2) w w' hw hK (hp 0 (by omega)).2
  · have hl : (t.A.length : Int) = 2 := by rw [hlen, hK]; rfl
    have e : fval t.K t.N t.S t.Z t.T.K t.T.N (.slice a1 l1 c1) (.slice a2 l2 c2) (.iface (p 0).1 (p 0).2) (.iface (p 1).1 (p 1).2) (.iface (p 2).1 (p 2).2) = .iface 104 (.agg #[.string t.S, .iface ((fun i => (p i).1) 0) ((fun i => (p i).2) 0), .iface ((fun i => (p i).1) 1) ((fun i => (p i).2) 1)]) := by rw [hK]; rfl
    show Calls _ _ _ _ (fun e w'' => e = .returned (fval t.K t.N t.S t.Z t.T.K t.T.N (.slice a1 l1 c1) (.slice a2 l2 c2) (.iface (p 0).1 (p 0).2) (.iface (p 1).1 (p 1).2) (.iface (p 2).1 (p 2).2)) ∧ _)
    rw [e]
    exact form_17 t a1 l1 c1 a2 l2 c2 a3 l3 c3 (fun i => (p i).1) (fun i => (p i).2) w w' hw hK (hp 0 (by omega)).2 (hp 1 (by omega)).2

theorem fo_any (l : Nat) : SaidFo l := by
  induction l with
  | zero => exact fo_zero
  | succ l ih => exact fo_succ l ih

end Go.Proofs.YtgmbiabmeeemdaaDoor
