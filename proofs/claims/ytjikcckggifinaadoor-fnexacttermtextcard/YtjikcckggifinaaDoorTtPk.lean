/-
  The parts of a form, kind by kind.
-/
import Derived.Test.YtjikcckggifinaaDoorTtTt
namespace Go.Proofs.YtjikcckggifinaaDoor
open Go.RowKit
set_option linter.unusedVariables false
set_option linter.unusedSimpArgs false

theorem parts_1 (s z : ByteArray) (nd n tK tN : Int) (a1 : Option Addr) (l1 c1 : Nat) (a2 : Option Addr) (l2 c2 : Nat) (τ0 τ1 τ2 : TypeId) (u0 u1 u2 : Value) (w : World) : Calls Tryd.prog 93 #[.agg #[.int .i64 n]] w fun e w' => e = .returned (.slice none 0 0) ∧ Below w.heap.size w w' := by
  go_enter Tryd.func93, Tryd.ntmps93
  go_wp2_with fail
  go_ret
  exact ⟨rfl, by first | exact Below.refl _ _ | exact (Below.refl _ _).alloc (Nat.le_refl _) _⟩

theorem parts_2 (s z : ByteArray) (nd n tK tN : Int) (a1 : Option Addr) (l1 c1 : Nat) (a2 : Option Addr) (l2 c2 : Nat) (τ0 τ1 τ2 : TypeId) (u0 u1 u2 : Value) (w : World) : Calls Tryd.prog 94 #[.agg #[.int .i64 n]] w fun e w' => e = .returned (.slice none 0 0) ∧ Below w.heap.size w w' := by
  go_enter Tryd.func94, Tryd.ntmps94
  go_wp2_with fail
  go_ret
  exact ⟨rfl, by first | exact Below.refl _ _ | exact (Below.refl _ _).alloc (Nat.le_refl _) _⟩

theorem parts_3 (s z : ByteArray) (nd n tK tN : Int) (a1 : Option Addr) (l1 c1 : Nat) (a2 : Option Addr) (l2 c2 : Nat) (τ0 τ1 τ2 : TypeId) (u0 u1 u2 : Value) (w : World) : Calls Tryd.prog 95 #[.agg #[.string s, .slice a2 l2 c2]] w fun e w' => e = .returned (.slice none 0 0) ∧ Below w.heap.size w w' := by
  go_enter Tryd.func95, Tryd.ntmps95
  go_wp2_with fail
  go_ret
  exact ⟨rfl, by first | exact Below.refl _ _ | exact (Below.refl _ _).alloc (Nat.le_refl _) _⟩

theorem parts_4 (s z : ByteArray) (nd n tK tN : Int) (a1 : Option Addr) (l1 c1 : Nat) (a2 : Option Addr) (l2 c2 : Nat) (τ0 τ1 τ2 : TypeId) (u0 u1 u2 : Value) (w : World) : Calls Tryd.prog 96 #[.agg #[.int .i64 nd, .string s, .int .i64 tK, .int .i64 tN, .slice a1 l1 c1, .iface τ0 u0]] w fun e w' => ∃ g, e = .returned (.slice (some ⟨g, 0, none⟩) 1 1) ∧ Below w.heap.size w w' ∧ w.heap.size ≤ g ∧ w'.heap[g]? = some (.cells #[.iface τ0 u0] 50 (0, 0)) := by
  go_enter Tryd.func96, Tryd.ntmps96
  go_wp2_with fail
  go_ret
  exact ⟨_, rfl, ((Below.refl _ _).alloc (Nat.le_refl _) _).alloc (by simp) _, by omega, heap_new (by simp)⟩

theorem parts_5 (s z : ByteArray) (nd n tK tN : Int) (a1 : Option Addr) (l1 c1 : Nat) (a2 : Option Addr) (l2 c2 : Nat) (τ0 τ1 τ2 : TypeId) (u0 u1 u2 : Value) (w : World) : Calls Tryd.prog 97 #[.agg #[.int .i64 nd, .iface τ0 u0, .iface τ1 u1]] w fun e w' => ∃ g, e = .returned (.slice (some ⟨g, 0, none⟩) 2 2) ∧ Below w.heap.size w w' ∧ w.heap.size ≤ g ∧ w'.heap[g]? = some (.cells #[.iface τ0 u0, .iface τ1 u1] 50 (0, 0)) := by
  go_enter Tryd.func97, Tryd.ntmps97
  go_wp2_with fail
  go_ret
  exact ⟨_, rfl, ((Below.refl _ _).alloc (Nat.le_refl _) _).alloc (by simp) _, by omega, heap_new (by simp)⟩

theorem parts_6 (s z : ByteArray) (nd n tK tN : Int) (a1 : Option Addr) (l1 c1 : Nat) (a2 : Option Addr) (l2 c2 : Nat) (τ0 τ1 τ2 : TypeId) (u0 u1 u2 : Value) (w : World) : Calls Tryd.prog 98 #[.agg #[.string s, .int .i64 n, .iface τ0 u0, .iface τ1 u1]] w fun e w' => ∃ g, e = .returned (.slice (some ⟨g, 0, none⟩) 2 2) ∧ Below w.heap.size w w' ∧ w.heap.size ≤ g ∧ w'.heap[g]? = some (.cells #[.iface τ0 u0, .iface τ1 u1] 50 (0, 0)) := by
  go_enter Tryd.func98, Tryd.ntmps98
  go_wp2_with fail
  go_ret
  exact ⟨_, rfl, ((Below.refl _ _).alloc (Nat.le_refl _) _).alloc (by simp) _, by omega, heap_new (by simp)⟩

theorem parts_7 (s z : ByteArray) (nd n tK tN : Int) (a1 : Option Addr) (l1 c1 : Nat) (a2 : Option Addr) (l2 c2 : Nat) (τ0 τ1 τ2 : TypeId) (u0 u1 u2 : Value) (w : World) : Calls Tryd.prog 99 #[.agg #[.string s, .int .i64 n, .int .i64 tK, .int .i64 tN, .slice a1 l1 c1, .iface τ0 u0, .iface τ1 u1]] w fun e w' => ∃ g, e = .returned (.slice (some ⟨g, 0, none⟩) 2 2) ∧ Below w.heap.size w w' ∧ w.heap.size ≤ g ∧ w'.heap[g]? = some (.cells #[.iface τ0 u0, .iface τ1 u1] 50 (0, 0)) := by
  go_enter Tryd.func99, Tryd.ntmps99
  go_wp2_with fail
  go_ret
  exact ⟨_, rfl, ((Below.refl _ _).alloc (Nat.le_refl _) _).alloc (by simp) _, by omega, heap_new (by simp)⟩

theorem parts_8 (s z : ByteArray) (nd n tK tN : Int) (a1 : Option Addr) (l1 c1 : Nat) (a2 : Option Addr) (l2 c2 : Nat) (τ0 τ1 τ2 : TypeId) (u0 u1 u2 : Value) (w : World) : Calls Tryd.prog 100 #[.agg #[.iface τ0 u0, .iface τ1 u1, .iface τ2 u2]] w fun e w' => ∃ g, e = .returned (.slice (some ⟨g, 0, none⟩) 3 3) ∧ Below w.heap.size w w' ∧ w.heap.size ≤ g ∧ w'.heap[g]? = some (.cells #[.iface τ0 u0, .iface τ1 u1, .iface τ2 u2] 50 (0, 0)) := by
  go_enter Tryd.func100, Tryd.ntmps100
  go_wp2_with fail
  go_ret
  exact ⟨_, rfl, ((Below.refl _ _).alloc (Nat.le_refl _) _).alloc (by simp) _, by omega, heap_new (by simp)⟩

theorem parts_9 (s z : ByteArray) (nd n tK tN : Int) (a1 : Option Addr) (l1 c1 : Nat) (a2 : Option Addr) (l2 c2 : Nat) (τ0 τ1 τ2 : TypeId) (u0 u1 u2 : Value) (w : World) : Calls Tryd.prog 101 #[.agg #[.iface τ0 u0, .iface τ1 u1]] w fun e w' => ∃ g, e = .returned (.slice (some ⟨g, 0, none⟩) 2 2) ∧ Below w.heap.size w w' ∧ w.heap.size ≤ g ∧ w'.heap[g]? = some (.cells #[.iface τ0 u0, .iface τ1 u1] 50 (0, 0)) := by
  go_enter Tryd.func101, Tryd.ntmps101
  go_wp2_with fail
  go_ret
  exact ⟨_, rfl, ((Below.refl _ _).alloc (Nat.le_refl _) _).alloc (by simp) _, by omega, heap_new (by simp)⟩

theorem parts_10 (s z : ByteArray) (nd n tK tN : Int) (a1 : Option Addr) (l1 c1 : Nat) (a2 : Option Addr) (l2 c2 : Nat) (τ0 τ1 τ2 : TypeId) (u0 u1 u2 : Value) (w : World) : Calls Tryd.prog 102 #[.agg #[.iface τ0 u0]] w fun e w' => ∃ g, e = .returned (.slice (some ⟨g, 0, none⟩) 1 1) ∧ Below w.heap.size w w' ∧ w.heap.size ≤ g ∧ w'.heap[g]? = some (.cells #[.iface τ0 u0] 50 (0, 0)) := by
  go_enter Tryd.func102, Tryd.ntmps102
  go_wp2_with fail
  go_ret
  exact ⟨_, rfl, ((Below.refl _ _).alloc (Nat.le_refl _) _).alloc (by simp) _, by omega, heap_new (by simp)⟩

theorem parts_11 (s z : ByteArray) (nd n tK tN : Int) (a1 : Option Addr) (l1 c1 : Nat) (a2 : Option Addr) (l2 c2 : Nat) (τ0 τ1 τ2 : TypeId) (u0 u1 u2 : Value) (w : World) : Calls Tryd.prog 103 #[.agg #[.iface τ0 u0]] w fun e w' => ∃ g, e = .returned (.slice (some ⟨g, 0, none⟩) 1 1) ∧ Below w.heap.size w w' ∧ w.heap.size ≤ g ∧ w'.heap[g]? = some (.cells #[.iface τ0 u0] 50 (0, 0)) := by
  go_enter Tryd.func103, Tryd.ntmps103
  go_wp2_with fail
  go_ret
  exact ⟨_, rfl, ((Below.refl _ _).alloc (Nat.le_refl _) _).alloc (by simp) _, by omega, heap_new (by simp)⟩

theorem parts_12 (s z : ByteArray) (nd n tK tN : Int) (a1 : Option Addr) (l1 c1 : Nat) (a2 : Option Addr) (l2 c2 : Nat) (τ0 τ1 τ2 : TypeId) (u0 u1 u2 : Value) (w : World) : Calls Tryd.prog 104 #[.agg #[.int .i64 tK, .int .i64 tN, .slice a1 l1 c1]] w fun e w' => e = .returned (.slice none 0 0) ∧ Below w.heap.size w w' := by
  go_enter Tryd.func104, Tryd.ntmps104
  go_wp2_with fail
  go_ret
  exact ⟨rfl, by first | exact Below.refl _ _ | exact (Below.refl _ _).alloc (Nat.le_refl _) _⟩

theorem parts_13 (s z : ByteArray) (nd n tK tN : Int) (a1 : Option Addr) (l1 c1 : Nat) (a2 : Option Addr) (l2 c2 : Nat) (τ0 τ1 τ2 : TypeId) (u0 u1 u2 : Value) (w : World) : Calls Tryd.prog 105 #[.agg #[.iface τ0 u0, .iface τ1 u1]] w fun e w' => ∃ g, e = .returned (.slice (some ⟨g, 0, none⟩) 2 2) ∧ Below w.heap.size w w' ∧ w.heap.size ≤ g ∧ w'.heap[g]? = some (.cells #[.iface τ0 u0, .iface τ1 u1] 50 (0, 0)) := by
  go_enter Tryd.func105, Tryd.ntmps105
  go_wp2_with fail
  go_ret
  exact ⟨_, rfl, ((Below.refl _ _).alloc (Nat.le_refl _) _).alloc (by simp) _, by omega, heap_new (by simp)⟩

theorem parts_14 (s z : ByteArray) (nd n tK tN : Int) (a1 : Option Addr) (l1 c1 : Nat) (a2 : Option Addr) (l2 c2 : Nat) (τ0 τ1 τ2 : TypeId) (u0 u1 u2 : Value) (w : World) : Calls Tryd.prog 106 #[.agg #[.string s, .string z, .iface τ0 u0, .iface τ1 u1, .iface τ2 u2]] w fun e w' => ∃ g, e = .returned (.slice (some ⟨g, 0, none⟩) 3 3) ∧ Below w.heap.size w w' ∧ w.heap.size ≤ g ∧ w'.heap[g]? = some (.cells #[.iface τ0 u0, .iface τ1 u1, .iface τ2 u2] 50 (0, 0)) := by
  go_enter Tryd.func106, Tryd.ntmps106
  go_wp2_with fail
  go_ret
  exact ⟨_, rfl, ((Below.refl _ _).alloc (Nat.le_refl _) _).alloc (by simp) _, by omega, heap_new (by simp)⟩

theorem parts_15 (s z : ByteArray) (nd n tK tN : Int) (a1 : Option Addr) (l1 c1 : Nat) (a2 : Option Addr) (l2 c2 : Nat) (τ0 τ1 τ2 : TypeId) (u0 u1 u2 : Value) (w : World) : Calls Tryd.prog 107 #[.agg #[.int .i64 n, .iface τ0 u0, .iface τ1 u1]] w fun e w' => ∃ g, e = .returned (.slice (some ⟨g, 0, none⟩) 2 2) ∧ Below w.heap.size w w' ∧ w.heap.size ≤ g ∧ w'.heap[g]? = some (.cells #[.iface τ0 u0, .iface τ1 u1] 50 (0, 0)) := by
  go_enter Tryd.func107, Tryd.ntmps107
  go_wp2_with fail
  go_ret
  exact ⟨_, rfl, ((Below.refl _ _).alloc (Nat.le_refl _) _).alloc (by simp) _, by omega, heap_new (by simp)⟩

theorem parts_16 (s z : ByteArray) (nd n tK tN : Int) (a1 : Option Addr) (l1 c1 : Nat) (a2 : Option Addr) (l2 c2 : Nat) (τ0 τ1 τ2 : TypeId) (u0 u1 u2 : Value) (w : World) : Calls Tryd.prog 108 #[.agg #[.int .i64 tK, .int .i64 tN, .slice a1 l1 c1, .iface τ0 u0]] w fun e w' => ∃ g, e = .returned (.slice (some ⟨g, 0, none⟩) 1 1) ∧ Below w.heap.size w w' ∧ w.heap.size ≤ g ∧ w'.heap[g]? = some (.cells #[.iface τ0 u0] 50 (0, 0)) := by
  go_enter Tryd.func108, Tryd.ntmps108
  go_wp2_with fail
  go_ret
  exact ⟨_, rfl, ((Below.refl _ _).alloc (Nat.le_refl _) _).alloc (by simp) _, by omega, heap_new (by simp)⟩

theorem parts_17 (s z : ByteArray) (nd n tK tN : Int) (a1 : Option Addr) (l1 c1 : Nat) (a2 : Option Addr) (l2 c2 : Nat) (τ0 τ1 τ2 : TypeId) (u0 u1 u2 : Value) (w : World) : Calls Tryd.prog 109 #[.agg #[.string s, .iface τ0 u0, .iface τ1 u1]] w fun e w' => ∃ g, e = .returned (.slice (some ⟨g, 0, none⟩) 2 2) ∧ Below w.heap.size w w' ∧ w.heap.size ≤ g ∧ w'.heap[g]? = some (.cells #[.iface τ0 u0, .iface τ1 u1] 50 (0, 0)) := by
  go_enter Tryd.func109, Tryd.ntmps109
  go_wp2_with fail
  go_ret
  exact ⟨_, rfl, ((Below.refl _ _).alloc (Nat.le_refl _) _).alloc (by simp) _, by omega, heap_new (by simp)⟩

end Go.Proofs.YtjikcckggifinaaDoor
