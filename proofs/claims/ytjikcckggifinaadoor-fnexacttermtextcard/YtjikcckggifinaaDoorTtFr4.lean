/-
  What the program's 'formOf' comes to, by 'rebuilt'.
-/
import Derived.Test.YtjikcckggifinaaDoorTtFr3
namespace Go.Proofs.YtjikcckggifinaaDoor
open Go.RowKit
set_option linter.unusedVariables false
set_option linter.unusedSimpArgs false

/-- What 'formOf' answers of a term, in every world that goes on from w. -/
def SaidFo (l : Nat) : Prop := ∀ (D d L B : Nat) (t : Tm) (a1 : Option Addr) (l1 c1 : Nat) (a2 : Option Addr) (l2 c2 : Nat) (a3 : Option Addr) (l3 c3 : Nat) (m : Nat) (w : World), B ≤ w.heap.size → Fm L B w D d t a1 l1 a2 l2 a3 l3 → nodesM l t = some m → m ≤ 1000 →
    ∃ v, Fv L B w D l t v ∧ ∀ w', Below w.heap.size w w' → Calls Tryd.prog 20 #[.agg #[.int .i64 t.K, .int .i64 t.N, .string t.S, .string t.Z, .int .i64 t.T.K, .int .i64 t.T.N, .slice a1 l1 c1, .slice a2 l2 c2, .slice a3 l3 c3]] w' fun e w'' => e = .returned v ∧ Below w'.heap.size w' w''

set_option maxRecDepth 100000 in
set_option maxHeartbeats 1000000 in
theorem rebuilt_any (t : Tm) (a1 : Option Addr) (l1 c1 : Nat) (a2 : Option Addr) (l2 c2 : Nat) (a3 : Option Addr) (l3 c3 : Nat) (w w' : World) (m : Nat) (τ : TypeId) (u : Value) (hw : Below w.heap.size w w')
    (hcall : ∀ p X, w.heap.size ≤ p → Nx p w X 0 → Calls Tryd.prog 41 #[.agg #[.int .i64 t.K, .int .i64 t.N, .string t.S, .string t.Z, .int .i64 t.T.K, .int .i64 t.T.N, .slice a1 l1 c1, .slice a2 l2 c2, .slice a3 l3 c3], .pointer (some ⟨p, 0, none⟩), mdF] X fun e w'' => e = .returned (.iface τ u) ∧ Nx p X w'' (0 + m)) :
    Calls Tryd.prog 33 #[.agg #[.int .i64 t.K, .int .i64 t.N, .string t.S, .string t.Z, .int .i64 t.T.K, .int .i64 t.T.N, .slice a1 l1 c1, .slice a2 l2 c2, .slice a3 l3 c3], mdF] w' fun e w'' => e = .returned (.iface τ u) ∧ Below w'.heap.size w' w'' := by
  have hws := hw.size
  obtain ⟨X, hX⟩ : ∃ X, X = (w'.alloc (.cells #[.int .i64 t.K, .int .i64 t.N, .string t.S, .string t.Z, .int .i64 t.T.K, .int .i64 t.T.N, .slice a1 l1 c1, .slice a2 l2 c2, .slice a3 l3 c3] 35)).alloc (.cells #[.int .i64 0] 3) := ⟨_, rfl⟩
  have hXs : X.heap.size = w'.heap.size + 2 := by rw [hX]; simp
  have hXb : Below w'.heap.size w' X := by rw [hX]; exact ((Below.refl _ _).alloc (Nat.le_refl _) _).alloc (by simp) _
  have hXp : X.heap[w'.heap.size + 1]? = some (.cells #[.int .i64 0] 3 (0, 0)) := by rw [hX]; exact heap_new (by simp)
  have hNX : Nx (w'.heap.size + 1) w X 0 := ⟨Kf.of_below (hw.trans (hXb.mono hws)), hXp⟩
  have K := hcall (w'.heap.size + 1) X (by omega) hNX
  have HX : Hid (X = _) := hX
  clear hX hcall
  go_enter Tryd.func33, Tryd.ntmps33
  go_wp2_with fail
  rw [← HX.out]
  refine K.mono ?_
  rintro e w2 ⟨rfl, hN⟩
  have hb2 : Below w'.heap.size w' w2 := hXb.trans (hN.kf.below (fun k hk => by omega) (by omega))
  go_wp2_with fail
  go_ret
  exact ⟨rfl, hb2⟩

set_option maxRecDepth 100000 in
set_option maxHeartbeats 1000000 in
theorem fo_any (l : Nat) : SaidFo l := by
  intro D d L B t a1 l1 c1 a2 l2 c2 a3 l3 c3 m w hB hf hm hm6
  obtain ⟨V, hV, hcall⟩ := rb_any l D d L B t a1 l1 c1 a2 l2 c2 a3 l3 c3 m w hB hf hm
  refine ⟨V 0, hV 0, fun w' hw => ?_⟩
  obtain ⟨τ, u, hu⟩ := Fv.iface (hV 0)
  have K : ∀ Y, Below w'.heap.size w' Y → Calls Tryd.prog 33 #[.agg #[.int .i64 t.K, .int .i64 t.N, .string t.S, .string t.Z, .int .i64 t.T.K, .int .i64 t.T.N, .slice a1 l1 c1, .slice a2 l2 c2, .slice a3 l3 c3], mdF] Y fun e w'' => e = .returned (.iface τ u) ∧ Below Y.heap.size Y w'' := fun Y hY =>
    rebuilt_any t a1 l1 c1 a2 l2 c2 a3 l3 c3 w Y m τ u (hw.trans (hY.mono hw.size)) fun p X hp hX => by
      have := hcall p X 0 (by omega) hX (by omega) (by omega)
      rw [hu] at this
      exact this
  rw [hu]
  obtain ⟨X, hX⟩ : ∃ X, X = w'.alloc (.cells #[.int .i64 t.K, .int .i64 t.N, .string t.S, .string t.Z, .int .i64 t.T.K, .int .i64 t.T.N, .slice a1 l1 c1, .slice a2 l2 c2, .slice a3 l3 c3] 35) := ⟨_, rfl⟩
  have hXb : Below w'.heap.size w' X := by rw [hX]; exact (Below.refl _ _).alloc (Nat.le_refl _) _
  have KX := K X hXb
  have HX : Hid (X = _) := hX
  clear hX hcall hV hu K
  go_enter Tryd.func20, Tryd.ntmps20
  go_wp2_with fail
  rw [← HX.out]
  refine KX.mono ?_
  rintro e w2 ⟨rfl, hb⟩
  have hb2 : Below w'.heap.size w' w2 := hXb.trans (hb.mono hXb.size)
  go_wp2_with fail
  go_ret
  exact ⟨rfl, hb2⟩

end Go.Proofs.YtjikcckggifinaaDoor
