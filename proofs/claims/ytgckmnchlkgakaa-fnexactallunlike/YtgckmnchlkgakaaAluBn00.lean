/-
  'namesIn', 'namesBy' of the program: the names that a term binds. (Written by mkbn1.py.)
-/
import Derived.Test.YtgckmnchlkgakaaAluBw
import Derived.Test.YtgckmnchlkgakaaAluLf10
namespace Go.Proofs.Ytgckmnchlkgakaa
open Go.RowKit
set_option linter.unusedVariables false
set_option linter.unusedSimpArgs false

/-- A row of names that is told: none, or a block of its own. -/
def NmE (w w' : World) (e : Ending) (N : List (List UInt8)) : Prop := ∃ xo c, e = .returned (.slice xo N.length c) ∧ Below w.heap.size w w' ∧ (0 < N.length → ∃ sb, xo = some ⟨sb, 0, none⟩ ∧ w.heap.size ≤ sb ∧ w'.heap[sb]? = some (.cells (N.map tk).toArray 9 (0, 0)))
theorem NmE.of_lit {w w' : World} {e : Ending} {N : List (List UInt8)} (h : LitE w w' e N) : NmE w w' e N := by
  obtain ⟨g, h1, h2, h3, h4⟩ := h
  exact ⟨_, _, h1, h2, fun _ => ⟨g, rfl, h3, h4⟩⟩
theorem nm_0 (w : World) (o : Obj) : NmE w (w.alloc o) (.returned (.slice none 0 0)) [] :=
  ⟨none, 0, rfl, (Below.refl _ _).alloc (Nat.le_refl _) _, fun h => by simp at h⟩

/-- The names that a term binds in its i-th part. -/
def nmI (k : Int) (s z : List UInt8) (i : Int) : List (List UInt8) := if k = 4 ∨ k = 7 ∨ (k = 6 ∧ i = 1) ∨ (k = 17 ∧ i = 1) then [s] else if k = 14 ∧ i = 2 then [s, z] else []

theorem nmI_own {t : Tm} (hn : nodeM t = true) : nmI t.K (bs t.S) (bs t.Z) ((t.A.length : Int) - 1) = ownB t := by
  obtain ⟨_, _, hl⟩ := nodeM_kinds hn
  unfold nmI ownB
  by_cases h4 : t.K = 4
  · simp [h4]
  by_cases h7 : t.K = 7
  · simp [h7]
  by_cases h6 : t.K = 6
  · rw [h6] at hl ⊢
    have : (t.A.length : Int) = 2 := hl
    simp [this]
  by_cases h17 : t.K = 17
  · rw [h17] at hl ⊢
    have : (t.A.length : Int) = 2 := hl
    simp [this]
  by_cases h14 : t.K = 14
  · rw [h14] at hl ⊢
    have : (t.A.length : Int) = 3 := hl
    simp [this]
  simp [h4, h7, h6, h17, h14]

set_option maxRecDepth 100000 in
set_option maxHeartbeats 2000000 in
theorem namesIn_any (t : Tm) (a1 : Option Addr) (l1 c1 : Nat) (a2 : Option Addr) (l2 c2 : Nat) (a3 : Option Addr) (l3 c3 : Nat) (i : Int) (w : World) :
    Calls Try.prog 61 #[.agg #[.int .i64 t.K, .int .i64 t.N, .string t.S, .string t.Z, .int .i64 t.T.K, .int .i64 t.T.N, .slice a1 l1 c1, .slice a2 l2 c2, .slice a3 l3 c3], .int .i64 i] w fun e w' => NmE w w' e (nmI t.K (bs t.S) (bs t.Z) i) := by
  by_cases h4 : t.K = 4
  · have HN : Hid (nmI t.K (bs t.S) (bs t.Z) i = [bs t.S]) := by show _ = _; simp [nmI, h4]
    rw [HN.out]
    go_enter Try.func61, Try.ntmps61
    go_wp2_with fail
    go_ret
    exact (NmE.of_lit (lit_1 _ _ _))
  by_cases h7 : t.K = 7
  · have HN : Hid (nmI t.K (bs t.S) (bs t.Z) i = [bs t.S]) := by show _ = _; simp [nmI, h7]
    rw [HN.out]
    go_enter Try.func61, Try.ntmps61
    go_wp2_with fail
    go_ret
    exact (NmE.of_lit (lit_1 _ _ _))
  by_cases h6 : t.K = 6
  · by_cases hi1 : i = 1
    · have HN : Hid (nmI t.K (bs t.S) (bs t.Z) i = [bs t.S]) := by show _ = _; simp [nmI, h6, hi1]
      have bi : (i == 1) = true := by simp [hi1]
      clear hi1
      rw [HN.out]
      go_enter Try.func61, Try.ntmps61
      go_wp2_with fail
      go_ret
      exact (NmE.of_lit (lit_1 _ _ _))
    · have HN : Hid (nmI t.K (bs t.S) (bs t.Z) i = []) := by show _ = _; simp [nmI, h6, hi1]
      have bi : (i == 1) = false := by rw [beq_eq_false_iff_ne]; exact hi1
      clear hi1
      rw [HN.out]
      go_enter Try.func61, Try.ntmps61
      go_wp2_with fail
      go_ret
      exact (nm_0 _ _)
  by_cases h17 : t.K = 17
  · by_cases hi1 : i = 1
    · have HN : Hid (nmI t.K (bs t.S) (bs t.Z) i = [bs t.S]) := by show _ = _; simp [nmI, h17, hi1]
      have bi : (i == 1) = true := by simp [hi1]
      clear hi1
      rw [HN.out]
      go_enter Try.func61, Try.ntmps61
      go_wp2_with fail
      go_ret
      exact (NmE.of_lit (lit_1 _ _ _))
    · have HN : Hid (nmI t.K (bs t.S) (bs t.Z) i = []) := by show _ = _; simp [nmI, h17, hi1]
      have bi : (i == 1) = false := by rw [beq_eq_false_iff_ne]; exact hi1
      clear hi1
      rw [HN.out]
      go_enter Try.func61, Try.ntmps61
      go_wp2_with fail
      go_ret
      exact (nm_0 _ _)
  by_cases h14 : t.K = 14
  · by_cases hi2 : i = 2
    · have HN : Hid (nmI t.K (bs t.S) (bs t.Z) i = [bs t.S, bs t.Z]) := by show _ = _; simp [nmI, h14, hi2]
      have bi : (i == 2) = true := by simp [hi2]
      clear hi2
      rw [HN.out]
      go_enter Try.func61, Try.ntmps61
      go_wp2_with fail
      go_ret
      exact (NmE.of_lit (lit_2 _ _ _ _))
    · have HN : Hid (nmI t.K (bs t.S) (bs t.Z) i = []) := by show _ = _; simp [nmI, h14, hi2]
      have bi : (i == 2) = false := by rw [beq_eq_false_iff_ne]; exact hi2
      clear hi2
      rw [HN.out]
      go_enter Try.func61, Try.ntmps61
      go_wp2_with fail
      go_ret
      exact (nm_0 _ _)
  have HN : Hid (nmI t.K (bs t.S) (bs t.Z) i = []) := by show _ = _; simp [nmI, h4, h7, h6, h17, h14]
  have b4 : (t.K == 4) = false := by simp [h4]
  have b7 : (t.K == 7) = false := by simp [h7]
  have b6 : (t.K == 6) = false := by simp [h6]
  have b17 : (t.K == 17) = false := by simp [h17]
  have b14 : (t.K == 14) = false := by simp [h14]
  clear h4 h7 h6 h17 h14
  rw [HN.out]
  go_enter Try.func61, Try.ntmps61
  go_wp2_with fail
  go_ret
  exact (nm_0 _ _)

end Go.Proofs.Ytgckmnchlkgakaa
