/-
  What 'szIns', 'toIns', 'eqIns' and those of rows and pieces come to.
-/
import Derived.Test.YtchdmpipfmedaaaIn
import Derived.Deep.RegionWith
namespace Go.Proofs.Ytchdmpipfmedaaa
open Go.RowKit
set_option linter.unusedVariables false
set_option linter.unusedSimpArgs false

/-- An instruction's value. -/
abbrev vI (i : Insn) (ao : Option Addr) (len cap : Nat) : Value := .agg #[.int .i64 i.Op, .int .i64 i.D, .int .i64 i.X, .int .i64 i.Y, .int .i64 i.N, .slice ao len cap, .int .i64 i.To]
abbrev vP (p : Pc) (ao : Option Addr) (len cap : Nat) : Value := .agg #[.int .i64 p.Lam, .int .i64 p.In, .int .i64 p.Regs, .slice ao len cap]

set_option maxHeartbeats 400000 in
theorem szIns_any (L B : Nat) (i : Insn) (ao : Option Addr) (len cap : Nat) (left : Int) (w : World) (hs : Is L B w ao len i.L) (h1 : 0 ≤ left) (h2 : left ≤ 1048576) :
    Calls Try.prog 18 #[vI i ao len cap, .int .i64 left] w fun e w' => e = .returned (.int .i64 (szN (cI i) left)) ∧ Below w.heap.size w w' := by
  have hl := hs.2.1
  have HL : Hid (len = cI i) := hs.1
  by_cases hc : (len : Int) ≤ left
  · go_enter Try.func18, Try.ntmps18
    go_wp2_with fail
    refine (szIntS_any _ _ _ _ _ hl h1 h2).mono ?_
    rintro e w1 ⟨rfl, hb1⟩
    rw [szN_pos hc]
    go_wp2_with fail
    go_ret
    exact ⟨ret_int (by rw [← HL.out, szN_pos hc]), ((Below.refl _ _).alloc (Nat.le_refl _) _).trans (hb1.mono (by simp))⟩
  · go_enter Try.func18, Try.ntmps18
    go_wp2_with fail
    refine (szIntS_any _ _ _ _ _ hl h1 h2).mono ?_
    rintro e w1 ⟨rfl, hb1⟩
    rw [szN_neg (by omega)]
    go_wp2_with fail
    go_ret
    exact ⟨ret_int (by rw [← HL.out, szN_neg (by omega)]), ((Below.refl _ _).alloc (Nat.le_refl _) _).trans (hb1.mono (by simp))⟩

theorem cells7 {w : World} {b : Nat} {x0 x1 x2 x3 x4 x5 x6 : Value} {t : TypeId} {fr : Nat × Nat} (h : w.heap[b]? = some (.cells #[x0, x1, x2, x3, x4, x5, x6] t fr)) :
    w.cell? ⟨b, 0, none⟩ = some x0 ∧ w.cell? ⟨b, 1, none⟩ = some x1 ∧ w.cell? ⟨b, 2, none⟩ = some x2 ∧ w.cell? ⟨b, 3, none⟩ = some x3 ∧ w.cell? ⟨b, 4, none⟩ = some x4 ∧ w.cell? ⟨b, 5, none⟩ = some x5 ∧ w.cell? ⟨b, 6, none⟩ = some x6 :=
  ⟨row_cell h 0, row_cell h 1, row_cell h 2, row_cell h 3, row_cell h 4, row_cell h 5, row_cell h 6⟩

set_option maxHeartbeats 400000 in
theorem toIns_any (L B : Nat) (i : Insn) (ao : Option Addr) (len cap : Nat) (w : World) (hB : B ≤ w.heap.size) (hs : Is L B w ao len i.L) (hl : len ≤ 1048576) :
    Calls Try.prog 20 #[vI i ao len cap] w fun e w' => ∃ g, e = .returned (vI i (some ⟨g, 0, none⟩) len len) ∧ Below w.heap.size w w' ∧ Is w.heap.size w'.heap.size w' (some ⟨g, 0, none⟩) len i.L := by
  obtain ⟨X, hX⟩ : ∃ X, X = (((w.alloc (.cells #[.int .i64 i.Op, .int .i64 i.D, .int .i64 i.X, .int .i64 i.Y, .int .i64 i.N, .slice ao len cap, .int .i64 i.To] 38)).alloc (.cells #[.int .i64 0, .int .i64 0, .int .i64 0, .int .i64 0, .int .i64 0, .slice none 0 0, .int .i64 0] 41)).alloc (.cells #[.int .i64 i.Op, .int .i64 i.D, .int .i64 i.X, .int .i64 i.Y, .int .i64 i.N, .slice none 0 0, .int .i64 0] 41)) := ⟨_, rfl⟩
  have hXs : X.heap.size = w.heap.size + 3 := by rw [hX]; simp
  have hXb : Below w.heap.size w X := by rw [hX]; exact (((Below.refl _ _).alloc (Nat.le_refl _) _).alloc (by simp) _).alloc (by simp; omega) _
  have hX0 : X.heap[w.heap.size]? = some (.cells #[.int .i64 i.Op, .int .i64 i.D, .int .i64 i.X, .int .i64 i.Y, .int .i64 i.N, .slice ao len cap, .int .i64 i.To] 38 (0, 0)) := by
    rw [hX, Below.heap_alloc _ _ _ (by simp; omega), Below.heap_alloc _ _ _ (by simp)]; exact heap_new (by simp)
  have hX1 : X.heap[w.heap.size + 1]? = some (.cells #[.int .i64 0, .int .i64 0, .int .i64 0, .int .i64 0, .int .i64 0, .slice none 0 0, .int .i64 0] 41 (0, 0)) := by
    rw [hX, Below.heap_alloc _ _ _ (by simp)]; exact heap_new (by simp)
  have hX2 : X.heap[w.heap.size + 1 + 1]? = some (.cells #[.int .i64 i.Op, .int .i64 i.D, .int .i64 i.X, .int .i64 i.Y, .int .i64 i.N, .slice none 0 0, .int .i64 0] 41 (0, 0)) := by
    rw [hX]; exact heap_new (by simp)
  have hs1 := hs.below hXb hB
  have HX : Hid (X = _) := hX
  clear hX
  go_enter Try.func20, Try.ntmps20
  go_wp2_with fail
  rw [← HX.out]
  refine (toIntS_any _ _ _ _ _ _ _ (by omega) hs1 hl).mono ?_
  rintro e w1 ⟨g, rfl, hb1, hs2⟩
  have hw1 := hb1.size
  obtain ⟨a0, a1, a2, a3, a4, a5, a6⟩ := cells7 ((hb1.block _ (by omega)).trans hX0)
  have y1 := (hb1.block _ (by omega)).trans hX1
  have y2 := (hb1.block _ (by omega)).trans hX2
  obtain ⟨b0, b1, b2, b3, b4, b5, b6⟩ := cells7 y1
  obtain ⟨c0, c1, c2, c3, c4, c5, c6⟩ := cells7 y2
  have r1 := row_free y1
  have r2 := row_free y2
  have hbel : Below w.heap.size w w1 := hXb.trans (hb1.mono (by omega))
  have hXw : w.heap.size ≤ X.heap.size := by omega
  clear hX0 hX1 hX2 y1 y2 hXb
  go_wp2_with fail
  have key : ∀ Y, Y = setL ((w1.setCell ⟨w.heap.size + 1 + 1, 5, none⟩ (.slice (some ⟨g, 0, none⟩) len len)).setCell ⟨w.heap.size + 1 + 1, 6, none⟩ (.int .i64 i.To)) (w.heap.size + 1) 0 [.int .i64 i.Op, .int .i64 i.D, .int .i64 i.X, .int .i64 i.Y, .int .i64 i.N, .slice (some ⟨g, 0, none⟩) len len, .int .i64 i.To] → Below w.heap.size w Y ∧ Is w.heap.size Y.heap.size Y (some ⟨g, 0, none⟩) len i.L := by
    rintro Y rfl
    refine ⟨setL_below (Nat.le_succ _) _ _ _ ((hbel.setCell (p := ⟨w.heap.size + 1 + 1, 5, none⟩) (by show w.heap.size ≤ w.heap.size + 1 + 1; omega) _).setCell (p := ⟨w.heap.size + 1 + 1, 6, none⟩) (by show w.heap.size ≤ w.heap.size + 1 + 1; omega) _), ?_⟩
    refine hs2.keep (fun j hj _ => ?_) hXw (by rw [setL_size]; simp)
    rw [setL_other (by omega), row_other _ _ _ (by omega), row_other _ _ _ (by omega)]
  refine bodyPost_ret (v := vI i (some ⟨g, 0, none⟩) len len) (by simp [results, Try.results20, go_sem, b0, b1, b2, b3, b4, b5, b6]) rfl ⟨g, rfl, key _ rfl⟩

set_option maxHeartbeats 400000 in
theorem eqIns_any (L B L' B' : Nat) (i : Insn) (ao : Option Addr) (len cap : Nat) (ao' : Option Addr) (len' cap' : Nat) (w : World) (hB : B ≤ w.heap.size) (hB' : B' ≤ w.heap.size) (hs : Is L B w ao len i.L) (hs' : Is L' B' w ao' len' i.L) :
    Calls Try.prog 22 #[vI i ao len cap, vI i ao' len' cap'] w fun e w' => e = .returned (.bool true) ∧ Below w.heap.size w w' := by
  obtain ⟨X, hX⟩ : ∃ X, X = ((w.alloc (.cells #[.int .i64 i.Op, .int .i64 i.D, .int .i64 i.X, .int .i64 i.Y, .int .i64 i.N, .slice ao len cap, .int .i64 i.To] 41)).alloc (.cells #[.int .i64 i.Op, .int .i64 i.D, .int .i64 i.X, .int .i64 i.Y, .int .i64 i.N, .slice ao' len' cap', .int .i64 i.To] 41)) := ⟨_, rfl⟩
  have hXs : X.heap.size = w.heap.size + 2 := by rw [hX]; simp
  have hb : Below w.heap.size w X := by rw [hX]; exact ((Below.refl _ _).alloc (Nat.le_refl _) _).alloc (by simp) _
  have hX0 : X.heap[w.heap.size]? = some (.cells #[.int .i64 i.Op, .int .i64 i.D, .int .i64 i.X, .int .i64 i.Y, .int .i64 i.N, .slice ao len cap, .int .i64 i.To] 41 (0, 0)) := by
    rw [hX, Below.heap_alloc _ _ _ (by simp)]; exact heap_new (by simp)
  have hX1 : X.heap[w.heap.size + 1]? = some (.cells #[.int .i64 i.Op, .int .i64 i.D, .int .i64 i.X, .int .i64 i.Y, .int .i64 i.N, .slice ao' len' cap', .int .i64 i.To] 41 (0, 0)) := by
    rw [hX]; exact heap_new (by simp)
  have hs1 := hs.below hb hB
  have hs1' := hs'.below hb hB'
  have HX : Hid (X = _) := hX
  clear hX
  go_enter Try.func22, Try.ntmps22
  go_wp2_with fail
  rw [← HX.out]
  refine (eqIntS_any _ _ _ _ _ _ _ _ _ _ _ _ (by omega) (by omega) hs1 hs1').mono ?_
  rintro e w1 ⟨rfl, hb1⟩
  have hw1 := hb1.size
  obtain ⟨_, _, _, _, _, _, a6⟩ := cells7 ((hb1.block _ (by omega)).trans hX0)
  obtain ⟨_, _, _, _, _, _, b6⟩ := cells7 ((hb1.block _ (by omega)).trans hX1)
  go_wp2_with fail

  go_ret
  exact ⟨rfl, hb.trans (hb1.mono (by omega))⟩

end Go.Proofs.Ytchdmpipfmedaaa
