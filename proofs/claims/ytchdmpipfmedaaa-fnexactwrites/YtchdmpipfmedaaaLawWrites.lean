/-
  The law FnExactWrites's walk: whatever instruction lies in memory, true.
-/
import Derived.Test.YtchdmpipfmedaaaWt
namespace Go.Proofs.Ytchdmpipfmedaaa
open Go.RowKit
set_option linter.unusedVariables false
set_option linter.unusedSimpArgs false

set_option maxHeartbeats 1000000 in
theorem law_writes (L B : Nat) (i : Insn) (ao : Option Addr) (len cap : Nat) (w : World) (hB : B ≤ w.heap.size) (hs : Is L B w ao len i.L) (hok : okI i) :
    Calls Try.prog 6 #[vI i ao len cap] w fun e w' => e = .returned (.bool true) ∧ Below w.heap.size w w' := by
  obtain ⟨X, hX⟩ : ∃ X, X = w.alloc (.cells #[.int .i64 i.Op, .int .i64 i.D, .int .i64 i.X, .int .i64 i.Y, .int .i64 i.N, .slice ao len cap, .int .i64 i.To] 38) := ⟨_, rfl⟩
  have hXs : X.heap.size = w.heap.size + 1 := by rw [hX]; simp
  have hXb : Below w.heap.size w X := by rw [hX]; exact (Below.refl _ _).alloc (Nat.le_refl _) _
  have hX1 : X.heap[w.heap.size]? = some (.cells #[.int .i64 i.Op, .int .i64 i.D, .int .i64 i.X, .int .i64 i.Y, .int .i64 i.N, .slice ao len cap, .int .i64 i.To] 38 (0, 0)) := by rw [hX]; exact heap_new rfl
  have hs1 := hs.below hXb hB
  have HX : Hid (X = _) := hX
  have HL : Hid (len = cI i) := hs.1
  clear hX
  by_cases hc : (cI i : Int) ≤ 1048576
  · have hcn : len ≤ 1048576 := by have := HL.out; omega
    go_enter Try.func6, Try.ntmps6
    go_wp2_with fail
    rw [← HX.out]
    refine (szIns_any L B i _ _ _ _ _ hs1 (by omega) (by omega)).mono ?_
    rintro e w1 ⟨rfl, hb1⟩
    rw [szN_pos hc]
    have hz1 := hb1.size
    have hb1w : Below w.heap.size w w1 := hXb.trans (hb1.mono (by omega))
    have y1 := (hb1.block _ (by omega)).trans hX1
    obtain ⟨f0, f1, f2, f3, f4, f5, f6⟩ := cells7 y1
    go_wp2_with fail
    refine (toIns_any L B i _ _ _ _ (by omega) (hs.below hb1w hB) hcn).mono ?_
    rintro e w2 ⟨g2, rfl, hb2, hs2⟩
    have hz2 := hb2.size
    go_wp2_with fail
    refine (sWrites_any i _ _ _ _).mono ?_
    rintro e w3 ⟨rfl, hb3⟩
    have hz3 := hb3.size
    have hb3w : Below w.heap.size w w3 := (hb1w.trans (hb2.mono (by omega))).trans (hb3.mono (by omega))
    have y3 := (hb3.block _ (by omega)).trans ((hb2.block _ (by omega)).trans y1)
    clear f0 f1 f2 f3 f4 f5 f6
    obtain ⟨f0, f1, f2, f3, f4, f5, f6⟩ := cells7 y3
    go_wp2_with fail
    refine (toIns_any L B i _ _ _ _ (by omega) (hs.below hb3w hB) hcn).mono ?_
    rintro e w4 ⟨g4, rfl, hb4, hs4⟩
    have hz4 := hb4.size
    go_wp2_with fail
    have hb4a : Below w4.heap.size w4 (w4.alloc (.cells #[.int .i64 i.Op, .int .i64 i.D, .int .i64 i.X, .int .i64 i.Y, .int .i64 i.N, .slice (some ⟨g4, 0, none⟩) len len, .int .i64 i.To] 41)) := (Below.refl _ _).alloc (Nat.le_refl _) _
    have hs4a := hs4.below hb4a (Nat.le_refl _)
    refine (writes_any i _ _ _ _).mono ?_
    rintro e w5 ⟨rfl, hb5⟩
    have hz5 := hb5.size
    simp only [World.size_alloc] at hz5
    have hb5w : Below w.heap.size w w5 := ((hb3w.trans (hb4.mono (by omega))).trans (hb4a.mono (by omega))).trans (hb5.mono (by simp; omega))
    have y5 := (hb5.block w.heap.size (by simp; omega)).trans ((hb4a.block _ (by omega)).trans ((hb4.block _ (by omega)).trans y3))
    have x5 : w5.heap[w4.heap.size]? = _ := (hb5.block w4.heap.size (by simp)).trans (heap_new rfl)
    clear f0 f1 f2 f3 f4 f5 f6
    obtain ⟨p0, p1, p2, p3, p4, p5, p6⟩ := cells7 y5
    obtain ⟨q0, q1, q2, q3, q4, q5, q6⟩ := cells7 x5
    have hs5 := hs4a.below hb5 (by simp)
    have hs5' := hs.below hb5w hB
    generalize wrI i = ok
    clear y1 y3 y5 x5 hs4 hs4a hs2 hX1
    go_wp2_with fail
    go_region_with (first
      | (go_at_call 20; refine (toIns_any L B i _ _ _ _ ?_ ?_ ?_).mono ?_; (show B ≤ w5.heap.size; omega); exact hs5'.drew; exact hcn; rintro e w6 ⟨g6, rfl, hb6, hs6⟩; have k0 : w6.cell? ⟨w4.heap.size, 0, none⟩ = _ := (bcell hb6 hz5 0).trans q0; have k1 : w6.cell? ⟨w4.heap.size, 1, none⟩ = _ := (bcell hb6 hz5 1).trans q1; have k2 : w6.cell? ⟨w4.heap.size, 2, none⟩ = _ := (bcell hb6 hz5 2).trans q2; have k3 : w6.cell? ⟨w4.heap.size, 3, none⟩ = _ := (bcell hb6 hz5 3).trans q3; have k4 : w6.cell? ⟨w4.heap.size, 4, none⟩ = _ := (bcell hb6 hz5 4).trans q4; have k5 : w6.cell? ⟨w4.heap.size, 5, none⟩ = _ := (bcell hb6 hz5 5).trans q5; have k6 : w6.cell? ⟨w4.heap.size, 6, none⟩ = _ := (bcell hb6 hz5 6).trans q6)
      | (go_at_call 22; refine (eqIns_any _ _ _ _ i _ _ _ _ _ _ _ ?_ ?_ (hs5.drew.below hb6 (show w4.heap.size ≤ w5.heap.size by omega)) hs6).mono ?_; (have h6 : w5.heap.size ≤ w6.heap.size := hb6.size; (show w4.heap.size ≤ w6.heap.size); omega); exact Nat.le_refl _; rintro e w7 ⟨rfl, hb7⟩))
    all_goals
      have hb7w : Below w.heap.size w w7 := (hb5w.drew.trans (hb6.mono hb5w.size)).trans (hb7.mono (Nat.le_trans hb5w.size hb6.size))
      go_wp2_with fail
      go_ret
      exact ⟨rfl, hb7w⟩
  · go_enter Try.func6, Try.ntmps6
    go_wp2_with fail
    rw [← HX.out]
    refine (szIns_any L B i _ _ _ _ _ hs1 (by omega) (by omega)).mono ?_
    rintro e w1 ⟨rfl, hb1⟩
    rw [szN_neg (by omega)]
    go_wp2_with fail
    go_ret
    exact ⟨rfl, hXb.trans (hb1.mono (by omega))⟩

end Go.Proofs.Ytchdmpipfmedaaa
