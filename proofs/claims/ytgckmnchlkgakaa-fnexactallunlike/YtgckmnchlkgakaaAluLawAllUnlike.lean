/-
  The law FnExactAllUnlike's walk: whatever term lies in memory, true.
-/
import Derived.Test.YtgckmnchlkgakaaAluAu
import Derived.Test.YtgckmnchlkgakaaAluSzM
import Derived.Test.YtgckmnchlkgakaaAluToM
import Derived.Test.YtgckmnchlkgakaaAluEqM
namespace Go.Proofs.Ytgckmnchlkgakaa
open Go.RowKit
set_option linter.unusedVariables false
set_option linter.unusedSimpArgs false

set_option maxHeartbeats 1000000 in
theorem law_allUnlike (D d L B : Nat) (t : Tm) (a1 : Option Addr) (l1 c1 : Nat) (a2 : Option Addr) (l2 c2 : Nat) (a3 : Option Addr) (l3 c3 : Nat) (w : World) (hB : B ≤ w.heap.size) (hf : Fm L B w D d t a1 l1 a2 l2 a3 l3) :
    Calls Try.prog 4 #[.agg #[.int .i64 t.K, .int .i64 t.N, .string t.S, .string t.Z, .int .i64 t.T.K, .int .i64 t.T.N, .slice a1 l1 c1, .slice a2 l2 c2, .slice a3 l3 c3]] w fun e w' => e = .returned (.bool true) ∧ Below w.heap.size w w' := by
  obtain ⟨X, hX⟩ : ∃ X, X = w.alloc (.cells #[.int .i64 t.K, .int .i64 t.N, .string t.S, .string t.Z, .int .i64 t.T.K, .int .i64 t.T.N, .slice a1 l1 c1, .slice a2 l2 c2, .slice a3 l3 c3] 27) := ⟨_, rfl⟩
  have hXs : X.heap.size = w.heap.size + 1 := by rw [hX]; simp
  have hXb : Below w.heap.size w X := by rw [hX]; exact (Below.refl _ _).alloc (Nat.le_refl _) _
  have hX1 : X.heap[w.heap.size]? = some (.cells #[.int .i64 t.K, .int .i64 t.N, .string t.S, .string t.Z, .int .i64 t.T.K, .int .i64 t.T.N, .slice a1 l1 c1, .slice a2 l2 c2, .slice a3 l3 c3] 27 (0, 0)) := by rw [hX]; exact heap_new rfl
  have hf1 := Fm.below hXb hB hf
  have HX : Hid (X = _) := hX
  clear hX
  by_cases hc : (cntM t : Int) ≤ 1048576
  · have hcn : cntM t ≤ 1048576 := by omega
    go_enter Try.func4, Try.ntmps4
    go_wp2_with fail
    rw [← HX.out]
    refine (szTerm_any D d L B t _ _ _ _ _ _ _ _ _ _ _ (by omega) hf1 (by omega) (by omega)).mono ?_
    rintro e w1 ⟨rfl, hb1⟩
    rw [szN_pos hc]
    have hz1 := hb1.size
    have hb1w : Below w.heap.size w w1 := hXb.trans (hb1.mono (by omega))
    have y1 := (hb1.block _ (by omega)).trans hX1
    obtain ⟨f0, f1, f2, f3, f4, f5, f6, f7, f8⟩ := Nine.box y1
    go_wp2_with fail
    refine (toTerm_any D d L B t _ _ _ _ _ _ _ _ _ _ (by omega) (Fm.below hb1w hB hf) hcn).mono ?_
    rintro e w2 ⟨g21, g22, g23, rfl, hb2, hs2⟩
    have hz2 := hb2.size
    go_wp2_with fail
    refine (sAllUnlike_any D d _ _ t _ _ _ _ _ _ _ _ _ _ (Nat.le_refl _) hs2).mono ?_
    rintro e w3 ⟨rfl, hb3⟩
    have hz3 := hb3.size
    have hb3w : Below w.heap.size w w3 := (hb1w.trans (hb2.mono (by omega))).trans (hb3.mono (by omega))
    have y3 := (hb3.block _ (by omega)).trans ((hb2.block _ (by omega)).trans y1)
    clear f0 f1 f2 f3 f4 f5 f6 f7 f8
    obtain ⟨f0, f1, f2, f3, f4, f5, f6, f7, f8⟩ := Nine.box y3
    go_wp2_with fail
    refine (toTerm_any D d L B t _ _ _ _ _ _ _ _ _ _ (by omega) (Fm.below hb3w hB hf) hcn).mono ?_
    rintro e w4 ⟨g41, g42, g43, rfl, hb4, hs4⟩
    have hz4 := hb4.size
    go_wp2_with fail
    have hb4a : Below w4.heap.size w4 (w4.alloc (.cells #[.int .i64 t.K, .int .i64 t.N, .string t.S, .string t.Z, .int .i64 t.T.K, .int .i64 t.T.N, .slice (some ⟨g41, 0, none⟩) l1 l1, .slice (some ⟨g42, 0, none⟩) l2 l2, .slice (some ⟨g43, 0, none⟩) l3 l3] 36)) := (Below.refl _ _).alloc (Nat.le_refl _) _
    have hs4a := Fm.below hb4a (Nat.le_refl _) hs4
    refine (allUnlike_any D d _ _ t _ _ _ _ _ _ _ _ _ _ (by simp) hs4a).mono ?_
    rintro e w5 ⟨rfl, hb5⟩
    have hz5 := hb5.size
    simp only [World.size_alloc] at hz5
    have hb5w : Below w.heap.size w w5 := ((hb3w.trans (hb4.mono (by omega))).trans (hb4a.mono (by omega))).trans (hb5.mono (by simp; omega))
    have y5 := (hb5.block w.heap.size (by simp; omega)).trans ((hb4a.block _ (by omega)).trans ((hb4.block _ (by omega)).trans y3))
    have x5 : w5.heap[w4.heap.size]? = _ := (hb5.block w4.heap.size (by simp)).trans (heap_new rfl)
    clear f0 f1 f2 f3 f4 f5 f6 f7 f8
    obtain ⟨p0, p1, p2, p3, p4, p5, p6, p7, p8⟩ := Nine.box y5
    obtain ⟨q0, q1, q2, q3, q4, q5, q6, q7, q8⟩ := Nine.box x5
    have hs5 := Fm.below hb5 (by simp) hs4a
    have hs5' := Fm.below hb5w hB hf
    generalize auM t = ok
    clear y1 y3 y5 x5 hs4 hs4a hs2 hX1
    go_wp2_with fail
    go_region_with (first
      | (go_at_call 10; refine (toTerm_any D d L B t _ _ _ _ _ _ _ _ _ _ ?_ ?_ ?_).mono ?_; (show B ≤ w5.heap.size; omega); exact Fm.drew hs5'; exact hcn; rintro e w6 ⟨g61, g62, g63, rfl, hb6, hs6⟩; have k0 : w6.cell? ⟨w4.heap.size, 0, none⟩ = _ := (bcell hb6 hz5 0).trans q0; have k1 : w6.cell? ⟨w4.heap.size, 1, none⟩ = _ := (bcell hb6 hz5 1).trans q1; have k2 : w6.cell? ⟨w4.heap.size, 2, none⟩ = _ := (bcell hb6 hz5 2).trans q2; have k3 : w6.cell? ⟨w4.heap.size, 3, none⟩ = _ := (bcell hb6 hz5 3).trans q3; have k4 : w6.cell? ⟨w4.heap.size, 4, none⟩ = _ := (bcell hb6 hz5 4).trans q4; have k5 : w6.cell? ⟨w4.heap.size, 5, none⟩ = _ := (bcell hb6 hz5 5).trans q5; have k6 : w6.cell? ⟨w4.heap.size, 6, none⟩ = _ := (bcell hb6 hz5 6).trans q6; have k7 : w6.cell? ⟨w4.heap.size, 7, none⟩ = _ := (bcell hb6 hz5 7).trans q7; have k8 : w6.cell? ⟨w4.heap.size, 8, none⟩ = _ := (bcell hb6 hz5 8).trans q8)
      | (go_at_call 13; refine (eqTerm_any D d _ _ _ _ t _ _ _ _ _ _ _ _ _ _ _ _ _ _ _ _ _ _ _ ?_ ?_ (Fm.below hb6 (show w4.heap.size ≤ w5.heap.size by omega) (Fm.drew hs5)) hs6).mono ?_; (have h6 : w5.heap.size ≤ w6.heap.size := hb6.size; (show w4.heap.size ≤ w6.heap.size); omega); exact Nat.le_refl _; rintro e w7 ⟨rfl, hb7⟩))
    all_goals
      have hb7w : Below w.heap.size w w7 := (hb5w.drew.trans (hb6.mono hb5w.size)).trans (hb7.mono (Nat.le_trans hb5w.size hb6.size))
      go_wp2_with fail
      go_ret
      exact ⟨rfl, hb7w⟩
  · go_enter Try.func4, Try.ntmps4
    go_wp2_with fail
    rw [← HX.out]
    refine (szTerm_any D d L B t _ _ _ _ _ _ _ _ _ _ _ (by omega) hf1 (by omega) (by omega)).mono ?_
    rintro e w1 ⟨rfl, hb1⟩
    rw [szN_neg (by omega)]
    go_wp2_with fail
    go_ret
    exact ⟨rfl, hXb.trans (hb1.mono (by omega))⟩

end Go.Proofs.Ytgckmnchlkgakaa
