/-
  The law FnExactGuard's walk: whatever piece lies in memory, and whatever number, true.
-/
import Derived.Test.YtchdmpipfmedaaaGd2
import Derived.Test.YtchdmpipfmedaaaSGd
namespace Go.Proofs.Ytchdmpipfmedaaa
open Go.RowKit
set_option linter.unusedVariables false
set_option linter.unusedSimpArgs false

set_option maxRecDepth 100000 in
set_option maxHeartbeats 2000000 in
theorem law_guard (L B : Nat) (i : Pc) (ao : Option Addr) (len cap : Nat) (n : Int) (w : World) (hB : B ≤ w.heap.size) (hs : Iss L B w ao len i.Ins) (hok : okP i) (hn : in64 n) :
    Calls Try.prog 3 #[vP i ao len cap, .int .i64 n] w fun e w' => e = .returned (.bool true) ∧ Below w.heap.size w w' := by
  obtain ⟨X, hX⟩ : ∃ X, X = w.alloc (.cells #[.int .i64 i.Lam, .int .i64 i.In, .int .i64 i.Regs, .slice ao len cap] 24) := ⟨_, rfl⟩
  have hXs : X.heap.size = w.heap.size + 1 := by rw [hX]; simp
  have hXb : Below w.heap.size w X := by rw [hX]; exact (Below.refl _ _).alloc (Nat.le_refl _) _
  have hX1 : X.heap[w.heap.size]? = some (.cells #[.int .i64 i.Lam, .int .i64 i.In, .int .i64 i.Regs, .slice ao len cap] 24 (0, 0)) := by rw [hX]; exact heap_new rfl
  have hs1 := hs.below hXb hB
  have HX : Hid (X = _) := hX
  have HL : Hid (len = i.Ins.length) := hs.1
  clear hX
  by_cases hc : (cP i : Int) ≤ 1048576
  · have hcp : cP i ≤ 1048576 := by omega
    have hcn : len ≤ 1048576 := by have := HL.out; unfold cP at hcp; omega
    go_enter Try.func3, Try.ntmps3
    go_wp2_with fail
    rw [← HX.out]
    refine (szPiece_any L B i _ _ _ _ _ (by omega) hs1 (by omega) (by omega)).mono ?_
    rintro e w1 ⟨rfl, hb1⟩
    rw [szN_pos hc]
    have hz1 := hb1.size
    have hb1w : Below w.heap.size w w1 := hXb.trans (hb1.mono (by omega))
    have y1 := (hb1.block _ (by omega)).trans hX1
    obtain ⟨f0, f1, f2, f3⟩ := cells4 y1
    go_wp2_with fail
    refine (toPiece_any L B i _ _ _ _ (by omega) (hs.below hb1w hB) hcp).mono ?_
    rintro e w2 ⟨g2, rfl, hb2, hs2⟩
    have hz2 := hb2.size
    go_wp2_with fail
    refine (sGuard_any _ _ i _ _ _ n _ (Nat.le_refl _) hs2 hcn).mono ?_
    rintro e w3 ⟨rfl, hb3⟩
    have hz3 := hb3.size
    have hb3w : Below w.heap.size w w3 := (hb1w.trans (hb2.mono (by omega))).trans (hb3.mono (by omega))
    have y3 := (hb3.block _ (by omega)).trans ((hb2.block _ (by omega)).trans y1)
    clear f0 f1 f2 f3
    obtain ⟨f0, f1, f2, f3⟩ := cells4 y3
    go_wp2_with fail
    refine (toPiece_any L B i _ _ _ _ (by omega) (hs.below hb3w hB) hcp).mono ?_
    rintro e w4 ⟨g4, rfl, hb4, hs4⟩
    have hz4 := hb4.size
    go_wp2_with fail
    have hb4a : Below w4.heap.size w4 (w4.alloc (.cells #[.int .i64 i.Lam, .int .i64 i.In, .int .i64 i.Regs, .slice (some ⟨g4, 0, none⟩) len len] 29)) := (Below.refl _ _).alloc (Nat.le_refl _) _
    have hs4a := hs4.below hb4a (Nat.le_refl _)
    refine (guard_any _ _ i _ _ _ n _ (by simp) hs4a hcn (Nat.le_refl _)).mono ?_
    rintro e w5 ⟨rfl, hb5⟩
    have hz5 := hb5.size
    simp only [World.size_alloc] at hz5
    have hb5w : Below w.heap.size w w5 := ((hb3w.trans (hb4.mono (by omega))).trans (hb4a.mono (by omega))).trans (hb5.mono (by simp; omega))
    have y5 := (hb5.block w.heap.size (by simp; omega)).trans ((hb4a.block _ (by omega)).trans ((hb4.block _ (by omega)).trans y3))
    have x5 : w5.heap[w4.heap.size]? = _ := (hb5.block w4.heap.size (by simp)).trans (heap_new rfl)
    clear f0 f1 f2 f3
    obtain ⟨p0, p1, p2, p3⟩ := cells4 y5
    obtain ⟨q0, q1, q2, q3⟩ := cells4 x5
    have hs5 := hs4a.below hb5 (by simp)
    have hs5' := hs.below hb5w hB
    generalize grdP i n = ok
    clear y1 y3 y5 x5 hs4 hs4a hs2 hX1
    go_wp2_with fail
    go_region_with (first
      | (go_at_call 9; refine (toPiece_any L B i _ _ _ _ ?_ ?_ ?_).mono ?_; (show B ≤ w5.heap.size; omega); exact hs5'.drew; exact hcp; rintro e w6 ⟨g6, rfl, hb6, hs6⟩; have k0 : w6.cell? ⟨w4.heap.size, 0, none⟩ = _ := (bcell hb6 hz5 0).trans q0; have k1 : w6.cell? ⟨w4.heap.size, 1, none⟩ = _ := (bcell hb6 hz5 1).trans q1; have k2 : w6.cell? ⟨w4.heap.size, 2, none⟩ = _ := (bcell hb6 hz5 2).trans q2; have k3 : w6.cell? ⟨w4.heap.size, 3, none⟩ = _ := (bcell hb6 hz5 3).trans q3)
      | (go_at_call 11; refine (eqPiece_any _ _ _ _ i _ _ _ _ _ _ _ ?_ ?_ (hs5.drew.below hb6 (show w4.heap.size ≤ w5.heap.size by omega)) hs6).mono ?_; (have h6 : w5.heap.size ≤ w6.heap.size := hb6.size; (show w4.heap.size ≤ w6.heap.size); omega); exact Nat.le_refl _; rintro e w7 ⟨rfl, hb7⟩))
    all_goals
      have hb7w : Below w.heap.size w w7 := (hb5w.drew.trans (hb6.mono hb5w.size)).trans (hb7.mono (Nat.le_trans hb5w.size hb6.size))
      go_wp2_with fail
      go_ret
      exact ⟨rfl, hb7w⟩
  · go_enter Try.func3, Try.ntmps3
    go_wp2_with fail
    rw [← HX.out]
    refine (szPiece_any L B i _ _ _ _ _ (by omega) hs1 (by omega) (by omega)).mono ?_
    rintro e w1 ⟨rfl, hb1⟩
    rw [szN_neg (by omega)]
    go_wp2_with fail
    go_ret
    exact ⟨rfl, hXb.trans (hb1.mono (by omega))⟩

end Go.Proofs.Ytchdmpipfmedaaa
