/-
  The law FnExactHeapOk's walk: whatever heap lies in memory, true.
-/
import Derived.Test.YtemcmckofkhjfaaHoaHq
import Derived.Test.YtemcmckofkhjfaaHoaSh3
import Derived.Test.YtemcmckofkhjfaaHoaRdW
namespace Go.Proofs.Ytemcmckofkhjfaa
open Go.RowKit
set_option linter.unusedVariables false
set_option linter.unusedSimpArgs false

set_option maxRecDepth 100000 in
set_option maxHeartbeats 2000000 in
theorem law_heapOk (B : Nat) (s : Int) (ao : Option Addr) (len cap : Nat) (l : List Wrd) (w : World) (hB : B ≤ w.heap.size) (hs : Ws 0 B w ao len l) (hin : in64 s) (hok : ∀ x ∈ l, okW x) :
    Calls Try.prog 4 #[vH s ao len cap] w fun e w' => e = .returned (.bool true) ∧ Below w.heap.size w w' := by
  obtain ⟨X, hX⟩ : ∃ X, X = w.alloc (.cells #[.int .i64 s, .slice ao len cap] 31) := ⟨_, rfl⟩
  have hXs : X.heap.size = w.heap.size + 1 := by rw [hX]; simp
  have hXb : Below w.heap.size w X := by rw [hX]; exact (Below.refl _ _).alloc (Nat.le_refl _) _
  have hX1 : X.heap[w.heap.size]? = some (.cells #[.int .i64 s, .slice ao len cap] 31 (0, 0)) := by rw [hX]; exact heap_new rfl
  have HX : Hid (X = _) := hX
  have hlm := hs.2.1
  have HL : Hid (len = l.length) := hs.1
  clear hX
  by_cases hc : (len : Int) ≤ 1048576
  · have hcn : len ≤ 1048576 := by omega
    go_enter Try.func4, Try.ntmps4
    go_wp2_with fail
    rw [← HX.out]
    refine (szHeap_any _ _ _ _ _ _ hlm (by omega) (by omega)).mono ?_
    rintro e w1 ⟨rfl, hb1⟩
    rw [szN_pos hc]
    have hz1 := hb1.size
    have hb1w : Below w.heap.size w w1 := hXb.trans (hb1.mono (by omega))
    have y1 := (hb1.block _ (by omega)).trans hX1
    obtain ⟨f0, f1⟩ := cells2 y1
    go_wp2_with fail
    refine (toHeap_any 0 B s _ _ _ _ _ (by omega) (hs.below hb1w hB) hcn).mono ?_
    rintro e w2 ⟨g2, rfl, hb2, hs2⟩
    have hz2 := hb2.size
    have hi2 := wors_is6 HL.out hcn hs2
    go_wp2_with fail
    refine (sHeapOk_any _ _ s _ _ _ l _ (Nat.le_refl _) hi2 hcn).mono ?_
    rintro e w3 ⟨rfl, hb3⟩
    have hz3 := hb3.size
    have hb3w : Below w.heap.size w w3 := (hb1w.trans (hb2.mono (by omega))).trans (hb3.mono (by omega))
    have y3 := (hb3.block _ (by omega)).trans ((hb2.block _ (by omega)).trans y1)
    clear f0 f1 hs2 hi2
    obtain ⟨f0, f1⟩ := cells2 y3
    go_wp2_with fail
    refine (toHeap_any 0 B s _ _ _ _ _ (by omega) (hs.below hb3w hB) hcn).mono ?_
    rintro e w4 ⟨g4, rfl, hb4, hs4⟩
    have hz4 := hb4.size
    have hi4 := wors_is6 HL.out hcn hs4
    go_wp2_with fail
    have hb4a : Below w4.heap.size w4 (w4.alloc (.cells #[.int .i64 s, .slice (some ⟨g4, 0, none⟩) len len] 24)) := (Below.refl _ _).alloc (Nat.le_refl _) _
    have hs4a := hi4.below hb4a (Nat.le_refl _)
    refine (heapOk_any _ _ s _ _ _ l _ (by simp) hs4a hcn (Nat.le_refl _)).mono ?_
    rintro e w5 ⟨rfl, hb5⟩
    have hz5 := hb5.size
    simp only [World.size_alloc] at hz5
    have hb5w : Below w.heap.size w w5 := ((hb3w.trans (hb4.mono (by omega))).trans (hb4a.mono (by omega))).trans (hb5.mono (by simp; omega))
    have y5 := (hb5.block w.heap.size (by simp; omega)).trans ((hb4a.block _ (by omega)).trans ((hb4.block _ (by omega)).trans y3))
    have x5 : w5.heap[w4.heap.size]? = some (.cells #[.int .i64 s, .slice (some ⟨g4, 0, none⟩) len len] 24 (0, 0)) := (hb5.block w4.heap.size (by simp)).trans (heap_new rfl)
    clear f0 f1
    obtain ⟨p0, p1⟩ := cells2 y5
    obtain ⟨q0, q1⟩ := cells2 x5
    have hs5 := hs4a.below hb5 (by simp)
    have hs5' := hs.below hb5w hB
    generalize okH s l = ok
    clear y1 y3 y5 x5 hs4 hs4a hX1
    go_wp2_with fail
    go_region_with (first
      | (go_at_call 15; refine (toHeap_any 0 B s _ _ _ l _ ?_ ?_ ?_).mono ?_; (show B ≤ w5.heap.size; omega); exact hs5'.drew; exact hcn; rintro e w6 ⟨g6, rfl, hb6, hs6⟩; have k0 : w6.cell? ⟨w4.heap.size, 0, none⟩ = _ := (bcell hb6 hz5 0).trans q0; have k1 : w6.cell? ⟨w4.heap.size, 1, none⟩ = _ := (bcell hb6 hz5 1).trans q1)
      | (go_at_call 10; refine (eqHeap_any _ _ _ _ s _ _ _ _ _ _ l _ ?_ ?_ (hs5.drew.below hb6 (show w4.heap.size ≤ w5.heap.size by omega)) (wors_is6 HL.out hcn hs6)).mono ?_; (have h6 : w5.heap.size ≤ w6.heap.size := hb6.size; (show w4.heap.size ≤ w6.heap.size); omega); exact Nat.le_refl _; rintro e w7 ⟨rfl, hb7⟩))
    all_goals
      have hb7w : Below w.heap.size w w7 := (hb5w.drew.trans (hb6.mono hb5w.size)).trans (hb7.mono (Nat.le_trans hb5w.size hb6.size))
      go_wp2_with fail
      go_ret
      exact ⟨rfl, hb7w⟩
  · go_enter Try.func4, Try.ntmps4
    go_wp2_with fail
    rw [← HX.out]
    refine (szHeap_any _ _ _ _ _ _ hlm (by omega) (by omega)).mono ?_
    rintro e w1 ⟨rfl, hb1⟩
    rw [szN_neg (by omega)]
    have hb1w : Below w.heap.size w w1 := hXb.trans (hb1.mono (by omega))
    go_wp2_with fail
    go_ret
    exact ⟨rfl, hb1w⟩

end Go.Proofs.Ytemcmckofkhjfaa
