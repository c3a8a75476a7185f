/-
  The library's 'slices.Concat' of three rows of words; the program's 'ownWords', 'ownHeap'; the model's 'l12Copy'.
-/
import Derived.Test.YtkplfdckfbihcaaFhpWoS0
import Derived.Test.YtkplfdckfbihcaaFhpLwM
import Derived.Lib.AppendZeros
import Derived.Deep.Upon
import Derived.Deep.RegionLaw
namespace Go.Proofs.Ytkplfdckfbihcaa
open Go.RowKit
set_option linter.unusedVariables false
set_option linter.unusedSimpArgs false

theorem grown_to {base : Nat} {w W W2 : World} {v : Value} {P : List Wrd} (hg : W.grownBy W2 v.ownBlock) (h : Wors base W v P) (hb : Below base w W) (hz : base ≤ W.heap.size) : Below base w W2 :=
  ⟨hg.os.trans hb.os, hg.tape.trans hb.tape, hg.output.trans hb.output, Nat.le_trans hb.size hg.size, fun q hq => (hg.block q (by omega) (fun e => by have := (wors_own h e.symm).1; omega)).trans (hb.block q hq)⟩

set_option maxRecDepth 100000 in
set_option maxHeartbeats 400000 in
/-- 'Grow' of nothing: room for n words. -/
theorem grow_noneW (n : Nat) (h0 : 0 < n) (hl : n ≤ 4000000) (m : Int) (hm : m = (n : Int)) (w : World) :
    Calls Try.prog 45 #[.slice none 0 0, .int .i64 m] w fun e w' => ∃ g cap, e = .returned (.slice (some ⟨g, 0, none⟩) 0 cap) ∧ Wors w.heap.size w' (.slice (some ⟨g, 0, none⟩) 0 cap) [] ∧ Below w.heap.size w w' := by
  obtain ⟨i0, hi, hz0, hz1, hz2⟩ := info_parts Try.infoWord
  have hrun := Lib.run_append_nil_zeros (P := Try.prog) w 24 3 24 28 i0 _ .i64 .i64 Try.underlying24 Try.underlying3 hi hz0 n h0 (by omega) (by omega) (by rw [hz2]; omega)
  subst hm
  have hneg : ¬ (n : Int) < 0 := by omega
  have hpos : 0 < (n : Int) := by omega
  go_enter Try.func45, Try.ntmps45
  go_wp2_with (first | (at_builtin; refine Lib.wpList_append_run _ (by rfl) _ _ _ _ (by rfl) _ _ (by rfl) (by rfl) _ _ hrun ?_))
  go_ret
  have hge := grownCap_ge w n 0 28
  refine ⟨_, _, rfl, ⟨rfl, Or.inr ⟨_, _, _, rfl, Nat.le_refl _, heap_alloc_new _ _, Nat.zero_le _, grownCap_le_maxLen w n 0 28 (by unfold maxLen; omega), ?_, rfl⟩⟩, ((Below.refl _ _).alloc (Nat.le_refl _) _).drew⟩
  simp only [Array.size_append, size_zeroCells, List.size_toArray, List.length_cons, List.length_nil]
  omega

set_option maxRecDepth 100000 in
set_option maxHeartbeats 2000000 in
theorem concat_three (L1 B1 L2 B2 L3 B3 p : Nat) (a1 : Option Addr) (n1 c1 : Nat) (a2 : Option Addr) (n2 c2 : Nat) (a3 : Option Addr) (n3 c3 : Nat) (l1 l2 l3 : List Wrd) (w : World) (hp : p < w.heap.size) (hB1 : B1 ≤ w.heap.size) (hB2 : B2 ≤ w.heap.size) (hB3 : B3 ≤ w.heap.size)
    (x1 : w.cell? ⟨p, 0, none⟩ = some (.slice a1 n1 c1)) (x2 : w.cell? ⟨p, 1, none⟩ = some (.slice a2 n2 c2)) (x3 : w.cell? ⟨p, 2, none⟩ = some (.slice a3 n3 c3)) (h1 : Ws L1 B1 w a1 n1 l1) (h2 : Ws L2 B2 w a2 n2 l2) (h3 : Ws L3 B3 w a3 n3 l3) (hn : 0 < n2) (hl : n1 + n2 + n3 ≤ 4000000) :
    Calls Try.prog 28 #[.slice (some ⟨p, 0, none⟩) 3 3] w fun e w' => ∃ ao cap, e = .returned (.slice ao (n1 + n2 + n3) cap) ∧ Wors w.heap.size w' (.slice ao (n1 + n2 + n3) cap) (l1 ++ l2 ++ l3) ∧ Below w.heap.size w w' := by
  have w1 : ¬ (n1 : Int) < 0 := by omega
  have w2 : ¬ ((n1 : Int) + (n2 : Int)) < 0 := by omega
  have w3 : ¬ ((n1 : Int) + (n2 : Int) + (n3 : Int)) < 0 := by omega
  go_enter Try.func28, Try.ntmps28
  go_wp2_with fail
  refine wp_loop_rounds 4 ?_
  rw [rounds_succ]
  go_wp2_with fail
  rw [rounds_succ]
  go_wp2_with fail
  rw [rounds_succ]
  go_wp2_with fail
  rw [rounds_succ]
  go_wp2_with fail
  refine (grow_noneW (n1 + n2 + n3) (by omega) hl _ (by omega) _).mono ?_
  rintro e wA ⟨g, cap, rfl, hNA, hbA⟩
  have hzA := hbA.size
  obtain ⟨ao1, cap1, wB, r1, hNB, hgB⟩ := wors_app hNA hzA c1 (h1.below hbA hB1) (by simp; omega)
  have hbB : Below w.heap.size w wB := grown_to hgB hNA hbA hzA
  have hzB := hbB.size
  simp only [List.nil_append, List.length_nil, Nat.zero_add] at hNB r1
  have hlB : Hid (l1.length = n1) := h1.1.symm
  have hlC : Hid ((l1 ++ l2).length = n1 + n2) := by show _ = _; rw [List.length_append, ← h1.1, ← h2.1]
  obtain ⟨ao2, cap2, wC, r2, hNC, hgC⟩ := wors_app hNB hzB c2 (h2.below hbB hB2) (by rw [hlB.out]; omega)
  have hbC : Below w.heap.size w wC := grown_to hgC hNB hbB hzB
  have hzC := hbC.size
  obtain ⟨ao3, cap3, wD, r3, hND, hgD⟩ := wors_app hNC hzC c3 (h3.below hbC hB3) (by rw [hlC.out]; omega)
  have HbD : Hid (Below w.heap.size w wD) := grown_to hgD hNC hbC hzC
  have y1 := (bcell hbA hp 0).trans x1
  have y2 := (bcell hbB hp 1).trans x2
  have y3 := (bcell hbC hp 2).trans x3
  have HND : Hid (Wors w.heap.size wD (.slice ao3 ((l1 ++ l2).length + n3) cap3) (l1 ++ l2 ++ l3)) := hND
  rw [hlC.out] at r3 HND
  rw [hlB.out] at r2 r3
  have HR1 : Hid (_ = _) := r1
  have HR2 : Hid (_ = _) := r2
  have HR3 : Hid (_ = _) := r3
  clear hNA hNB hNC hND hgB hgC hgD h1 h2 h3 hbA hbB hbC hzA hzB hzC x1 x2 x3 hB1 hB2 hB3 r1 r2 r3
  go_wp2_with fail
  refine wp_loop_rounds 4 ?_
  rw [rounds_succ]
  go_wp2_with (first | (at_builtin; refine list_run HR1.out (by rfl) _ _ (by rfl) (by rfl) (by rfl) (by rfl) ?_; clear HR1))
  rw [rounds_succ]
  go_wp2_with (first | (at_builtin; refine list_run HR2.out (by rfl) _ _ (by rfl) (by rfl) (by rfl) (by rfl) ?_; clear HR2))
  rw [rounds_succ]
  go_wp2_with (first | (at_builtin; refine list_run HR3.out (by rfl) _ _ (by rfl) (by rfl) (by rfl) (by rfl) ?_; clear HR3))
  rw [rounds_succ]
  go_wp2_with fail
  go_ret
  exact ⟨_, _, rfl, HND.out, HbD.out⟩

set_option maxHeartbeats 1000000 in
theorem ownWords_any (L B : Nat) (ao : Option Addr) (n c : Nat) (l : List Wrd) (w : World) (hB : B ≤ w.heap.size) (hs : Ws L B w ao n l) (hl : n ≤ 1048576) :
    Calls Try.prog 37 #[.slice ao n c] w fun e w' => ∃ ao2 cap, e = .returned (.slice ao2 n cap) ∧ Wors w.heap.size w' (.slice ao2 n cap) l ∧ Below w.heap.size w w' := by
  obtain ⟨ao1, cap1, wB, r1, hNB, hgB⟩ := wors_app (wors_nil w.heap.size w) (Nat.le_refl _) c hs (by simp; omega)
  have hbB : Below w.heap.size w wB := grown_to hgB (wors_nil w.heap.size w) (Below.refl _ _) (Nat.le_refl _)
  simp only [List.nil_append, List.length_nil, Nat.zero_add] at hNB r1
  have HR1 : Hid (_ = _) := r1
  clear r1
  go_enter Try.func37, Try.ntmps37
  go_wp2_with (first | (at_builtin; refine list_run HR1.out (by rfl) _ _ (by rfl) (by rfl) (by rfl) (by rfl) ?_; clear HR1))
  go_ret
  exact ⟨_, _, rfl, hNB, hbB⟩

/-- A heap is laid into a block of two cells. -/
theorem lay_two {W w : World} {R n : Nat} {t : TypeId} {u0 u1 : Value} (h : W.heap[R]? = some (.cells #[u0, u1] t (0, 0))) (hn : n ≤ R) (hB : Below n w W) (a0 a1 : Value) :
    ∀ Z, Z = (W.setCell ⟨R, 0, none⟩ a0).setCell ⟨R, 1, none⟩ a1 → Z.heap[R]? = some (.cells #[a0, a1] t (0, 0)) ∧ Below n w Z ∧ (∀ k, k ≠ R → Z.heap[k]? = W.heap[k]?) ∧ Z.heap.size = W.heap.size := by
  rintro Z rfl
  refine ⟨?_, (hB.setCell (p := ⟨R, 0, none⟩) hn _).setCell (p := ⟨R, 1, none⟩) hn _, fun k hk => (row_other _ _ _ hk).trans (row_other _ _ _ hk), by simp⟩
  have := row_set (row_set h 0 a0) 1 a1
  rw [this]
  simp

set_option maxRecDepth 100000 in
set_option maxHeartbeats 1000000 in
theorem ownHeap_any (L B : Nat) (s : Int) (ao : Option Addr) (n c : Nat) (l : List Wrd) (w : World) (hB : B ≤ w.heap.size) (hs : Ws L B w ao n l) (hl : n ≤ 1048576) :
    Calls Try.prog 27 #[vH s ao n c] w fun e w' => ∃ ao2 cap, e = .returned (vH s ao2 n cap) ∧ Wors w.heap.size w' (.slice ao2 n cap) l ∧ Below w.heap.size w w' := by
  obtain ⟨X, hX⟩ : ∃ X, X = (w.alloc (.cells #[.int .i64 s, .slice ao n c] 26)).alloc (.cells #[.int .i64 0, .slice none 0 0] 26) := ⟨_, rfl⟩
  have hXs : X.heap.size = w.heap.size + 2 := by rw [hX]; simp
  have hXb : Below w.heap.size w X := by rw [hX]; exact ((Below.refl _ _).alloc (Nat.le_refl _) _).alloc (by simp) _
  have x0 : X.heap[w.heap.size]? = some (.cells #[.int .i64 s, .slice ao n c] 26 (0, 0)) := by
    rw [hX, Below.heap_alloc _ _ _ (by simp)]; exact heap_new (by simp)
  have x1 : X.heap[w.heap.size + 1]? = some (.cells #[.int .i64 0, .slice none 0 0] 26 (0, 0)) := by
    rw [hX]; exact heap_new (by simp)
  have K := ownWords_any L B ao n c l X.drew (by show B ≤ X.heap.size; omega) (hs.below hXb hB).drew hl
  obtain ⟨f0, f1⟩ := cells2 x0
  have HX : Hid (X = _) := hX
  have hx0 : w.heap.size < X.heap.size := by omega
  have hx1 : w.heap.size + 1 < X.heap.size := by omega
  have hx2 : w.heap.size ≤ X.heap.size := by omega
  have FIN : Hid (∀ (w1 : World) (ao2 : Option Addr) (cap : Nat), Below X.heap.size X.drew w1 → Wors X.heap.size w1 (.slice ao2 n cap) l → ∀ Z, Z = (w1.setCell ⟨w.heap.size + 1, 0, none⟩ (.int .i64 s)).setCell ⟨w.heap.size + 1, 1, none⟩ (.slice ao2 n cap) →
      Z.heap[w.heap.size + 1]? = some (.cells #[.int .i64 s, .slice ao2 n cap] 26 (0, 0)) ∧ Wors w.heap.size Z (.slice ao2 n cap) l ∧ Below w.heap.size w Z) := by
    intro w1 ao2 cap hb1 hN Z hZ
    have hb1' : Below w.heap.size w w1 := hXb.trans (⟨hb1.os, hb1.tape, hb1.output, hb1.size, fun q hq => hb1.block q (by omega)⟩ : Below w.heap.size X w1)
    obtain ⟨z1, z2, z3, z4⟩ := lay_two ((hb1.block _ hx1).trans x1) (Nat.le_succ _) hb1' (.int .i64 s) (.slice ao2 n cap) Z hZ
    exact ⟨z1, wors_keep (wors_le hN hx2) (fun g hg => z3 g (by have := (wors_own hN hg).1; omega)), z2⟩
  clear hX hXs
  go_enter Try.func27, Try.ntmps27
  go_wp2_with fail
  rw [← HX.out]
  go_region_with (go_at_call 37; refine K.mono ?_; rintro e w1 ⟨ao2, cap, rfl, hN1, hb1⟩; have k0 : w1.cell? ⟨w.heap.size, 0, none⟩ = _ := (bcell hb1 hx0 0).trans f0; have k1 : w1.cell? ⟨w.heap.size, 1, none⟩ = _ := (bcell hb1 hx0 1).trans f1; have k2 := row_cell ((hb1.block _ hx1).trans x1) 0; have k3 := row_cell ((hb1.block _ hx1).trans x1) 1; have k4 := row_free ((hb1.block _ hx1).trans x1))
  all_goals
    go_wp2_with fail
    obtain ⟨z1, z2, z3⟩ := FIN.out w1 ao2 cap hb1 hN1 _ rfl
    obtain ⟨g0, g1⟩ := cells2 z1
    exact bodyPost_ret (v := vH s ao2 n cap) (by simp [results, Try.results27, go_sem, g0, g1]) rfl ⟨ao2, cap, rfl, z2, z3⟩

set_option maxRecDepth 100000 in
set_option maxHeartbeats 1000000 in
theorem l12Copy_any (L B : Nat) (s : Int) (ao : Option Addr) (n c : Nat) (l : List Wrd) (w : World) (hB : B ≤ w.heap.size) (hs : Ws L B w ao n l) (hl : n ≤ 1048576) :
    Calls Try.prog 29 #[vH s ao n c] w fun e w' => ∃ ao2 cap, e = .returned (vH s ao2 n cap) ∧ Wors w.heap.size w' (.slice ao2 n cap) l ∧ Below w.heap.size w w' := by
  obtain ⟨X, hX⟩ : ∃ X, X = (w.alloc (.cells #[.int .i64 s, .slice ao n c] 26)).alloc (.cells #[.int .i64 0, .slice none 0 0] 26) := ⟨_, rfl⟩
  have hXs : X.heap.size = w.heap.size + 2 := by rw [hX]; simp
  have hXb : Below w.heap.size w X := by rw [hX]; exact ((Below.refl _ _).alloc (Nat.le_refl _) _).alloc (by simp) _
  have x0 : X.heap[w.heap.size]? = some (.cells #[.int .i64 s, .slice ao n c] 26 (0, 0)) := by
    rw [hX, Below.heap_alloc _ _ _ (by simp)]; exact heap_new (by simp)
  have x1 : X.heap[w.heap.size + 1]? = some (.cells #[.int .i64 0, .slice none 0 0] 26 (0, 0)) := by
    rw [hX]; exact heap_new (by simp)
  have hx0 : w.heap.size < X.heap.size := by omega
  have hx1 : w.heap.size + 1 < X.heap.size := by omega
  have hx2 : w.heap.size ≤ X.heap.size := by omega
  have hYb : Below X.heap.size X (X.alloc (.cells #[] 28)).drew := ((Below.refl _ _).alloc (Nat.le_refl _) _).drew
  have hYe : Wors X.heap.size (X.alloc (.cells #[] 28)).drew (.slice (some ⟨X.heap.size, 0, none⟩) 0 0) [] := wors_emp (show (X.alloc (.cells #[] 28)).heap[X.heap.size]? = _ from heap_new rfl) (Nat.le_refl _)
  have hYs : Ws L B (X.alloc (.cells #[] 28)).drew ao n l := (hs.below hXb hB).below hYb (by omega)
  obtain ⟨ao2, cap, w1, hrun, hN1, hg1⟩ := wors_app hYe (show X.heap.size ≤ (X.alloc (.cells #[] 28)).heap.size by simp) c hYs (by simp; omega)
  have hb1 : Below X.heap.size X w1 := grown_to hg1 hYe hYb (show X.heap.size ≤ (X.alloc (.cells #[] 28)).heap.size by simp)
  simp only [List.nil_append, List.length_nil, Nat.zero_add] at hN1 hrun
  obtain ⟨f0, f1⟩ := cells2 x0
  have k0 : w1.cell? ⟨w.heap.size, 0, none⟩ = _ := (bcell hb1 hx0 0).trans f0
  have k1 : w1.cell? ⟨w.heap.size, 1, none⟩ = _ := (bcell hb1 hx0 1).trans f1
  have k2 := row_cell ((hb1.block _ hx1).trans x1) 0
  have k3 := row_cell ((hb1.block _ hx1).trans x1) 1
  have k4 := row_free ((hb1.block _ hx1).trans x1)
  have FIN : Hid (∀ Z, Z = (w1.setCell ⟨w.heap.size + 1, 0, none⟩ (.int .i64 s)).setCell ⟨w.heap.size + 1, 1, none⟩ (.slice ao2 n cap) →
      Z.heap[w.heap.size + 1]? = some (.cells #[.int .i64 s, .slice ao2 n cap] 26 (0, 0)) ∧ Wors w.heap.size Z (.slice ao2 n cap) l ∧ Below w.heap.size w Z) := by
    intro Z hZ
    have hb1' : Below w.heap.size w w1 := hXb.trans (hb1.mono hx2)
    obtain ⟨z1, z2, z3, z4⟩ := lay_two ((hb1.block _ hx1).trans x1) (Nat.le_succ _) hb1' (.int .i64 s) (.slice ao2 n cap) Z hZ
    exact ⟨z1, wors_keep (wors_le hN1 hx2) (fun g hg => z3 g (by have := (wors_own hN1 hg).1; omega)), z2⟩
  have HX : Hid (X = _) := hX
  clear hX hXs hYb hYe hYs hg1 hN1
  go_enter Try.func29, Try.ntmps29
  go_wp2_with fail
  rw [← HX.out]
  go_region_law (refine step_run hrun (by rfl) _ _ (by rfl) (by rfl) (by rfl) (by rfl) ?_)
  all_goals
    go_wp2_with fail
    obtain ⟨z1, z2, z3⟩ := FIN.out _ rfl
    obtain ⟨g0, g1⟩ := cells2 z1
    exact bodyPost_ret (v := vH s ao2 n cap) (by simp [results, Try.results29, go_sem, g0, g1]) rfl ⟨ao2, cap, rfl, z2, z3⟩

end Go.Proofs.Ytkplfdckfbihcaa
