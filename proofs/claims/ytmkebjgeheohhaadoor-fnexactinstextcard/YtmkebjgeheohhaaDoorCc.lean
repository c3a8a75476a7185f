/-
  The library's 'slices.Concat' of two rows of numbers: the numbers of both, in a new row.
-/
import Derived.Test.YtmkebjgeheohhaaDoorIr2
import Derived.Test.YtmkebjgeheohhaaDoorLwM
import Derived.Lib.AppendZeros
import Derived.Deep.Upon
namespace Go.Proofs.YtmkebjgeheohhaaDoor
open Go.RowKit
set_option linter.unusedVariables false
set_option linter.unusedSimpArgs false

set_option maxRecDepth 100000 in
set_option maxHeartbeats 400000 in
/-- 'Grow' of nothing: room for n numbers. -/
theorem grow_none (n : Nat) (h0 : 0 < n) (hl : n ≤ 1048600) (m : Int) (hm : m = (n : Int)) (w : World) :
    Calls Tryd.prog 36 #[.slice none 0 0, .int .i64 m] w fun e w' => ∃ g cap, e = .returned (.slice (some ⟨g, 0, none⟩) 0 cap) ∧ Nums w.heap.size w' (.slice (some ⟨g, 0, none⟩) 0 cap) [] ∧ Below w.heap.size w w' := by
  obtain ⟨i0, hi, hz0, hz1, hz2⟩ := info_parts Tryd.infoInt
  have hrun := Lib.run_append_nil_zeros (P := Tryd.prog) w 22 3 22 3 i0 _ .i64 .i64 Tryd.underlying22 Tryd.underlying3 hi hz0 n h0 (by omega) (by omega) (by rw [hz2]; omega)
  subst hm
  have hneg : ¬ (n : Int) < 0 := by omega
  have hpos : 0 < (n : Int) := by omega
  go_enter Tryd.func36, Tryd.ntmps36
  go_wp2_with (first | (at_builtin; refine Lib.wpList_append_run _ (by rfl) _ _ _ _ (by rfl) _ _ (by rfl) (by rfl) _ _ hrun ?_))
  go_ret
  have hge := grownCap_ge w n 0 3
  refine ⟨_, _, rfl, ⟨rfl, Or.inr ⟨_, _, _, rfl, Nat.le_refl _, heap_alloc_new _ _, Nat.zero_le _, grownCap_le_maxLen w n 0 3 (by unfold maxLen; omega), ?_, rfl⟩⟩, ((Below.refl _ _).alloc (Nat.le_refl _) _).drew⟩
  simp only [Array.size_append, size_zeroCells]
  simp
  omega

set_option maxRecDepth 100000 in
set_option maxHeartbeats 1000000 in
theorem concat_two (L B L' B' p : Nat) (a1 : Option Addr) (n1 c1 : Nat) (a2 : Option Addr) (n2 c2 : Nat) (l1 l2 : List Int) (w : World) (hp : p < w.heap.size) (hB : B ≤ w.heap.size) (hB' : B' ≤ w.heap.size)
    (x1 : w.cell? ⟨p, 0, none⟩ = some (.slice a1 n1 c1)) (x2 : w.cell? ⟨p, 1, none⟩ = some (.slice a2 n2 c2)) (h1 : Is L B w a1 n1 l1) (h2 : Is L' B' w a2 n2 l2) (hn : 0 < n1) (hl : n1 + n2 ≤ 1048600) :
    Calls Tryd.prog 21 #[.slice (some ⟨p, 0, none⟩) 2 2] w fun e w' => ∃ v, e = .returned v ∧ Nums w.heap.size w' v (l1 ++ l2) ∧ Below w.heap.size w w' := by
  have w1 : ¬ (n1 : Int) < 0 := by omega
  have w2 : ¬ ((n1 : Int) + (n2 : Int)) < 0 := by omega
  go_enter Tryd.func21, Tryd.ntmps21
  go_wp2_with fail
  refine wp_loop_rounds 3 ?_
  rw [rounds_succ]
  go_wp2_with fail
  rw [rounds_succ]
  go_wp2_with fail
  rw [rounds_succ]
  go_wp2_with fail
  refine (grow_none (n1 + n2) (by omega) hl _ (by omega) _).mono ?_
  rintro e wA ⟨g, cap, rfl, hNA, hbA⟩
  have hzA := hbA.size
  obtain ⟨ao1, cap1, wB, r1, hNB, hgB⟩ := nums_app hNA hzA c1 (h1.below hbA hB) (by simp; omega)
  have HbB : Hid (Below w.heap.size w wB) := ⟨hgB.os.trans hbA.os, hgB.tape.trans hbA.tape, hgB.output.trans hbA.output, Nat.le_trans hzA hgB.size, fun q hq => (hgB.block q (by omega) (fun e => by have := (nums_own hNA e.symm).1; omega)).trans (hbA.block q hq)⟩
  have hbB := HbB.out
  have hzB := hbB.size
  simp only [List.nil_append, List.length_nil, Nat.zero_add] at hNB r1
  have hlB : Hid (l1.length = n1) := h1.1.symm
  obtain ⟨ao2, cap2, wC, r2, hNC, hgC⟩ := nums_app hNB hzB c2 (h2.below hbB hB') (by rw [hlB.out]; omega)
  have HbC : Hid (Below w.heap.size w wC) := ⟨hgC.os.trans hbB.os, hgC.tape.trans hbB.tape, hgC.output.trans hbB.output, Nat.le_trans hzB hgC.size, fun q hq => (hgC.block q (by omega) (fun e => by have := (nums_own hNB e.symm).1; omega)).trans (hbB.block q hq)⟩
  have y1 := (bcell hbA hp 0).trans x1
  have y2 := (bcell hbB hp 1).trans x2
  have HNC : Hid (Nums w.heap.size wC (.slice ao2 (l1.length + n2) cap2) (l1 ++ l2)) := hNC
  rw [hlB.out] at r2
  rw [hlB.out] at HNC
  clear hNA hNB hNC hgB hgC hbB HbB h1 h2 hbA hzA hzB x1 x2 hB hB'
  have HR1 : Hid (_ = _) := r1
  have HR2 : Hid (_ = _) := r2
  clear r1 r2
  go_wp2_with fail
  refine wp_loop_rounds 3 ?_
  rw [rounds_succ]
  go_wp2_with (first | (at_builtin; refine list_run HR1.out (by rfl) _ _ (by rfl) (by rfl) (by rfl) (by rfl) ?_))
  rw [rounds_succ]
  go_wp2_with (first | (at_builtin; refine list_run HR2.out (by rfl) _ _ (by rfl) (by rfl) (by rfl) (by rfl) ?_))
  rw [rounds_succ]
  go_wp2_with fail
  go_ret
  exact ⟨_, rfl, HNC.out, HbC.out⟩

end Go.Proofs.YtmkebjgeheohhaaDoor
