/-
  What the program's 'SameTy' comes to at two types that are right: they need not own their memory.
-/
import Derived.Test.YtfjbgbnhjejchaaDoorRt
import Derived.Test.YtfjbgbnhjejchaaDoorNw
namespace Go.Proofs.YtfjbgbnhjejchaaDoor
open Go.RowKit
set_option linter.unusedVariables false
set_option linter.unusedSimpArgs false

set_option maxHeartbeats 2000000 in
theorem sameRight_any (D L B L' B' : Nat) (k n : Int) (ao : Option Addr) (len cap : Nat) (ts : List Tr) (k' n' : Int) (ao' : Option Addr) (len' cap' : Nat) (ts' : List Tr) (b : Bool) (w : World) (hB : B ≤ w.heap.size) (hB' : B' ≤ w.heap.size)
    (hs : Hs L B w D ao len ts) (hs' : Hs L' B' w D ao' len' ts') (hb : b = true ↔ (⟨k, n, ts⟩ : Tr) = ⟨k', n', ts'⟩) (ho : okT ⟨k, n, ts⟩ = true) (ho' : okT ⟨k', n', ts'⟩ = true) :
    Calls Tryd.prog 16 #[.agg #[.int .i64 k, .int .i64 n, .slice ao len cap], .agg #[.int .i64 k', .int .i64 n', .slice ao' len' cap']] w fun e w' => e = .returned (.bool b) ∧ Below w.heap.size w w' := by
  obtain ⟨X, hX⟩ : ∃ X, X = ((w.alloc (.cells #[.int .i64 k, .int .i64 n, .slice ao len cap] 29)).alloc (.cells #[.int .i64 k', .int .i64 n', .slice ao' len' cap'] 29)) := ⟨_, rfl⟩
  have hbel : Below w.heap.size w X := by rw [hX]; exact ((Below.refl _ _).alloc (Nat.le_refl _) _).alloc (by simp) _
  have hXs : X.heap.size = w.heap.size + 2 := by rw [hX]; simp
  have hX0 : X.heap[w.heap.size]? = some (.cells #[.int .i64 k, .int .i64 n, .slice ao len cap] 29 (0, 0)) := by rw [hX, Below.heap_alloc _ _ _ (by simp)]; exact heap_new rfl
  have hX1 : X.heap[w.heap.size + 1]? = some (.cells #[.int .i64 k', .int .i64 n', .slice ao' len' cap'] 29 (0, 0)) := by rw [hX]; exact heap_new (by simp)
  have HX : Hid (X = _) := hX
  have HB : Hid (b = true ↔ _) := hb
  have H1 : Hid (okT ⟨k, n, ts⟩ = true) := ho
  have H2 : Hid (okT ⟨k', n', ts'⟩ = true) := ho'
  clear hX hb ho ho'
  go_enter Tryd.func16, Tryd.ntmps16
  go_wp2_with fail
  rw [← HX.out]
  refine (tyOk_any D L B _ _ _ _ _ ts _ (by omega) (hs.below hbel hB)).mono ?_
  rintro e w1 ⟨rfl, hb1⟩
  rw [H1.out]
  have hz1 := hb1.size
  have hbw1 : Below w.heap.size w w1 := hbel.trans (hb1.mono (by omega))
  have y0 := (hb1.block _ (by omega)).trans hX0
  have y1 := (hb1.block _ (by omega)).trans hX1
  obtain ⟨f0, f1, f2⟩ := box_cells y0
  obtain ⟨g0, g1, g2⟩ := box_cells y1
  go_wp2_with fail
  refine (tyOk_any D L' B' _ _ _ _ _ ts' _ (by omega) (hs'.below hbw1 hB')).mono ?_
  rintro e w2 ⟨rfl, hb2⟩
  rw [H2.out]
  have hz2 := hb2.size
  have hbw2 : Below w.heap.size w w2 := hbw1.trans (hb2.mono (by omega))
  replace y0 := (hb2.block _ (by omega)).trans y0
  replace y1 := (hb2.block _ (by omega)).trans y1
  clear f0 f1 f2 g0 g1 g2
  obtain ⟨f0, f1, f2⟩ := box_cells y0
  obtain ⟨g0, g1, g2⟩ := box_cells y1
  go_wp2_with fail
  refine (rt_any D L B L' B' _ _ _ _ _ ts _ _ _ _ _ ts' b _ (by omega) (by omega) (hs.below hbw2 hB) (hs'.below hbw2 hB') HB.out).mono ?_
  rintro e w3 ⟨rfl, hb3⟩
  go_wp2_with fail
  go_ret
  exact ⟨rfl, hbw2.trans (hb3.mono (by omega))⟩

end Go.Proofs.YtfjbgbnhjejchaaDoor
