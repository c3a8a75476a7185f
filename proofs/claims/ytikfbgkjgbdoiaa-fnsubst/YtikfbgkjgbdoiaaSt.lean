/-
  What the program's 'SameTy' comes to where the first type's lists have blocks of their own.
-/
import Derived.Test.YtikfbgkjgbdoiaaAn2
import Derived.Test.YtikfbgkjgbdoiaaNw
namespace Go.Proofs.Ytikfbgkjgbdoiaa
open Go.RowKit
set_option linter.unusedVariables false
set_option linter.unusedSimpArgs false

set_option maxHeartbeats 2000000 in
theorem sameTy_any (D L B L' B' : Nat) (k n : Int) (ao : Option Addr) (len cap : Nat) (ts : List Tr) (k' n' : Int) (ao' : Option Addr) (len' cap' : Nat) (ts' : List Tr) (b : Bool) (w : World) (hB : B ≤ w.heap.size) (hB' : B' ≤ w.heap.size)
    (ho : OwR L B w D ao len ts) (hs' : Hs L' B' w D ao' len' ts') (hb : b = true ↔ (⟨k, n, ts⟩ : Tr) = ⟨k', n', ts'⟩) (hc : cntS ts ≤ 1048576) :
    Calls Try.prog 35 #[.agg #[.int .i64 k, .int .i64 n, .slice ao len cap], .agg #[.int .i64 k', .int .i64 n', .slice ao' len' cap']] w fun e w' => e = .returned (.bool b) ∧ Below w.heap.size w w' := by
  have hs := ho.hs
  obtain ⟨X, hX⟩ : ∃ X, X = ((w.alloc (.cells #[.int .i64 k, .int .i64 n, .slice ao len cap] 32)).alloc (.cells #[.int .i64 k', .int .i64 n', .slice ao' len' cap'] 32)) := ⟨_, rfl⟩
  have hbel : Below w.heap.size w X := by rw [hX]; exact ((Below.refl _ _).alloc (Nat.le_refl _) _).alloc (by simp) _
  have hXs : X.heap.size = w.heap.size + 2 := by rw [hX]; simp
  have hX0 : X.heap[w.heap.size]? = some (.cells #[.int .i64 k, .int .i64 n, .slice ao len cap] 32 (0, 0)) := by rw [hX, Below.heap_alloc _ _ _ (by simp)]; exact heap_new rfl
  have hX1 : X.heap[w.heap.size + 1]? = some (.cells #[.int .i64 k', .int .i64 n', .slice ao' len' cap'] 32 (0, 0)) := by rw [hX]; exact heap_new (by simp)
  have HX : Hid (X = _) := hX
  have HB : Hid (b = true ↔ _) := hb
  clear hX hb
  go_enter Try.func35, Try.ntmps35
  go_wp2_with fail
  rw [← HX.out]
  refine (tyOk_any D L B _ _ _ _ _ ts _ (by omega) (hs.below hbel hB)).mono ?_
  rintro e w1 ⟨rfl, hb1⟩
  have hz1 := hb1.size
  have hbw1 : Below w.heap.size w w1 := hbel.trans (hb1.mono (by omega))
  have y0 := (hb1.block _ (by omega)).trans hX0
  have y1 := (hb1.block _ (by omega)).trans hX1
  obtain ⟨f0, f1, f2⟩ := box_cells y0
  obtain ⟨g0, g1, g2⟩ := box_cells y1
  go_wp2_with fail
  refine (tyOk_any D L' B' _ _ _ _ _ ts' _ (by omega) (hs'.below hbw1 hB')).mono ?_
  rintro e w2 ⟨rfl, hb2⟩
  have hz2 := hb2.size
  have hbw2 : Below w.heap.size w w2 := hbw1.trans (hb2.mono (by omega))
  replace y0 := (hb2.block _ (by omega)).trans y0
  replace y1 := (hb2.block _ (by omega)).trans y1
  clear f0 f1 f2 g0 g1 g2
  obtain ⟨f0, f1, f2⟩ := box_cells y0
  obtain ⟨g0, g1, g2⟩ := box_cells y1
  have HE : Hid ((⟨k, n, ts⟩ : Tr) = ⟨k', n', ts'⟩ → okT ⟨k, n, ts⟩ = okT ⟨k', n', ts'⟩) := fun h => by rw [h]
  cases h1 : okT ⟨k, n, ts⟩
  all_goals cases h2 : okT ⟨k', n', ts'⟩
  · clear h1 h2 HE hX0 hX1
    obtain ⟨bs, how, hnd, hrng⟩ := ho
    have hZ : Below w2.heap.size w2 (w2.alloc (.cells #[.int .i64 k, .int .i64 n, .slice ao len cap, .int .i64 k', .int .i64 n', .slice ao' len' cap'] 100)) := (Below.refl _ _).alloc (Nat.le_refl _) _
    have hZw : Below w.heap.size w (w2.alloc (.cells #[.int .i64 k, .int .i64 n, .slice ao len cap, .int .i64 k', .int .i64 n', .slice ao' len' cap'] 100)) := hbw2.trans (hZ.mono (by omega))
    have hst : AnySt (w2.alloc (.cells #[.int .i64 k, .int .i64 n, .slice ao len cap, .int .i64 k', .int .i64 n', .slice ao' len' cap'] 100)) D L' B' w2.heap.size [⟨k, n, ao, len, cap, ts, bs, k', n', ao', len', cap', ts'⟩] [] := by
      refine ⟨fun i hi => ?_, ?_, fun x hx => ?_, fun x hx => by simp at hx⟩
      · simp at hi
        subst hi
        exact ⟨how.keep fun x hx => hZw.block x (by have := (hrng x hx).2; omega), hs'.below hZw hB'⟩
      · simpa using hnd
      · have hx' : x ∈ bs := by simpa using hx
        have := (hrng x hx').2
        omega
    go_wp2_with fail
    refine (sameAny_any D L' B' w2.heap.size ⟨k, n, ao, len, cap, ts, bs, k', n', ao', len', cap', ts'⟩ b _ (by simp) (heap_new rfl) (by omega) hst HB.out (by rw [cnt_eq]; show 1 + cntS ts ≤ _; omega)).mono ?_
    rintro e w3 ⟨rfl, hg3⟩
    go_wp2_with fail
    go_ret
    exact ⟨rfl, hZw.grown hg3 (by simp; omega) (by simp; omega)⟩
  · have HF : Hid (b = false) := by
      show _ = _
      rw [Bool.eq_false_iff]; intro h
      have := HE.out (HB.out.1 h)
      rw [h1, h2] at this; cases this
    clear h1 h2
    go_wp2_with fail
    go_ret
    exact ⟨ret_bool HF.out.symm, hbw2⟩
  · have HF : Hid (b = false) := by
      show _ = _
      rw [Bool.eq_false_iff]; intro h
      have := HE.out (HB.out.1 h)
      rw [h1, h2] at this; cases this
    clear h1 h2
    go_wp2_with fail
    go_ret
    exact ⟨ret_bool HF.out.symm, hbw2⟩
  · clear h1 h2 HE
    go_wp2_with fail
    refine (rt_any D L B L' B' _ _ _ _ _ ts _ _ _ _ _ ts' b _ (by omega) (by omega) (hs.below hbw2 hB) (hs'.below hbw2 hB') HB.out).mono ?_
    rintro e w3 ⟨rfl, hb3⟩
    go_wp2_with fail
    go_ret
    exact ⟨rfl, hbw2.trans (hb3.mono (by omega))⟩

end Go.Proofs.Ytikfbgkjgbdoiaa
