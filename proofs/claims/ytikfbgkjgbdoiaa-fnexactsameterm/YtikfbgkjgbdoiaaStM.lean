/-
  What the program's 'SameTerm' comes to where the first term's lists have blocks of their own.
-/
import Derived.Test.YtikfbgkjgbdoiaaAnM
import Derived.Test.YtikfbgkjgbdoiaaTq
namespace Go.Proofs.Ytikfbgkjgbdoiaa
open Go.RowKit
set_option linter.unusedVariables false
set_option linter.unusedSimpArgs false

set_option maxHeartbeats 4000000 in
theorem sameTerm_any (D d L B L' B' : Nat) (t t' : Tm) (a1 : Option Addr) (l1 c1 : Nat) (a2 : Option Addr) (l2 c2 : Nat) (a3 : Option Addr) (l3 c3 : Nat) (b1 : Option Addr) (m1 d1 : Nat) (b2 : Option Addr) (m2 d2 : Nat) (b3 : Option Addr) (m3 d3 : Nat) (b : Bool) (w : World) (hB : B ≤ w.heap.size) (hB' : B' ≤ w.heap.size)
    (ho : FmO L B w D d t a1 l1 a2 l2 a3 l3) (hs' : Fm L' B' w D d t' b1 m1 b2 m2 b3 m3) (hb : b = true ↔ t = t') (hc : cntM t ≤ 1048576) :
    Calls Try.prog 12 #[.agg #[.int .i64 t.K, .int .i64 t.N, .string t.S, .string t.Z, .int .i64 t.T.K, .int .i64 t.T.N, .slice a1 l1 c1, .slice a2 l2 c2, .slice a3 l3 c3], .agg #[.int .i64 t'.K, .int .i64 t'.N, .string t'.S, .string t'.Z, .int .i64 t'.T.K, .int .i64 t'.T.N, .slice b1 m1 d1, .slice b2 m2 d2, .slice b3 m3 d3]] w fun e w' => e = .returned (.bool b) ∧ Below w.heap.size w w' := by
  have hs := ho.fm
  obtain ⟨X, hX⟩ : ∃ X, X = ((w.alloc (.cells #[.int .i64 t.K, .int .i64 t.N, .string t.S, .string t.Z, .int .i64 t.T.K, .int .i64 t.T.N, .slice a1 l1 c1, .slice a2 l2 c2, .slice a3 l3 c3] 35)).alloc (.cells #[.int .i64 t'.K, .int .i64 t'.N, .string t'.S, .string t'.Z, .int .i64 t'.T.K, .int .i64 t'.T.N, .slice b1 m1 d1, .slice b2 m2 d2, .slice b3 m3 d3] 35)) := ⟨_, rfl⟩
  have hbel : Below w.heap.size w X := by rw [hX]; exact ((Below.refl _ _).alloc (Nat.le_refl _) _).alloc (by simp) _
  have hXs : X.heap.size = w.heap.size + 2 := by rw [hX]; simp
  have hX0 : X.heap[w.heap.size]? = some (.cells #[.int .i64 t.K, .int .i64 t.N, .string t.S, .string t.Z, .int .i64 t.T.K, .int .i64 t.T.N, .slice a1 l1 c1, .slice a2 l2 c2, .slice a3 l3 c3] 35 (0, 0)) := by rw [hX, Below.heap_alloc _ _ _ (by simp)]; exact heap_new rfl
  have hX1 : X.heap[w.heap.size + 1]? = some (.cells #[.int .i64 t'.K, .int .i64 t'.N, .string t'.S, .string t'.Z, .int .i64 t'.T.K, .int .i64 t'.T.N, .slice b1 m1 d1, .slice b2 m2 d2, .slice b3 m3 d3] 35 (0, 0)) := by rw [hX]; exact heap_new (by simp)
  have HX : Hid (X = _) := hX
  have HB : Hid (b = true ↔ _) := hb
  clear hX hb
  go_enter Try.func12, Try.ntmps12
  go_wp2_with fail
  rw [← HX.out]
  refine (termOk_any D d L B t _ _ _ _ _ _ _ _ _ _ (by omega) (Fm.below hbel hB hs)).mono ?_
  rintro e w1 ⟨rfl, hb1⟩
  have hz1 := hb1.size
  have hbw1 : Below w.heap.size w w1 := hbel.trans (hb1.mono (by omega))
  have y0 := (hb1.block _ (by omega)).trans hX0
  have y1 := (hb1.block _ (by omega)).trans hX1
  obtain ⟨f0, f1, f2, f3, f4, f5, f6, f7, f8⟩ := Nine.box y0
  obtain ⟨g0, g1, g2, g3, g4, g5, g6, g7, g8⟩ := Nine.box y1
  simp only [Nat.zero_add] at f1 f2 f3 f4 f5 f6 f7 f8 g1 g2 g3 g4 g5 g6 g7 g8
  go_wp2_with fail
  refine (termOk_any D d L' B' t' _ _ _ _ _ _ _ _ _ _ (by omega) (Fm.below hbw1 hB' hs')).mono ?_
  rintro e w2 ⟨rfl, hb2⟩
  have hz2 := hb2.size
  have hbw2 : Below w.heap.size w w2 := hbw1.trans (hb2.mono (by omega))
  replace y0 := (hb2.block _ (by omega)).trans y0
  replace y1 := (hb2.block _ (by omega)).trans y1
  clear f0 f1 f2 f3 f4 f5 f6 f7 f8 g0 g1 g2 g3 g4 g5 g6 g7 g8
  obtain ⟨f0, f1, f2, f3, f4, f5, f6, f7, f8⟩ := Nine.box y0
  obtain ⟨g0, g1, g2, g3, g4, g5, g6, g7, g8⟩ := Nine.box y1
  simp only [Nat.zero_add] at f1 f2 f3 f4 f5 f6 f7 f8 g1 g2 g3 g4 g5 g6 g7 g8
  have HE : Hid (t = t' → okM t = okM t') := fun h => by rw [h]
  cases h1 : okM t
  all_goals cases h2 : okM t'
  · clear h1 h2 HE hX0 hX1
    obtain ⟨bs, ⟨p1, p2, p3, hbs, q1, q2, q3, q4, q5⟩, hnd, hrng⟩ := ho
    have hin : ∀ x ∈ bs, x < w.heap.size := fun x hx => Nat.lt_of_lt_of_le (hrng x hx).2 hB
    have hk : ∀ x ∈ bs, w2.heap[x]? = w.heap[x]? := fun x hx => hbw2.block x (hin x hx)
    have HI : Hid (ImOk w2 D d L' B' ⟨t, a1, l1, c1, a2, l2, c2, a3, l3, c3, p1, p2, p3, t', b1, m1, d1, b2, m2, d2, b3, m3, d3⟩) := by
      refine ⟨q1, q2, q3.keep fun x hx => hk x (by rw [hbs]; simp [hx]), q4.keep fun x hx => hk x (by rw [hbs]; simp [hx]), q5.keep fun x hx => hk x (by rw [hbs]; simp [hx]), Fm.below hbw2 hB' hs'⟩
    have HND : Hid ((p1 ++ p2 ++ p3).Nodup) := by show (p1 ++ p2 ++ p3).Nodup; rw [← hbs]; exact hnd
    have HRN : Hid (∀ x ∈ p1 ++ p2 ++ p3, x < w2.heap.size) := fun x hx => Nat.lt_of_lt_of_le (hin x (by rw [hbs]; exact hx)) hbw2.size
    clear hin hk q1 q2 q3 q4 q5 hnd hrng hbs
    go_wp2_with fail
    refine (sameAnyTerm_any D d L' B' ⟨t, a1, l1, c1, a2, l2, c2, a3, l3, c3, p1, p2, p3, t', b1, m1, d1, b2, m2, d2, b3, m3, d3⟩ b _ (by omega) HI.out HND.out HRN.out HB.out hc).mono ?_
    rintro e w3 ⟨rfl, hb3⟩
    go_wp2_with fail
    go_ret
    exact ⟨rfl, hbw2.trans (hb3.mono (by omega))⟩
  · have HF : Hid (b = false) := by
      show _ = _
      rw [Bool.eq_false_iff]; intro h
      have := HE.out (HB.out.1 h)
      rw [h1, h2] at this; cases this
    clear h1 h2
    go_wp2_with fail
    go_ret
    exact ⟨ret_bool HF.out.symm, hbw2⟩
  · have HF : Hid (b = false) := by
      show _ = _
      rw [Bool.eq_false_iff]; intro h
      have := HE.out (HB.out.1 h)
      rw [h1, h2] at this; cases this
    clear h1 h2
    go_wp2_with fail
    go_ret
    exact ⟨ret_bool HF.out.symm, hbw2⟩
  · clear h1 h2 HE
    go_wp2_with fail
    refine (rtM_any d D L B L' B' t t' _ _ _ _ _ _ _ _ _ _ _ _ _ _ _ _ _ _ b _ (by omega) (by omega) (Fm.below hbw2 hB hs) (Fm.below hbw2 hB' hs') HB.out).mono ?_
    rintro e w3 ⟨rfl, hb3⟩
    go_wp2_with fail
    go_ret
    exact ⟨rfl, hbw2.trans (hb3.mono (by omega))⟩

end Go.Proofs.Ytikfbgkjgbdoiaa
