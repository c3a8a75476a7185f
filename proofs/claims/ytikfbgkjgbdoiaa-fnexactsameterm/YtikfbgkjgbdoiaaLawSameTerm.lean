/-
  The law FnExactSameTerm's walk: whatever two terms lie in memory, true.
-/
import Derived.Test.YtikfbgkjgbdoiaaStM
import Derived.Test.YtikfbgkjgbdoiaaSzM
import Derived.Test.YtikfbgkjgbdoiaaToM
import Derived.Test.YtikfbgkjgbdoiaaToM2
import Derived.Test.YtikfbgkjgbdoiaaEqM
import Derived.Sort.AtCall
namespace Go.Proofs.Ytikfbgkjgbdoiaa
open Go.RowKit
set_option linter.unusedVariables false
set_option linter.unusedSimpArgs false

set_option maxHeartbeats 8000000 in
theorem law_sameTerm (D d L B L2 B2 : Nat) (t t' : Tm) (a1 : Option Addr) (l1 c1 : Nat) (a2 : Option Addr) (l2 c2 : Nat) (a3 : Option Addr) (l3 c3 : Nat) (b1 : Option Addr) (m1 d1 : Nat) (b2 : Option Addr) (m2 d2 : Nat) (b3 : Option Addr) (m3 d3 : Nat) (w : World) (hB : B ≤ w.heap.size) (hs : Fm L B w D d t a1 l1 a2 l2 a3 l3) (hB2 : B2 ≤ w.heap.size) (hs2 : Fm L2 B2 w D d t' b1 m1 b2 m2 b3 m3) :
    Calls Try.prog 3 #[.agg #[.int .i64 t.K, .int .i64 t.N, .string t.S, .string t.Z, .int .i64 t.T.K, .int .i64 t.T.N, .slice a1 l1 c1, .slice a2 l2 c2, .slice a3 l3 c3], .agg #[.int .i64 t'.K, .int .i64 t'.N, .string t'.S, .string t'.Z, .int .i64 t'.T.K, .int .i64 t'.T.N, .slice b1 m1 d1, .slice b2 m2 d2, .slice b3 m3 d3]] w fun e w' => e = .returned (.bool true) ∧ Below w.heap.size w w' := by
  obtain ⟨b, hb⟩ : ∃ b : Bool, b = true ↔ t = t' := by
    by_cases h : t = t'
    · exact ⟨true, Iff.intro (fun _ => h) (fun _ => rfl)⟩
    · exact ⟨false, Iff.intro (fun h' => nomatch h') (fun h' => (h h').elim)⟩
  have HB : Hid (b = true ↔ _) := hb
  clear hb
  obtain ⟨X, hX⟩ : ∃ X, X = ((w.alloc (.cells #[.int .i64 t.K, .int .i64 t.N, .string t.S, .string t.Z, .int .i64 t.T.K, .int .i64 t.T.N, .slice a1 l1 c1, .slice a2 l2 c2, .slice a3 l3 c3] 27)).alloc (.cells #[.int .i64 t'.K, .int .i64 t'.N, .string t'.S, .string t'.Z, .int .i64 t'.T.K, .int .i64 t'.T.N, .slice b1 m1 d1, .slice b2 m2 d2, .slice b3 m3 d3] 27)) := ⟨_, rfl⟩
  have hXb : Below w.heap.size w X := by rw [hX]; exact ((Below.refl _ _).alloc (Nat.le_refl _) _).alloc (by simp) _
  have hXs : X.heap.size = w.heap.size + 2 := by rw [hX]; simp
  have hX0 : X.heap[w.heap.size]? = some (.cells #[.int .i64 t.K, .int .i64 t.N, .string t.S, .string t.Z, .int .i64 t.T.K, .int .i64 t.T.N, .slice a1 l1 c1, .slice a2 l2 c2, .slice a3 l3 c3] 27 (0, 0)) := by rw [hX, Below.heap_alloc _ _ _ (by simp)]; exact heap_new rfl
  have hX1 : X.heap[w.heap.size + 1]? = some (.cells #[.int .i64 t'.K, .int .i64 t'.N, .string t'.S, .string t'.Z, .int .i64 t'.T.K, .int .i64 t'.T.N, .slice b1 m1 d1, .slice b2 m2 d2, .slice b3 m3 d3] 27 (0, 0)) := by rw [hX]; exact heap_new (by simp)
  have HX : Hid (X = _) := hX
  clear hX
  by_cases hc : (cntM t : Int) ≤ 1048576
  case' neg =>
    go_enter Try.func3, Try.ntmps3
    go_wp2_with fail
    rw [← HX.out]
    refine (szTerm_any D d L B t _ _ _ _ _ _ _ _ _ _ _ (by omega) (Fm.below hXb hB hs) (by omega) (by omega)).mono ?_
    rintro e w1 ⟨rfl, hb1⟩
    rw [szN_neg (by omega)]
    go_wp2_with fail
    go_ret
    exact ⟨rfl, hXb.trans (hb1.mono (by omega))⟩
  go_enter Try.func3, Try.ntmps3
  go_wp2_with fail
  rw [← HX.out]
  refine (szTerm_any D d L B t _ _ _ _ _ _ _ _ _ _ _ (by omega) (Fm.below hXb hB hs) (by omega) (by omega)).mono ?_
  rintro e w1 ⟨rfl, hb1⟩
  rw [szN_pos hc]
  have hz1 := hb1.size
  have hbw1 : Below w.heap.size w w1 := hXb.trans (hb1.mono (by omega))
  have y0 := (hb1.block _ (by omega)).trans hX0
  have y1 := (hb1.block _ (by omega)).trans hX1
  obtain ⟨g0, g1, g2, g3, g4, g5, g6, g7, g8⟩ := Nine.box y1
  simp only [Nat.zero_add] at g1 g2 g3 g4 g5 g6 g7 g8
  go_wp2_with fail
  refine (szTerm_any D d L2 B2 t' _ _ _ _ _ _ _ _ _ _ _ (by omega) (Fm.below hbw1 hB2 hs2) (by omega) (by omega)).mono ?_
  rintro e w2 ⟨rfl, hb2⟩
  have hz2 := hb2.size
  have hbw2 : Below w.heap.size w w2 := hbw1.trans (hb2.mono (by omega))
  by_cases hc2 : (cntM t' : Int) ≤ 1048576 - cntM t
  case' neg =>
    rw [szN_neg (by omega)]
    go_wp2_with fail
    go_ret
    exact ⟨rfl, hbw2⟩
  rw [szN_pos hc2]
  have hcn : cntM t ≤ 1048576 := by omega
  have hcn2 : cntM t' ≤ 1048576 := by omega
  replace y0 := (hb2.block _ (by omega)).trans y0
  replace y1 := (hb2.block _ (by omega)).trans y1
  clear g0 g1 g2 g3 g4 g5 g6 g7 g8 hX0 hX1
  obtain ⟨f0, f1, f2, f3, f4, f5, f6, f7, f8⟩ := Nine.box y0
  obtain ⟨g0, g1, g2, g3, g4, g5, g6, g7, g8⟩ := Nine.box y1
  simp only [Nat.zero_add] at f1 f2 f3 f4 f5 f6 f7 f8
  simp only [Nat.zero_add] at g1 g2 g3 g4 g5 g6 g7 g8
  have hl2 : w.heap.size < w2.heap.size := by omega
  have hl2' : w.heap.size + 1 < w2.heap.size := by omega
  have SKH : Hid (∀ W : World, Below w2.heap.size w2 W → W.cell? ⟨w.heap.size, 0, none⟩ = some (.int .i64 t.K) ∧ W.cell? ⟨w.heap.size, 1, none⟩ = some (.int .i64 t.N) ∧ W.cell? ⟨w.heap.size, 2, none⟩ = some (.string t.S) ∧ W.cell? ⟨w.heap.size, 3, none⟩ = some (.string t.Z) ∧ W.cell? ⟨w.heap.size, 4, none⟩ = some (.int .i64 t.T.K) ∧ W.cell? ⟨w.heap.size, 5, none⟩ = some (.int .i64 t.T.N) ∧ W.cell? ⟨w.heap.size, 6, none⟩ = some (.slice a1 l1 c1) ∧ W.cell? ⟨w.heap.size, 7, none⟩ = some (.slice a2 l2 c2) ∧ W.cell? ⟨w.heap.size, 8, none⟩ = some (.slice a3 l3 c3) ∧ W.cell? ⟨w.heap.size + 1, 0, none⟩ = some (.int .i64 t'.K) ∧ W.cell? ⟨w.heap.size + 1, 1, none⟩ = some (.int .i64 t'.N) ∧ W.cell? ⟨w.heap.size + 1, 2, none⟩ = some (.string t'.S) ∧ W.cell? ⟨w.heap.size + 1, 3, none⟩ = some (.string t'.Z) ∧ W.cell? ⟨w.heap.size + 1, 4, none⟩ = some (.int .i64 t'.T.K) ∧ W.cell? ⟨w.heap.size + 1, 5, none⟩ = some (.int .i64 t'.T.N) ∧ W.cell? ⟨w.heap.size + 1, 6, none⟩ = some (.slice b1 m1 d1) ∧ W.cell? ⟨w.heap.size + 1, 7, none⟩ = some (.slice b2 m2 d2) ∧ W.cell? ⟨w.heap.size + 1, 8, none⟩ = some (.slice b3 m3 d3)) :=
    fun W hW => ⟨(bcell hW hl2 0).trans f0, (bcell hW hl2 1).trans f1, (bcell hW hl2 2).trans f2, (bcell hW hl2 3).trans f3, (bcell hW hl2 4).trans f4, (bcell hW hl2 5).trans f5, (bcell hW hl2 6).trans f6, (bcell hW hl2 7).trans f7, (bcell hW hl2 8).trans f8, (bcell hW hl2' 0).trans g0, (bcell hW hl2' 1).trans g1, (bcell hW hl2' 2).trans g2, (bcell hW hl2' 3).trans g3, (bcell hW hl2' 4).trans g4, (bcell hW hl2' 5).trans g5, (bcell hW hl2' 6).trans g6, (bcell hW hl2' 7).trans g7, (bcell hW hl2' 8).trans g8⟩
  have hsd := (Fm.below hbw2 hB hs).drew
  have hsd2 := (Fm.below hbw2 hB2 hs2).drew
  have hBd : B ≤ w2.drew.heap.size := by show B ≤ w2.heap.size; omega
  have hBd2 : B2 ≤ w2.drew.heap.size := by show B2 ≤ w2.heap.size; omega
  go_wp2_with fail
  go_region_held3 (fun W => W.cell? ⟨w.heap.size, 0, none⟩ = some (.int .i64 t.K) ∧ W.cell? ⟨w.heap.size, 1, none⟩ = some (.int .i64 t.N) ∧ W.cell? ⟨w.heap.size, 2, none⟩ = some (.string t.S) ∧ W.cell? ⟨w.heap.size, 3, none⟩ = some (.string t.Z) ∧ W.cell? ⟨w.heap.size, 4, none⟩ = some (.int .i64 t.T.K) ∧ W.cell? ⟨w.heap.size, 5, none⟩ = some (.int .i64 t.T.N) ∧ W.cell? ⟨w.heap.size, 6, none⟩ = some (.slice a1 l1 c1) ∧ W.cell? ⟨w.heap.size, 7, none⟩ = some (.slice a2 l2 c2) ∧ W.cell? ⟨w.heap.size, 8, none⟩ = some (.slice a3 l3 c3) ∧ W.cell? ⟨w.heap.size + 1, 0, none⟩ = some (.int .i64 t'.K) ∧ W.cell? ⟨w.heap.size + 1, 1, none⟩ = some (.int .i64 t'.N) ∧ W.cell? ⟨w.heap.size + 1, 2, none⟩ = some (.string t'.S) ∧ W.cell? ⟨w.heap.size + 1, 3, none⟩ = some (.string t'.Z) ∧ W.cell? ⟨w.heap.size + 1, 4, none⟩ = some (.int .i64 t'.T.K) ∧ W.cell? ⟨w.heap.size + 1, 5, none⟩ = some (.int .i64 t'.T.N) ∧ W.cell? ⟨w.heap.size + 1, 6, none⟩ = some (.slice b1 m1 d1) ∧ W.cell? ⟨w.heap.size + 1, 7, none⟩ = some (.slice b2 m2 d2) ∧ W.cell? ⟨w.heap.size + 1, 8, none⟩ = some (.slice b3 m3 d3))
    (first | (refine ⟨?_, ?_, ?_, ?_, ?_, ?_, ?_, ?_, ?_, ?_, ?_, ?_, ?_, ?_, ?_, ?_, ?_, ?_⟩; exact f0; exact f1; exact f2; exact f3; exact f4; exact f5; exact f6; exact f7; exact f8; exact g0; exact g1; exact g2; exact g3; exact g4; exact g5; exact g6; exact g7; exact g8) | exact SKH.out _ hbC | exact SKH.out _ hbB | exact SKH.out _ hbA)
    (first
      | (go_at_call_has 11 t; refine (toTerm_any D d L B t _ _ _ _ _ _ _ _ _ _ (by first | exact hBd | exact Nat.le_trans hBd hbb.size) (by first | exact hsd | exact Fm.below hbb hBd hsd) hcn).mono ?_; rintro e wa ⟨ga1, ga2, ga3, rfl, hba, hsa⟩; have hbA : Below w2.heap.size w2 wa := (by first | exact (Below.refl _ _).drew.trans hba | exact hbB.trans (hba.mono hbB.size)))
      | (go_at_call_has 11 t'; refine (toTerm_any D d L2 B2 t' _ _ _ _ _ _ _ _ _ _ (by first | exact hBd2 | exact Nat.le_trans hBd2 hba.size) (by first | exact hsd2 | exact Fm.below hba hBd2 hsd2) hcn2).mono ?_; rintro e wb ⟨gb1, gb2, gb3, rfl, hbb, hsb⟩; have hbB : Below w2.heap.size w2 wb := (by first | exact (Below.refl _ _).drew.trans hbb | exact hbA.trans (hbb.mono hbA.size)))
      | (go_at_call 10; (first | refine (ssm_any d D _ wa.heap.size _ wb.heap.size t t' _ _ _ _ _ _ _ _ _ _ _ _ _ _ _ _ _ _ b wb hbb.size (Nat.le_refl _) (Fm.below hbb (Nat.le_refl _) hsa) hsb HB.out).mono ?_ | refine (ssm_any d D _ wa.heap.size _ wb.heap.size t t' _ _ _ _ _ _ _ _ _ _ _ _ _ _ _ _ _ _ b wa (Nat.le_refl _) hba.size hsa (Fm.below hba (Nat.le_refl _) hsb) HB.out).mono ?_); rintro e w5 ⟨rfl, hb5⟩; have hbC : Below w2.heap.size w2 w5 := (by first | exact hbB.trans (hb5.mono hbB.size) | exact hbA.trans (hb5.mono hbA.size))))
  all_goals
    have hz5 := hbC.size
    have hbw5 : Below w.heap.size w w5 := hbw2.trans (hbC.mono (by omega))
    have v0 := (hbC.block _ hl2).trans y0
    have v1 := (hbC.block _ hl2').trans y1
    clear f0 f1 f2 f3 f4 f5 f6 f7 f8 g0 g1 g2 g3 g4 g5 g6 g7 g8 hsa hsb hba hbb hbA hbB hsd hsd2 hb5
    obtain ⟨f0, f1, f2, f3, f4, f5, f6, f7, f8⟩ := Nine.box v0
    simp only [Nat.zero_add] at f1 f2 f3 f4 f5 f6 f7 f8
    go_wp2_with fail
    refine (toTerm_any2 D d L B t _ _ _ _ _ _ _ _ _ _ (by omega) (Fm.below hbw5 hB hs) hcn).mono ?_
    rintro e w6 ⟨g61, g62, g63, rfl, hb6, ho6⟩
    have hz6 := hb6.size
    have hbw6 : Below w.heap.size w w6 := hbw5.trans (hb6.mono (by omega))
    have a0 := (hb6.block w.heap.size (by omega)).trans v0
    have a1' := (hb6.block (w.heap.size + 1) (by omega)).trans v1
    clear f0 f1 f2 f3 f4 f5 f6 f7 f8
    obtain ⟨g0, g1, g2, g3, g4, g5, g6, g7, g8⟩ := Nine.box a1'
    simp only [Nat.zero_add] at g1 g2 g3 g4 g5 g6 g7 g8
    have hl6 : w.heap.size + 1 < w6.heap.size := by omega
    have hA6 : Below w6.heap.size w6 (w6.alloc (.cells #[.int .i64 t.K, .int .i64 t.N, .string t.S, .string t.Z, .int .i64 t.T.K, .int .i64 t.T.N, .slice (some ⟨g61, 0, none⟩) l1 l1, .slice (some ⟨g62, 0, none⟩) l2 l2, .slice (some ⟨g63, 0, none⟩) l3 l3] 35)) := (Below.refl _ _).alloc (Nat.le_refl _) _
    have hA6w : Below w.heap.size w (w6.alloc (.cells #[.int .i64 t.K, .int .i64 t.N, .string t.S, .string t.Z, .int .i64 t.T.K, .int .i64 t.T.N, .slice (some ⟨g61, 0, none⟩) l1 l1, .slice (some ⟨g62, 0, none⟩) l2 l2, .slice (some ⟨g63, 0, none⟩) l3 l3] 35)) := hbw6.trans (hA6.mono (by omega))
    go_wp2_with fail
    refine (toTerm_any D d L2 B2 t' _ _ _ _ _ _ _ _ _ _ (by simp; omega) (Fm.below hA6w hB2 hs2) hcn2).mono ?_
    rintro e w7 ⟨g71, g72, g73, rfl, hb7, hs7⟩
    have hz7 := hb7.size
    simp only [World.size_alloc] at hz7
    have hbw7 : Below w.heap.size w w7 := hA6w.trans (hb7.mono (by simp; omega))
    have x0 : w7.heap[w6.heap.size]? = some (.cells #[.int .i64 t.K, .int .i64 t.N, .string t.S, .string t.Z, .int .i64 t.T.K, .int .i64 t.T.N, .slice (some ⟨g61, 0, none⟩) l1 l1, .slice (some ⟨g62, 0, none⟩) l2 l2, .slice (some ⟨g63, 0, none⟩) l3 l3] 35 (0, 0)) := (hb7.block w6.heap.size (by simp)).trans (heap_new rfl)
    have b0 := (hb7.block w.heap.size (by simp; omega)).trans ((hA6.block _ (by omega)).trans a0)
    have b1' := (hb7.block (w.heap.size + 1) (by simp; omega)).trans ((hA6.block _ (by omega)).trans a1')
    have ho7 := (ho6.below hA6 (Nat.le_refl _)).below hb7 (by simp)
    clear g0 g1 g2 g3 g4 g5 g6 g7 g8
    obtain ⟨g0, g1, g2, g3, g4, g5, g6, g7, g8⟩ := Nine.box x0
    simp only [Nat.zero_add] at g1 g2 g3 g4 g5 g6 g7 g8
    have hl7 : w6.heap.size < w7.heap.size := by omega
    have hA7 : Below w7.heap.size w7 (w7.alloc (.cells #[.int .i64 t'.K, .int .i64 t'.N, .string t'.S, .string t'.Z, .int .i64 t'.T.K, .int .i64 t'.T.N, .slice (some ⟨g71, 0, none⟩) m1 m1, .slice (some ⟨g72, 0, none⟩) m2 m2, .slice (some ⟨g73, 0, none⟩) m3 m3] 35)) := (Below.refl _ _).alloc (Nat.le_refl _) _
    have hA7w : Below w.heap.size w (w7.alloc (.cells #[.int .i64 t'.K, .int .i64 t'.N, .string t'.S, .string t'.Z, .int .i64 t'.T.K, .int .i64 t'.T.N, .slice (some ⟨g71, 0, none⟩) m1 m1, .slice (some ⟨g72, 0, none⟩) m2 m2, .slice (some ⟨g73, 0, none⟩) m3 m3] 35)) := hbw7.trans (hA7.mono (by omega))
    have ho8 := ho7.below hA7 (by omega)
    have hs8 := Fm.below hA7 (Nat.le_refl _) hs7
    go_wp2_with fail
    refine (sameTerm_any D d _ _ _ _ t t' _ _ _ _ _ _ _ _ _ _ _ _ _ _ _ _ _ _ b _ (by simp; omega) (by simp) ho8 hs8 HB.out hcn).mono ?_
    rintro e w8 ⟨rfl, hb8⟩
    have hz8 := hb8.size
    simp only [World.size_alloc] at hz8
    have hbw8 : Below w.heap.size w w8 := hA7w.trans (hb8.mono (by simp; omega))
    have c0 := (hb8.block w.heap.size (by simp; omega)).trans ((hA7.block _ (by omega)).trans b0)
    have c1' := (hb8.block (w.heap.size + 1) (by simp; omega)).trans ((hA7.block _ (by omega)).trans b1')
    have d0 := (hb8.block w6.heap.size (by simp; omega)).trans ((hA7.block _ (by omega)).trans x0)
    have d1' : w8.heap[w7.heap.size]? = some (.cells #[.int .i64 t'.K, .int .i64 t'.N, .string t'.S, .string t'.Z, .int .i64 t'.T.K, .int .i64 t'.T.N, .slice (some ⟨g71, 0, none⟩) m1 m1, .slice (some ⟨g72, 0, none⟩) m2 m2, .slice (some ⟨g73, 0, none⟩) m3 m3] 35 (0, 0)) := (hb8.block w7.heap.size (by simp)).trans (heap_new rfl)
    have ho9 := (ho8.below hb8 (by simp; omega)).fm
    have hs9 := Fm.below hb8 (by simp) hs8
    clear g0 g1 g2 g3 g4 g5 g6 g7 g8 v0 v1 a0 a1' b0 b1' x0 y0 y1 ho6 ho7 ho8 hs7 hs8
    obtain ⟨p0, p1, p2, p3, p4, p5, p6, p7, p8⟩ := Nine.box c0
    obtain ⟨q0, q1, q2, q3, q4, q5, q6, q7, q8⟩ := Nine.box d0
    simp only [Nat.zero_add] at p1 p2 p3 p4 p5 p6 p7 p8
    simp only [Nat.zero_add] at q1 q2 q3 q4 q5 q6 q7 q8
    have hs8a := Fm.below hbw8 hB hs
    have hl8 : w6.heap.size < w8.heap.size := by omega
    have hwl : w.heap.size < w8.heap.size := by omega
    have SK1 : Hid (∀ W : World, Below w8.heap.size w8 W → W.cell? ⟨w.heap.size, 0, none⟩ = some (.int .i64 t.K) ∧ W.cell? ⟨w.heap.size, 1, none⟩ = some (.int .i64 t.N) ∧ W.cell? ⟨w.heap.size, 2, none⟩ = some (.string t.S) ∧ W.cell? ⟨w.heap.size, 3, none⟩ = some (.string t.Z) ∧ W.cell? ⟨w.heap.size, 4, none⟩ = some (.int .i64 t.T.K) ∧ W.cell? ⟨w.heap.size, 5, none⟩ = some (.int .i64 t.T.N) ∧ W.cell? ⟨w.heap.size, 6, none⟩ = some (.slice a1 l1 c1) ∧ W.cell? ⟨w.heap.size, 7, none⟩ = some (.slice a2 l2 c2) ∧ W.cell? ⟨w.heap.size, 8, none⟩ = some (.slice a3 l3 c3) ∧ W.cell? ⟨w6.heap.size, 0, none⟩ = some (.int .i64 t.K) ∧ W.cell? ⟨w6.heap.size, 1, none⟩ = some (.int .i64 t.N) ∧ W.cell? ⟨w6.heap.size, 2, none⟩ = some (.string t.S) ∧ W.cell? ⟨w6.heap.size, 3, none⟩ = some (.string t.Z) ∧ W.cell? ⟨w6.heap.size, 4, none⟩ = some (.int .i64 t.T.K) ∧ W.cell? ⟨w6.heap.size, 5, none⟩ = some (.int .i64 t.T.N) ∧ W.cell? ⟨w6.heap.size, 6, none⟩ = some (.slice (some ⟨g61, 0, none⟩) l1 l1) ∧ W.cell? ⟨w6.heap.size, 7, none⟩ = some (.slice (some ⟨g62, 0, none⟩) l2 l2) ∧ W.cell? ⟨w6.heap.size, 8, none⟩ = some (.slice (some ⟨g63, 0, none⟩) l3 l3)) := fun W hW => ⟨(bcell hW hwl 0).trans p0, (bcell hW hwl 1).trans p1, (bcell hW hwl 2).trans p2, (bcell hW hwl 3).trans p3, (bcell hW hwl 4).trans p4, (bcell hW hwl 5).trans p5, (bcell hW hwl 6).trans p6, (bcell hW hwl 7).trans p7, (bcell hW hwl 8).trans p8, (bcell hW hl8 0).trans q0, (bcell hW hl8 1).trans q1, (bcell hW hl8 2).trans q2, (bcell hW hl8 3).trans q3, (bcell hW hl8 4).trans q4, (bcell hW hl8 5).trans q5, (bcell hW hl8 6).trans q6, (bcell hW hl8 7).trans q7, (bcell hW hl8 8).trans q8⟩
    have hs8d := Fm.drew hs8a
    have ho9d := Fm.drew ho9
    have hBd8 : B ≤ w8.drew.heap.size := by show B ≤ w8.heap.size; omega
    have h68 : w6.heap.size ≤ w8.drew.heap.size := by show w6.heap.size ≤ w8.heap.size; omega
    go_wp2_with fail
    go_region_held3 (fun W => W.cell? ⟨w.heap.size, 0, none⟩ = some (.int .i64 t.K) ∧ W.cell? ⟨w.heap.size, 1, none⟩ = some (.int .i64 t.N) ∧ W.cell? ⟨w.heap.size, 2, none⟩ = some (.string t.S) ∧ W.cell? ⟨w.heap.size, 3, none⟩ = some (.string t.Z) ∧ W.cell? ⟨w.heap.size, 4, none⟩ = some (.int .i64 t.T.K) ∧ W.cell? ⟨w.heap.size, 5, none⟩ = some (.int .i64 t.T.N) ∧ W.cell? ⟨w.heap.size, 6, none⟩ = some (.slice a1 l1 c1) ∧ W.cell? ⟨w.heap.size, 7, none⟩ = some (.slice a2 l2 c2) ∧ W.cell? ⟨w.heap.size, 8, none⟩ = some (.slice a3 l3 c3) ∧ W.cell? ⟨w6.heap.size, 0, none⟩ = some (.int .i64 t.K) ∧ W.cell? ⟨w6.heap.size, 1, none⟩ = some (.int .i64 t.N) ∧ W.cell? ⟨w6.heap.size, 2, none⟩ = some (.string t.S) ∧ W.cell? ⟨w6.heap.size, 3, none⟩ = some (.string t.Z) ∧ W.cell? ⟨w6.heap.size, 4, none⟩ = some (.int .i64 t.T.K) ∧ W.cell? ⟨w6.heap.size, 5, none⟩ = some (.int .i64 t.T.N) ∧ W.cell? ⟨w6.heap.size, 6, none⟩ = some (.slice (some ⟨g61, 0, none⟩) l1 l1) ∧ W.cell? ⟨w6.heap.size, 7, none⟩ = some (.slice (some ⟨g62, 0, none⟩) l2 l2) ∧ W.cell? ⟨w6.heap.size, 8, none⟩ = some (.slice (some ⟨g63, 0, none⟩) l3 l3))
      (first | (refine ⟨?_, ?_, ?_, ?_, ?_, ?_, ?_, ?_, ?_, ?_, ?_, ?_, ?_, ?_, ?_, ?_, ?_, ?_⟩; exact p0; exact p1; exact p2; exact p3; exact p4; exact p5; exact p6; exact p7; exact p8; exact q0; exact q1; exact q2; exact q3; exact q4; exact q5; exact q6; exact q7; exact q8) | exact SK1.out _ hb10' | exact SK1.out _ hb9')
      (first
        | (go_at_call 11; refine (toTerm_any D d L B t _ _ _ _ _ _ _ _ _ _ hBd8 hs8d hcn).mono ?_; rintro e w9 ⟨g91, g92, g93, rfl, hb9, hn9⟩; have hb9' : Below w8.heap.size w8 w9 := (Below.refl _ _).drew.trans hb9)
        | (go_at_call 13; refine (eqTerm_any D d _ _ _ _ t _ _ _ _ _ _ _ _ _ _ _ _ _ _ _ _ _ _ _ (Nat.le_trans h68 hb9.size) (Nat.le_refl _) (Fm.below hb9 h68 ho9d) hn9).mono ?_; rintro e w10 ⟨rfl, hb10⟩; have hb10' : Below w8.heap.size w8 w10 := hb9'.trans (hb10.mono hb9'.size)))
    all_goals
      have hz10 := hb10'.size
      have hbw10 : Below w.heap.size w w10 := hbw8.trans (hb10'.mono (by omega))
      have e1 := (hb10'.block (w.heap.size + 1) (by omega)).trans c1'
      have e2 := (hb10'.block w7.heap.size (by omega)).trans d1'
      have hs10 := Fm.below hb10' (by omega) hs9
      clear p0 p1 p2 p3 p4 p5 p6 p7 p8 q0 q1 q2 q3 q4 q5 q6 q7 q8 hb9 hb10 hb9' hn9 c0 c1' d0 d1' hs8d ho9d
      obtain ⟨p0, p1, p2, p3, p4, p5, p6, p7, p8⟩ := Nine.box e1
      obtain ⟨q0, q1, q2, q3, q4, q5, q6, q7, q8⟩ := Nine.box e2
      simp only [Nat.zero_add] at p1 p2 p3 p4 p5 p6 p7 p8
      simp only [Nat.zero_add] at q1 q2 q3 q4 q5 q6 q7 q8
      have hwl1 : w.heap.size + 1 < w10.heap.size := by omega
      have hwl7 : w7.heap.size < w10.heap.size := by omega
      have SK2 : Hid (∀ W : World, Below w10.heap.size w10 W → W.cell? ⟨w.heap.size + 1, 0, none⟩ = some (.int .i64 t'.K) ∧ W.cell? ⟨w.heap.size + 1, 1, none⟩ = some (.int .i64 t'.N) ∧ W.cell? ⟨w.heap.size + 1, 2, none⟩ = some (.string t'.S) ∧ W.cell? ⟨w.heap.size + 1, 3, none⟩ = some (.string t'.Z) ∧ W.cell? ⟨w.heap.size + 1, 4, none⟩ = some (.int .i64 t'.T.K) ∧ W.cell? ⟨w.heap.size + 1, 5, none⟩ = some (.int .i64 t'.T.N) ∧ W.cell? ⟨w.heap.size + 1, 6, none⟩ = some (.slice b1 m1 d1) ∧ W.cell? ⟨w.heap.size + 1, 7, none⟩ = some (.slice b2 m2 d2) ∧ W.cell? ⟨w.heap.size + 1, 8, none⟩ = some (.slice b3 m3 d3) ∧ W.cell? ⟨w7.heap.size, 0, none⟩ = some (.int .i64 t'.K) ∧ W.cell? ⟨w7.heap.size, 1, none⟩ = some (.int .i64 t'.N) ∧ W.cell? ⟨w7.heap.size, 2, none⟩ = some (.string t'.S) ∧ W.cell? ⟨w7.heap.size, 3, none⟩ = some (.string t'.Z) ∧ W.cell? ⟨w7.heap.size, 4, none⟩ = some (.int .i64 t'.T.K) ∧ W.cell? ⟨w7.heap.size, 5, none⟩ = some (.int .i64 t'.T.N) ∧ W.cell? ⟨w7.heap.size, 6, none⟩ = some (.slice (some ⟨g71, 0, none⟩) m1 m1) ∧ W.cell? ⟨w7.heap.size, 7, none⟩ = some (.slice (some ⟨g72, 0, none⟩) m2 m2) ∧ W.cell? ⟨w7.heap.size, 8, none⟩ = some (.slice (some ⟨g73, 0, none⟩) m3 m3)) := fun W hW => ⟨(bcell hW hwl1 0).trans p0, (bcell hW hwl1 1).trans p1, (bcell hW hwl1 2).trans p2, (bcell hW hwl1 3).trans p3, (bcell hW hwl1 4).trans p4, (bcell hW hwl1 5).trans p5, (bcell hW hwl1 6).trans p6, (bcell hW hwl1 7).trans p7, (bcell hW hwl1 8).trans p8, (bcell hW hwl7 0).trans q0, (bcell hW hwl7 1).trans q1, (bcell hW hwl7 2).trans q2, (bcell hW hwl7 3).trans q3, (bcell hW hwl7 4).trans q4, (bcell hW hwl7 5).trans q5, (bcell hW hwl7 6).trans q6, (bcell hW hwl7 7).trans q7, (bcell hW hwl7 8).trans q8⟩
      have hs10d := Fm.drew (Fm.below hbw10 hB2 hs2)
      have hy10d := Fm.drew hs10
      have hBd10 : B2 ≤ w10.drew.heap.size := by show B2 ≤ w10.heap.size; omega
      have h710 : w7.heap.size ≤ w10.drew.heap.size := by show w7.heap.size ≤ w10.heap.size; omega
      go_wp2_with fail
      go_region_held3 (fun W => W.cell? ⟨w.heap.size + 1, 0, none⟩ = some (.int .i64 t'.K) ∧ W.cell? ⟨w.heap.size + 1, 1, none⟩ = some (.int .i64 t'.N) ∧ W.cell? ⟨w.heap.size + 1, 2, none⟩ = some (.string t'.S) ∧ W.cell? ⟨w.heap.size + 1, 3, none⟩ = some (.string t'.Z) ∧ W.cell? ⟨w.heap.size + 1, 4, none⟩ = some (.int .i64 t'.T.K) ∧ W.cell? ⟨w.heap.size + 1, 5, none⟩ = some (.int .i64 t'.T.N) ∧ W.cell? ⟨w.heap.size + 1, 6, none⟩ = some (.slice b1 m1 d1) ∧ W.cell? ⟨w.heap.size + 1, 7, none⟩ = some (.slice b2 m2 d2) ∧ W.cell? ⟨w.heap.size + 1, 8, none⟩ = some (.slice b3 m3 d3) ∧ W.cell? ⟨w7.heap.size, 0, none⟩ = some (.int .i64 t'.K) ∧ W.cell? ⟨w7.heap.size, 1, none⟩ = some (.int .i64 t'.N) ∧ W.cell? ⟨w7.heap.size, 2, none⟩ = some (.string t'.S) ∧ W.cell? ⟨w7.heap.size, 3, none⟩ = some (.string t'.Z) ∧ W.cell? ⟨w7.heap.size, 4, none⟩ = some (.int .i64 t'.T.K) ∧ W.cell? ⟨w7.heap.size, 5, none⟩ = some (.int .i64 t'.T.N) ∧ W.cell? ⟨w7.heap.size, 6, none⟩ = some (.slice (some ⟨g71, 0, none⟩) m1 m1) ∧ W.cell? ⟨w7.heap.size, 7, none⟩ = some (.slice (some ⟨g72, 0, none⟩) m2 m2) ∧ W.cell? ⟨w7.heap.size, 8, none⟩ = some (.slice (some ⟨g73, 0, none⟩) m3 m3))
        (first | (refine ⟨?_, ?_, ?_, ?_, ?_, ?_, ?_, ?_, ?_, ?_, ?_, ?_, ?_, ?_, ?_, ?_, ?_, ?_⟩; exact p0; exact p1; exact p2; exact p3; exact p4; exact p5; exact p6; exact p7; exact p8; exact q0; exact q1; exact q2; exact q3; exact q4; exact q5; exact q6; exact q7; exact q8) | exact SK2.out _ hb12' | exact SK2.out _ hb11')
        (first
          | (go_at_call 11; refine (toTerm_any D d L2 B2 t' _ _ _ _ _ _ _ _ _ _ hBd10 hs10d hcn2).mono ?_; rintro e w11 ⟨g111, g112, g113, rfl, hb11, hn11⟩; have hb11' : Below w10.heap.size w10 w11 := (Below.refl _ _).drew.trans hb11)
          | (go_at_call 13; refine (eqTerm_any D d _ _ _ _ t' _ _ _ _ _ _ _ _ _ _ _ _ _ _ _ _ _ _ _ (Nat.le_trans h710 hb11.size) (Nat.le_refl _) (Fm.below hb11 h710 hy10d) hn11).mono ?_; rintro e w12 ⟨rfl, hb12⟩; have hb12' : Below w10.heap.size w10 w12 := hb11'.trans (hb12.mono hb11'.size)))
      all_goals
        have hbw12 : Below w.heap.size w w12 := hbw10.trans (hb12'.mono (by omega))
        go_wp2_with fail
        go_ret
        exact ⟨rfl, hbw12⟩

end Go.Proofs.Ytikfbgkjgbdoiaa
