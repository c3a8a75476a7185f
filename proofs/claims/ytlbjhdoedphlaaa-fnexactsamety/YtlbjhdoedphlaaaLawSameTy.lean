/-
  The law FnExactSameTy's walk: whatever two types lie in memory, true.
-/
import Derived.Test.YtlbjhdoedphlaaaSt
import Derived.Test.YtlbjhdoedphlaaaSp
import Derived.Test.YtlbjhdoedphlaaaSz
import Derived.Test.YtlbjhdoedphlaaaTo
import Derived.Test.YtlbjhdoedphlaaaEq
import Derived.Sort.AtCall
namespace Go.Proofs.Ytlbjhdoedphlaaa
open Go.RowKit
set_option linter.unusedVariables false
set_option linter.unusedSimpArgs false

set_option maxHeartbeats 4000000 in
theorem law_sameTy (d L B L2 B2 : Nat) (k n : Int) (ao : Option Addr) (len cap : Nat) (ts : List Tr) (k' n' : Int) (ao' : Option Addr) (len' cap' : Nat) (ts' : List Tr) (w : World) (hB : B ≤ w.heap.size) (hs : Hs L B w d ao len ts) (hB2 : B2 ≤ w.heap.size) (hs2 : Hs L2 B2 w d ao' len' ts') :
    Calls Try.prog 6 #[.agg #[.int .i64 k, .int .i64 n, .slice ao len cap], .agg #[.int .i64 k', .int .i64 n', .slice ao' len' cap']] w fun e w' => e = .returned (.bool true) ∧ Below w.heap.size w w' := by
  obtain ⟨b, hb⟩ : ∃ b : Bool, b = true ↔ (⟨k, n, ts⟩ : Tr) = ⟨k', n', ts'⟩ := by
    by_cases h : (⟨k, n, ts⟩ : Tr) = ⟨k', n', ts'⟩
    · exact ⟨true, Iff.intro (fun _ => h) (fun _ => rfl)⟩
    · exact ⟨false, Iff.intro (fun h' => nomatch h') (fun h' => (h h').elim)⟩
  have HB : Hid (b = true ↔ _) := hb
  clear hb
  obtain ⟨X, hX⟩ : ∃ X, X = ((w.alloc (.cells #[.int .i64 k, .int .i64 n, .slice ao len cap] 36)).alloc (.cells #[.int .i64 k', .int .i64 n', .slice ao' len' cap'] 36)) := ⟨_, rfl⟩
  have hXb : Below w.heap.size w X := by rw [hX]; exact ((Below.refl _ _).alloc (Nat.le_refl _) _).alloc (by simp) _
  have hXs : X.heap.size = w.heap.size + 2 := by rw [hX]; simp
  have hX0 : X.heap[w.heap.size]? = some (.cells #[.int .i64 k, .int .i64 n, .slice ao len cap] 36 (0, 0)) := by rw [hX, Below.heap_alloc _ _ _ (by simp)]; exact heap_new rfl
  have hX1 : X.heap[w.heap.size + 1]? = some (.cells #[.int .i64 k', .int .i64 n', .slice ao' len' cap'] 36 (0, 0)) := by rw [hX]; exact heap_new (by simp)
  have HX : Hid (X = _) := hX
  clear hX
  by_cases hc : (cntS ts : Int) ≤ 1048576
  case' neg =>
    go_enter Try.func6, Try.ntmps6
    go_wp2_with fail
    rw [← HX.out]
    refine (szTy_any d L B _ _ _ _ _ ts _ _ (by omega) (hs.below hXb hB) (by omega) (by omega)).mono ?_
    rintro e w1 ⟨rfl, hb1⟩
    rw [szL_neg (by omega)]
    go_wp2_with fail
    go_ret
    exact ⟨rfl, hXb.trans (hb1.mono (by omega))⟩
  go_enter Try.func6, Try.ntmps6
  go_wp2_with fail
  rw [← HX.out]
  refine (szTy_any d L B _ _ _ _ _ ts _ _ (by omega) (hs.below hXb hB) (by omega) (by omega)).mono ?_
  rintro e w1 ⟨rfl, hb1⟩
  rw [szL_pos hc]
  have hz1 := hb1.size
  have hbw1 : Below w.heap.size w w1 := hXb.trans (hb1.mono (by omega))
  have y0 := (hb1.block _ (by omega)).trans hX0
  have y1 := (hb1.block _ (by omega)).trans hX1
  obtain ⟨f0, f1, f2⟩ := box_cells y0
  obtain ⟨g0, g1, g2⟩ := box_cells y1
  go_wp2_with fail
  refine (szTy_any d L2 B2 _ _ _ _ _ ts' _ _ (by omega) (hs2.below hbw1 hB2) (by omega) (by omega)).mono ?_
  rintro e w2 ⟨rfl, hb2⟩
  have hz2 := hb2.size
  have hbw2 : Below w.heap.size w w2 := hbw1.trans (hb2.mono (by omega))
  by_cases hc2 : (cntS ts' : Int) ≤ 1048576 - cntS ts
  case' neg =>
    rw [szL_neg (by omega)]
    go_wp2_with fail
    go_ret
    exact ⟨rfl, hbw2⟩
  rw [szL_pos hc2]
  have hcn : cntS ts ≤ 1048576 := by omega
  have hcn2 : cntS ts' ≤ 1048576 := by omega
  replace y0 := (hb2.block _ (by omega)).trans y0
  replace y1 := (hb2.block _ (by omega)).trans y1
  clear f0 f1 f2 g0 g1 g2 hX0 hX1
  obtain ⟨f0, f1, f2⟩ := box_cells y0
  obtain ⟨g0, g1, g2⟩ := box_cells y1
  have hl2 : w.heap.size < w2.heap.size := by omega
  have hl2' : w.heap.size + 1 < w2.heap.size := by omega
  have SK : ∀ W : World, Below w2.heap.size w2 W → W.cell? ⟨w.heap.size, 0, none⟩ = some (.int .i64 k) ∧ W.cell? ⟨w.heap.size, 1, none⟩ = some (.int .i64 n) ∧ W.cell? ⟨w.heap.size, 2, none⟩ = some (.slice ao len cap) ∧ W.cell? ⟨w.heap.size + 1, 0, none⟩ = some (.int .i64 k') ∧ W.cell? ⟨w.heap.size + 1, 1, none⟩ = some (.int .i64 n') ∧ W.cell? ⟨w.heap.size + 1, 2, none⟩ = some (.slice ao' len' cap') :=
    fun W hW => ⟨(bcell hW hl2 0).trans f0, (bcell hW hl2 1).trans f1, (bcell hW hl2 2).trans f2, (bcell hW hl2' 0).trans g0, (bcell hW hl2' 1).trans g1, (bcell hW hl2' 2).trans g2⟩
  have SKH : Hid (∀ W : World, _) := SK
  have hsd := (hs.below hbw2 hB).drew
  have hsd2 := (hs2.below hbw2 hB2).drew
  have hBd : B ≤ w2.drew.heap.size := by show B ≤ w2.heap.size; omega
  have hBd2 : B2 ≤ w2.drew.heap.size := by show B2 ≤ w2.heap.size; omega
  clear SK
  go_wp2_with fail
  go_region_held3 (fun W => W.cell? ⟨w.heap.size, 0, none⟩ = some (.int .i64 k) ∧ W.cell? ⟨w.heap.size, 1, none⟩ = some (.int .i64 n) ∧ W.cell? ⟨w.heap.size, 2, none⟩ = some (.slice ao len cap) ∧ W.cell? ⟨w.heap.size + 1, 0, none⟩ = some (.int .i64 k') ∧ W.cell? ⟨w.heap.size + 1, 1, none⟩ = some (.int .i64 n') ∧ W.cell? ⟨w.heap.size + 1, 2, none⟩ = some (.slice ao' len' cap'))
    (first | (refine ⟨?_, ?_, ?_, ?_, ?_, ?_⟩; exact f0; exact f1; exact f2; exact g0; exact g1; exact g2) | exact SKH.out _ hbC | exact SKH.out _ hbB | exact SKH.out _ hbA)
    (first
      | (go_at_call_has 21 n; refine (toTy_any d L B _ _ _ _ _ ts _ (by first | exact hBd | exact Nat.le_trans hBd hbb.size) (by first | exact hsd | exact hsd.below hbb hBd) hcn).mono ?_; rintro e wa ⟨ga, rfl, hba, hsa⟩; have hbA : Below w2.heap.size w2 wa := (by first | exact (Below.refl _ _).drew.trans hba | exact hbB.trans (hba.mono hbB.size)))
      | (go_at_call_has 21 n'; refine (toTy_any d L2 B2 _ _ _ _ _ ts' _ (by first | exact hBd2 | exact Nat.le_trans hBd2 hba.size) (by first | exact hsd2 | exact hsd2.below hba hBd2) hcn2).mono ?_; rintro e wb ⟨gb, rfl, hbb, hsb⟩; have hbB : Below w2.heap.size w2 wb := (by first | exact (Below.refl _ _).drew.trans hbb | exact hbA.trans (hbb.mono hbA.size)))
      | (go_at_call 27; (first | refine (ss_any d _ wa.heap.size _ wb.heap.size _ _ _ _ _ ts _ _ _ _ _ ts' b wb hbb.size (Nat.le_refl _) (hsa.below hbb (Nat.le_refl _)) hsb HB.out).mono ?_ | refine (ss_any d _ wa.heap.size _ wb.heap.size _ _ _ _ _ ts _ _ _ _ _ ts' b wa (Nat.le_refl _) hba.size hsa (hsb.below hba (Nat.le_refl _)) HB.out).mono ?_); rintro e w5 ⟨rfl, hb5⟩; have hbC : Below w2.heap.size w2 w5 := (by first | exact hbB.trans (hb5.mono hbB.size) | exact hbA.trans (hb5.mono hbA.size))))
  all_goals
    have hz5 := hbC.size
    have hbw5 : Below w.heap.size w w5 := hbw2.trans (hbC.mono (by omega))
    have v0 := (hbC.block _ hl2).trans y0
    have v1 := (hbC.block _ hl2').trans y1
    clear f0 f1 f2 g0 g1 g2 hsa hsb hba hbb hbA hbB hsd hsd2 hb5
    obtain ⟨f0, f1, f2⟩ := box_cells v0
    go_wp2_with fail
    refine (toTy_any2 d L B _ _ _ _ _ ts _ (by omega) (hs.below hbw5 hB) hcn).mono ?_
    rintro e w6 ⟨g6, rfl, hb6, ho6⟩
    have hz6 := hb6.size
    have hbw6 : Below w.heap.size w w6 := hbw5.trans (hb6.mono (by omega))
    have a0 := (hb6.block w.heap.size (by omega)).trans v0
    have a1 := (hb6.block (w.heap.size + 1) (by omega)).trans v1
    clear f0 f1 f2
    obtain ⟨g0, g1, g2⟩ := box_cells a1
    have hl6 : w.heap.size + 1 < w6.heap.size := by omega
    have hA6 : Below w6.heap.size w6 (w6.alloc (.cells #[.int .i64 k, .int .i64 n, .slice (some ⟨g6, 0, none⟩) len len] 26)) := (Below.refl _ _).alloc (Nat.le_refl _) _
    have hA6w : Below w.heap.size w (w6.alloc (.cells #[.int .i64 k, .int .i64 n, .slice (some ⟨g6, 0, none⟩) len len] 26)) := hbw6.trans (hA6.mono (by omega))
    go_wp2_with fail
    refine (toTy_any d L2 B2 _ _ _ _ _ ts' _ (by simp; omega) (hs2.below hA6w hB2) hcn2).mono ?_
    rintro e w7 ⟨g7, rfl, hb7, hs7⟩
    have hz7 := hb7.size
    simp only [World.size_alloc] at hz7
    have hbw7 : Below w.heap.size w w7 := hA6w.trans (hb7.mono (by simp; omega))
    have x0 : w7.heap[w6.heap.size]? = some (.cells #[.int .i64 k, .int .i64 n, .slice (some ⟨g6, 0, none⟩) len len] 26 (0, 0)) := (hb7.block w6.heap.size (by simp)).trans (heap_new rfl)
    have b0 := (hb7.block w.heap.size (by simp; omega)).trans ((hA6.block _ (by omega)).trans a0)
    have b1 := (hb7.block (w.heap.size + 1) (by simp; omega)).trans ((hA6.block _ (by omega)).trans a1)
    have ho7 := (ho6.below hA6 (Nat.le_refl _)).below hb7 (by simp)
    clear g0 g1 g2
    obtain ⟨g0, g1, g2⟩ := box_cells x0
    have hl7 : w6.heap.size < w7.heap.size := by omega
    have hA7 : Below w7.heap.size w7 (w7.alloc (.cells #[.int .i64 k', .int .i64 n', .slice (some ⟨g7, 0, none⟩) len' len'] 26)) := (Below.refl _ _).alloc (Nat.le_refl _) _
    have hA7w : Below w.heap.size w (w7.alloc (.cells #[.int .i64 k', .int .i64 n', .slice (some ⟨g7, 0, none⟩) len' len'] 26)) := hbw7.trans (hA7.mono (by omega))
    have ho8 := ho7.below hA7 (by omega)
    have hs8 := hs7.below hA7 (Nat.le_refl _)
    go_wp2_with fail
    refine (sameTy_any d _ _ _ _ k n _ _ _ ts k' n' _ _ _ ts' b _ (by simp; omega) (by simp) ho8 hs8 HB.out hcn).mono ?_
    rintro e w8 ⟨rfl, hb8⟩
    have hz8 := hb8.size
    simp only [World.size_alloc] at hz8
    have hbw8 : Below w.heap.size w w8 := hA7w.trans (hb8.mono (by simp; omega))
    have c0 := (hb8.block w.heap.size (by simp; omega)).trans ((hA7.block _ (by omega)).trans b0)
    have c1 := (hb8.block (w.heap.size + 1) (by simp; omega)).trans ((hA7.block _ (by omega)).trans b1)
    have d0 := (hb8.block w6.heap.size (by simp; omega)).trans ((hA7.block _ (by omega)).trans x0)
    have d1 : w8.heap[w7.heap.size]? = some (.cells #[.int .i64 k', .int .i64 n', .slice (some ⟨g7, 0, none⟩) len' len'] 26 (0, 0)) := (hb8.block w7.heap.size (by simp)).trans (heap_new rfl)
    have ho9 := (ho8.below hb8 (by simp; omega)).hs
    have hs9 := hs8.below hb8 (by simp)
    clear g0 g1 g2 v0 v1 a0 a1 b0 b1 x0 y0 y1 ho6 ho7 ho8 hs7 hs8
    obtain ⟨p0, p1, p2⟩ := box_cells c0
    obtain ⟨q0, q1, q2⟩ := box_cells d0
    have hs8a := hs.below hbw8 hB
    have hl8 : w6.heap.size < w8.heap.size := by omega
    have hwl : w.heap.size < w8.heap.size := by omega
    have SK1 : Hid (∀ W : World, Below w8.heap.size w8 W → W.cell? ⟨w.heap.size, 0, none⟩ = some (.int .i64 k) ∧ W.cell? ⟨w.heap.size, 1, none⟩ = some (.int .i64 n) ∧ W.cell? ⟨w.heap.size, 2, none⟩ = some (.slice ao len cap) ∧ W.cell? ⟨w6.heap.size, 0, none⟩ = some (.int .i64 k) ∧ W.cell? ⟨w6.heap.size, 1, none⟩ = some (.int .i64 n) ∧ W.cell? ⟨w6.heap.size, 2, none⟩ = some (.slice (some ⟨g6, 0, none⟩) len len)) := fun W hW => ⟨(bcell hW hwl 0).trans p0, (bcell hW hwl 1).trans p1, (bcell hW hwl 2).trans p2, (bcell hW hl8 0).trans q0, (bcell hW hl8 1).trans q1, (bcell hW hl8 2).trans q2⟩
    have hs8d := hs8a.drew
    have ho9d := ho9.drew
    have hBd8 : B ≤ w8.drew.heap.size := by show B ≤ w8.heap.size; omega
    have h68 : w6.heap.size ≤ w8.drew.heap.size := by show w6.heap.size ≤ w8.heap.size; omega
    go_wp2_with fail
    go_region_held3 (fun W => W.cell? ⟨w.heap.size, 0, none⟩ = some (.int .i64 k) ∧ W.cell? ⟨w.heap.size, 1, none⟩ = some (.int .i64 n) ∧ W.cell? ⟨w.heap.size, 2, none⟩ = some (.slice ao len cap) ∧ W.cell? ⟨w6.heap.size, 0, none⟩ = some (.int .i64 k) ∧ W.cell? ⟨w6.heap.size, 1, none⟩ = some (.int .i64 n) ∧ W.cell? ⟨w6.heap.size, 2, none⟩ = some (.slice (some ⟨g6, 0, none⟩) len len))
      (first | (refine ⟨?_, ?_, ?_, ?_, ?_, ?_⟩; exact p0; exact p1; exact p2; exact q0; exact q1; exact q2) | exact SK1.out _ hb10' | exact SK1.out _ hb9')
      (first
        | (go_at_call 21; refine (toTy_any d L B _ _ _ _ _ ts _ hBd8 hs8d hcn).mono ?_; rintro e w9 ⟨g9, rfl, hb9, hn9⟩; have hb9' : Below w8.heap.size w8 w9 := (Below.refl _ _).drew.trans hb9)
        | (go_at_call 22; refine (eqTy_any d _ _ _ _ _ _ _ _ _ _ _ _ ts _ (Nat.le_trans h68 hb9.size) (Nat.le_refl _) (ho9d.below hb9 h68) hn9).mono ?_; rintro e w10 ⟨rfl, hb10⟩; have hb10' : Below w8.heap.size w8 w10 := hb9'.trans (hb10.mono hb9'.size)))
    all_goals
      have hz10 := hb10'.size
      have hbw10 : Below w.heap.size w w10 := hbw8.trans (hb10'.mono (by omega))
      have e1 := (hb10'.block (w.heap.size + 1) (by omega)).trans c1
      have e2 := (hb10'.block w7.heap.size (by omega)).trans d1
      have hs10 := hs9.below hb10' (by omega)
      clear p0 p1 p2 q0 q1 q2 hb9 hb10 hb9' hn9 c0 c1 d0 d1 hs8d ho9d
      obtain ⟨p0, p1, p2⟩ := box_cells e1
      obtain ⟨q0, q1, q2⟩ := box_cells e2
      have hwl1 : w.heap.size + 1 < w10.heap.size := by omega
      have hwl7 : w7.heap.size < w10.heap.size := by omega
      have SK2 : Hid (∀ W : World, Below w10.heap.size w10 W → W.cell? ⟨w.heap.size + 1, 0, none⟩ = some (.int .i64 k') ∧ W.cell? ⟨w.heap.size + 1, 1, none⟩ = some (.int .i64 n') ∧ W.cell? ⟨w.heap.size + 1, 2, none⟩ = some (.slice ao' len' cap') ∧ W.cell? ⟨w7.heap.size, 0, none⟩ = some (.int .i64 k') ∧ W.cell? ⟨w7.heap.size, 1, none⟩ = some (.int .i64 n') ∧ W.cell? ⟨w7.heap.size, 2, none⟩ = some (.slice (some ⟨g7, 0, none⟩) len' len')) := fun W hW => ⟨(bcell hW hwl1 0).trans p0, (bcell hW hwl1 1).trans p1, (bcell hW hwl1 2).trans p2, (bcell hW hwl7 0).trans q0, (bcell hW hwl7 1).trans q1, (bcell hW hwl7 2).trans q2⟩
      have hs10d := (hs2.below hbw10 hB2).drew
      have hy10d := hs10.drew
      have hBd10 : B2 ≤ w10.drew.heap.size := by show B2 ≤ w10.heap.size; omega
      have h710 : w7.heap.size ≤ w10.drew.heap.size := by show w7.heap.size ≤ w10.heap.size; omega
      go_wp2_with fail
      go_region_held3 (fun W => W.cell? ⟨w.heap.size + 1, 0, none⟩ = some (.int .i64 k') ∧ W.cell? ⟨w.heap.size + 1, 1, none⟩ = some (.int .i64 n') ∧ W.cell? ⟨w.heap.size + 1, 2, none⟩ = some (.slice ao' len' cap') ∧ W.cell? ⟨w7.heap.size, 0, none⟩ = some (.int .i64 k') ∧ W.cell? ⟨w7.heap.size, 1, none⟩ = some (.int .i64 n') ∧ W.cell? ⟨w7.heap.size, 2, none⟩ = some (.slice (some ⟨g7, 0, none⟩) len' len'))
        (first | (refine ⟨?_, ?_, ?_, ?_, ?_, ?_⟩; exact p0; exact p1; exact p2; exact q0; exact q1; exact q2) | exact SK2.out _ hb12' | exact SK2.out _ hb11')
        (first
          | (go_at_call 21; refine (toTy_any d L2 B2 _ _ _ _ _ ts' _ hBd10 hs10d hcn2).mono ?_; rintro e w11 ⟨g11, rfl, hb11, hn11⟩; have hb11' : Below w10.heap.size w10 w11 := (Below.refl _ _).drew.trans hb11)
          | (go_at_call 22; refine (eqTy_any d _ _ _ _ _ _ _ _ _ _ _ _ ts' _ (Nat.le_trans h710 hb11.size) (Nat.le_refl _) (hy10d.below hb11 h710) hn11).mono ?_; rintro e w12 ⟨rfl, hb12⟩; have hb12' : Below w10.heap.size w10 w12 := hb11'.trans (hb12.mono hb11'.size)))
      all_goals
        have hbw12 : Below w.heap.size w w12 := hbw10.trans (hb12'.mono (by omega))
        go_wp2_with fail
        go_ret
        exact ⟨rfl, hbw12⟩

end Go.Proofs.Ytlbjhdoedphlaaa
