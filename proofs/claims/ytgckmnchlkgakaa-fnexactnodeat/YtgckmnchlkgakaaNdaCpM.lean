/-
  'copyHead', 'copyTerm' of the program: the same term in memory of its own.
-/
import Derived.Test.YtgckmnchlkgakaaNdaZ13
import Derived.Test.YtgckmnchlkgakaaNdaCp1
import Derived.Test.YtgckmnchlkgakaaNdaZ10
import Derived.Test.YtgckmnchlkgakaaNdaZ8
import Derived.Test.YtgckmnchlkgakaaNdaZ6
import Derived.Deep.RegionHeld3
import Derived.Deep.RegionLaw
import Derived.Sort.AtCall
import Derived.LoopN
namespace Go.Proofs.Ytgckmnchlkgakaa
open Go.RowKit
set_option linter.unusedVariables false
set_option linter.unusedSimpArgs false

set_option maxRecDepth 100000 in
set_option maxHeartbeats 2000000 in
theorem copyHead_any (D d L B : Nat) (t : Tm) (a1 : Option Addr) (l1 c1 : Nat) (a2 : Option Addr) (l2 c2 : Nat) (a3 : Option Addr) (l3 c3 : Nat) (w : World) (hB : B ≤ w.heap.size) (hf : Fm L B w D d t a1 l1 a2 l2 a3 l3) (hc : cntM t ≤ 1048576) :
    Calls Try.prog 81 #[.agg #[.int .i64 t.K, .int .i64 t.N, .string t.S, .string t.Z, .int .i64 t.T.K, .int .i64 t.T.N, .slice a1 l1 c1, .slice a2 l2 c2, .slice a3 l3 c3]] w fun e w' => ∃ b1 m1 e1 b2 e2 M, e = .returned (.agg #[.int .i64 t.K, .int .i64 t.N, .string t.S, .string t.Z, .int .i64 t.T.K, .int .i64 t.T.N, .slice b1 m1 e1, .slice b2 l2 e2, .slice none 0 0]) ∧ Below w.heap.size w w' ∧ w.heap.size ≤ M ∧ M ≤ w'.heap.size ∧ OwR w.heap.size M w' (D + 1) b1 m1 t.T.A ∧ OwR M w'.heap.size w' (D + 1) b2 l2 t.Ts := by
  have hce := cntM_eq t
  unfold ownM at hce
  have hcT : cntS t.T.A ≤ 1048576 := by omega
  have hcS : cntS t.Ts ≤ 1048576 := by omega
  have hl2 : l2 ≤ 1048576 := by have := hf.t2.len.1; have := cntS_eq t.Ts; omega
  obtain ⟨X, hX⟩ : ∃ X, X = ((w.alloc (.cells #[.int .i64 t.K, .int .i64 t.N, .string t.S, .string t.Z, .int .i64 t.T.K, .int .i64 t.T.N, .slice a1 l1 c1, .slice a2 l2 c2, .slice a3 l3 c3] 36)).alloc (.cells #[.int .i64 0, .int .i64 0, .string ⟨#[]⟩, .string ⟨#[]⟩, .int .i64 0, .int .i64 0, .slice none 0 0, .slice none 0 0, .slice none 0 0] 36)) := ⟨_, rfl⟩
  have hXs : X.heap.size = w.heap.size + 2 := by rw [hX]; simp
  have hXb : Below w.heap.size w X := by rw [hX]; exact ((Below.refl _ _).alloc (Nat.le_refl _) _).alloc (by simp) _
  have hX0 : X.heap[w.heap.size]? = some (.cells #[.int .i64 t.K, .int .i64 t.N, .string t.S, .string t.Z, .int .i64 t.T.K, .int .i64 t.T.N, .slice a1 l1 c1, .slice a2 l2 c2, .slice a3 l3 c3] 36 (0, 0)) := by rw [hX, Below.heap_alloc _ _ _ (by simp)]; exact heap_new rfl
  have hX1 : X.heap[w.heap.size + 1]? = some (.cells #[.int .i64 0, .int .i64 0, .string ⟨#[]⟩, .string ⟨#[]⟩, .int .i64 0, .int .i64 0, .slice none 0 0, .slice none 0 0, .slice none 0 0] 36 (0, 0)) := by rw [hX]; exact heap_new (by simp)
  have hfX : Fm L B X.drew D d t a1 l1 a2 l2 a3 l3 := Fm.drew (Fm.below hXb hB hf)
  have hs1 : Hs L B X.drew D a1 l1 t.T.A := hfX.t1
  have HX : Hid (X = _) := hX
  have H2 : Hid (∀ w1, Below X.drew.heap.size X.drew w1 → B ≤ w1.heap.size ∧ Hs L B w1 (D + 1) a2 l2 t.Ts ∧ MapCall0 w1 L B D D t.Ts t.Ts) := fun w1 hb1 => by
    have hz : X.heap.size ≤ w1.heap.size := hb1.size
    refine ⟨by omega, (hfX.t2.below hb1 (show B ≤ X.heap.size by omega)).deeper (by omega), fun i hi hr ao1 len1 cap1 w' hb' hs' => ?_⟩
    have hq := cntS_get t.Ts i hi
    exact copyP_any D L B _ _ _ _ _ _ _ (by have := hb'.size; omega) hs' (by omega)
  have hlt0 : w.heap.size < X.heap.size := by omega
  have hlt1 : w.heap.size + 1 < X.heap.size := by omega
  have HXS : Hid (X.heap.size = w.heap.size + 2) := hXs
  have HXB : Hid (Below w.heap.size w X) := hXb
  have hBX : B ≤ X.heap.size := by omega
  obtain ⟨p0, p1, p2, p3, p4, p5, p6, p7, p8⟩ := Nine.box (w := X.drew) hX0
  clear hX hce hXs hfX hf hXb
  go_enter Try.func81, Try.ntmps81
  go_wp2_with fail
  rw [← HX.out]
  go_region_held3 (fun w' => w'.cell? ⟨w.heap.size, 0, none⟩ = some (.int .i64 t.K) ∧ w'.cell? ⟨w.heap.size, 1, none⟩ = some (.int .i64 t.N) ∧ w'.cell? ⟨w.heap.size, 2, none⟩ = some (.string t.S) ∧ w'.cell? ⟨w.heap.size, 3, none⟩ = some (.string t.Z) ∧ w'.cell? ⟨w.heap.size, 4, none⟩ = some (.int .i64 t.T.K) ∧ w'.cell? ⟨w.heap.size, 5, none⟩ = some (.int .i64 t.T.N) ∧ w'.cell? ⟨w.heap.size, 6, none⟩ = some (.slice a1 l1 c1) ∧ w'.cell? ⟨w.heap.size, 7, none⟩ = some (.slice a2 l2 c2))
    (first | (refine ⟨?_, ?_, ?_, ?_, ?_, ?_, ?_, ?_⟩; with_reducible exact u0; with_reducible exact u1; with_reducible exact u2; with_reducible exact u3; with_reducible exact u4; with_reducible exact u5; with_reducible exact u6; with_reducible exact u7) | (refine ⟨?_, ?_, ?_, ?_, ?_, ?_, ?_, ?_⟩; with_reducible exact z0; with_reducible exact z1; with_reducible exact z2; with_reducible exact z3; with_reducible exact z4; with_reducible exact z5; with_reducible exact z6; with_reducible exact z7) | (refine ⟨?_, ?_, ?_, ?_, ?_, ?_, ?_, ?_⟩; with_reducible exact p0; with_reducible exact p1; with_reducible exact p2; with_reducible exact p3; with_reducible exact p4; with_reducible exact p5; with_reducible exact p6; with_reducible exact p7) | (refine ⟨?_, ?_, ?_, ?_, ?_, ?_, ?_, ?_⟩ <;> simp [World.cell?_setCell_other, u0, u1, u2, u3, u4, u5, u6, u7]))
    (first
      | (go_at_call 95; refine (mapTys0_any L B D D _ _ _ t.Ts t.Ts w1 hBw hs2 hl2 rfl hmc).mono ?_; rintro e w2 ⟨b2, e2, rfl, hb2, ho2⟩; have hlu : w.heap.size < w1.heap.size := Nat.lt_of_lt_of_le hlt0 hb1.size; have hlv : w.heap.size + 1 < w1.heap.size := Nat.lt_of_lt_of_le hlt1 hb1.size; have u0 := (bcell hb2 hlu 0).trans z0; have u1 := (bcell hb2 hlu 1).trans z1; have u2 := (bcell hb2 hlu 2).trans z2; have u3 := (bcell hb2 hlu 3).trans z3; have u4 := (bcell hb2 hlu 4).trans z4; have u5 := (bcell hb2 hlu 5).trans z5; have u6 := (bcell hb2 hlu 6).trans z6; have u7 := (bcell hb2 hlu 7).trans z7; have hY := (hb2.block (w.heap.size + 1) hlv).trans hY1; obtain ⟨y0, y1, y2, y3, y4, y5, y6, y7, y8⟩ := Nine.box hY; have yf := row_free hY)
      | (go_at_call 94; refine (copyP_any D L B _ _ _ _ _ t.T.A X.drew hBX hs1 hcT).mono ?_; rintro e w1 ⟨b1, m1, e1, rfl, hb1, ho1⟩; have z0 := (bcell hb1 hlt0 0).trans p0; have z1 := (bcell hb1 hlt0 1).trans p1; have z2 := (bcell hb1 hlt0 2).trans p2; have z3 := (bcell hb1 hlt0 3).trans p3; have z4 := (bcell hb1 hlt0 4).trans p4; have z5 := (bcell hb1 hlt0 5).trans p5; have z6 := (bcell hb1 hlt0 6).trans p6; have z7 := (bcell hb1 hlt0 7).trans p7; have hY1 := (hb1.block (w.heap.size + 1) hlt1).trans hX1; obtain ⟨hBw, hs2, hmc⟩ := H2.out w1 hb1))
  all_goals
    have hXs := HXS.out
    have hz1 : X.heap.size ≤ w1.heap.size := hb1.size
    have hz2 := hb2.size
    have hbw : Below w.heap.size w w2 := (HXB.out.drew.trans (hb1.mono (show w.heap.size ≤ X.heap.size by omega))).trans (hb2.mono (by omega))
    go_wp2_with fail
    obtain ⟨Y, hYe⟩ : ∃ Y, Y = set9 w2 (w.heap.size + 1) 0 (.int .i64 t.K) (.int .i64 t.N) (.string t.S) (.string t.Z) (.int .i64 t.T.K) (.int .i64 t.T.N) (.slice b1 m1 e1) (.slice b2 l2 e2) (.slice none 0 0) := ⟨_, rfl⟩
    have hYb : Below w.heap.size w Y := by rw [hYe]; exact set9_below hbw (by omega)
    have hYs : Y.heap.size = w2.heap.size := by rw [hYe]; exact set9_size _ _ _ _ _ _ _ _ _ _ _ _
    have hYo : ∀ j, j ≠ w.heap.size + 1 → Y.heap[j]? = w2.heap[j]? := fun j hj => by rw [hYe]; exact set9_other j hj
    refine bodyPost_ret (v := .agg #[.int .i64 t.K, .int .i64 t.N, .string t.S, .string t.Z, .int .i64 t.T.K, .int .i64 t.T.N, .slice b1 m1 e1, .slice b2 l2 e2, .slice none 0 0]) (by simp [results, Try.results81, go_sem, y0, y1, y2, y3, y4, y5, y6, y7, y8]) rfl ?_
    have hfin : ∃ b1' m1' e1' b2' e2' M, Ending.returned (.agg #[.int .i64 t.K, .int .i64 t.N, .string t.S, .string t.Z, .int .i64 t.T.K, .int .i64 t.T.N, .slice b1 m1 e1, .slice b2 l2 e2, .slice none 0 0]) = .returned (.agg #[.int .i64 t.K, .int .i64 t.N, .string t.S, .string t.Z, .int .i64 t.T.K, .int .i64 t.T.N, .slice b1' m1' e1', .slice b2' l2 e2', .slice none 0 0]) ∧ Below w.heap.size w Y ∧ w.heap.size ≤ M ∧ M ≤ Y.heap.size ∧ OwR w.heap.size M Y (D + 1) b1' m1' t.T.A ∧ OwR M Y.heap.size Y (D + 1) b2' l2 t.Ts := by
      refine ⟨b1, m1, e1, b2, e2, w1.heap.size, rfl, hYb, by omega, by omega, ?_, ?_⟩
      · exact ho1.one (by omega) (fun k hk1 hk2 => by have hk3 : X.heap.size ≤ k := hk1; exact (hYo k (by omega)).trans (hb2.block k hk2)) (show w.heap.size ≤ X.heap.size by omega) (Nat.le_refl _)
      · exact ho2.one (Nat.le_refl _) (fun k hk1 hk2 => hYo k (by omega)) (Nat.le_refl _) (by omega)
    rw [hYe] at hfin
    exact hfin

end Go.Proofs.Ytgckmnchlkgakaa
