/-
  'lambdasOf', 'Lambdas' of the program.
-/
import Derived.Test.YtgckmnchlkgakaaLmbLm0
import Derived.Test.YtgckmnchlkgakaaLmbEachL
import Derived.Test.YtgckmnchlkgakaaLmbTro
import Derived.Test.YtgckmnchlkgakaaLmbLf00
import Derived.Test.YtgckmnchlkgakaaLmbGa00
import Derived.Test.YtgckmnchlkgakaaLmbFo0
import Derived.Deep.RegionHeld3
import Derived.Deep.RegionLaw
import Derived.Sort.AtCall
import Derived.LoopN
import Derived.Test.YtgckmnchlkgakaaLmbTq
namespace Go.Proofs.Ytgckmnchlkgakaa
open Go.RowKit
set_option linter.unusedVariables false
set_option linter.unusedSimpArgs false

/-- The row of terms behind the pointer p. -/
def IL (L B D d p : Nat) (X : List Tm) (F : Nat → Prop) (w : World) : Prop :=
  ∃ v, w.heap[p]? = some (.cells #[v] 34 (0, 0)) ∧ TRow L B (p + 1) w D d v (X.filter isFn) ∧ F = fun k => k = p ∨ v.ownBlock = some k

set_option maxRecDepth 100000 in
set_option maxHeartbeats 2000000 in
theorem seeL_any (L B p D d : Nat) (hBp : B ≤ p) : SeeL L B p p D d (IL L B D d p) := by
  refine ⟨?_, ?_, ?_⟩
  · rintro X F w w' ⟨v, h1, h2, h3⟩ hb
    have hp := (Array.getElem?_eq_some_iff.1 h1).1
    exact ⟨v, (hb.block p hp).trans h1, trow_bel h2 hb (by omega), h3⟩
  · rintro X F w k ⟨v, h1, h2, rfl⟩ hk
    have hp := (Array.getElem?_eq_some_iff.1 h1).1
    rcases hk with rfl | hk
    · exact ⟨Nat.le_refl _, hp⟩
    · have := trow_own h2 hk; omega
  · rintro d' t a1 l1 c1 a2 l2 c2 a3 l3 c3 X F w hd hb ⟨v, hpb, hT, rfl⟩ hf hn hX
    have hp := (Array.getElem?_eq_some_iff.1 hpb).1
    have hfl := List.length_filter_le isFn X
    obtain ⟨W, hW⟩ : ∃ W, W = w.alloc (.cells #[.int .i64 t.K, .int .i64 t.N, .string t.S, .string t.Z, .int .i64 t.T.K, .int .i64 t.T.N, .slice a1 l1 c1, .slice a2 l2 c2, .slice a3 l3 c3] 36) := ⟨_, rfl⟩
    have hWs : W.heap.size = w.heap.size + 1 := by rw [hW]; simp
    have hWb : Below w.heap.size w W := by rw [hW]; exact (Below.refl _ _).alloc (Nat.le_refl _) _
    have hW0 : W.heap[w.heap.size]? = some (.cells #[.int .i64 t.K, .int .i64 t.N, .string t.S, .string t.Z, .int .i64 t.T.K, .int .i64 t.T.N, .slice a1 l1 c1, .slice a2 l2 c2, .slice a3 l3 c3] 36 (0, 0)) := by rw [hW]; exact heap_new rfl
    have hpW := (hWb.block p hp).trans hpb
    have y0 := cell_1 hpW
    obtain ⟨f0, f1, f2, f3, f4, f5, f6, f7, f8⟩ := Nine.box hW0
    by_cases h4 : t.K = 4
    · have HXN : Hid ((X ++ [t]).filter isFn = X.filter isFn ++ [t]) := by show _ = _; rw [List.filter_append]; simp [isFn, h4]
      obtain ⟨P, hP⟩ : ∃ P, X.filter isFn = P := ⟨_, rfl⟩
      rw [hP] at hT HXN hfl
      clear hP
      obtain ⟨ao, cap, rfl⟩ := trow_form hT
      obtain ⟨n, hn0⟩ : ∃ n, P.length = n := ⟨_, rfl⟩
      have HW : Hid (W = w.alloc (.cells #[.int .i64 4, .int .i64 t.N, .string t.S, .string t.Z, .int .i64 t.T.K, .int .i64 t.T.N, .slice a1 l1 c1, .slice a2 l2 c2, .slice a3 l3 c3] 36)) := by show _ = _; rw [hW, h4]
      have hBd : Below w.heap.size w W.drew := hWb.drew
      obtain ⟨g, cp, w2, hrun, hgb, ⟨cs, hrow, hcsz⟩, hko2, hY⟩ := trow_lay (trow_bel hT hBd (by omega)) (show p + 1 ≤ W.heap.size by omega) (by omega) (by omega) (c1 := c1) (c2 := c2) (c3 := c3) (Fm.below hBd (by omega) (Fm.deeperL hd hf)) (W.alloc (.cells z9.toArray 36)).drew rfl
      rw [hn0] at hrun hcsz hY hko2
      have HY : Hid (∀ Y : World, Y = set9 w2 g (n * 9) (.int .i64 4) (.int .i64 t.N) (.string t.S) (.string t.Z) (.int .i64 t.T.K) (.int .i64 t.T.N) (.slice a1 l1 c1) (.slice a2 l2 c2) (.slice a3 l3 c3) → ∃ F', IL L B D d p (X ++ [t]) F' (Y.setCell ⟨p, 0, none⟩ (.slice (some ⟨g, 0, none⟩) (n + 1) cp)) ∧ Kf (fun k => k = p ∨ Value.ownBlock (.slice ao n cap) = some k) w F' (Y.setCell ⟨p, 0, none⟩ (.slice (some ⟨g, 0, none⟩) (n + 1) cp))) := by
        intro Y hYe
        obtain ⟨hTY, hkY⟩ := hY Y (by rw [hYe, h4])
        have hown : ∀ k, Value.ownBlock (.slice ao n cap) = some k → p < k := fun k e => by have := (trow_own hT (by rw [hn0]; exact e)).1; omega
        have hpY : Y.heap[p]? = _ := (hkY.block p (show p < W.heap.size by omega) (fun e => by have := hown p e; omega)).trans hpW
        refine ⟨(fun k => k = p ∨ Value.ownBlock (.slice (some ⟨g, 0, none⟩) (n + 1) cp) = some k), ⟨_, by rw [row_set hpY]; rfl, ?_, rfl⟩, ⟨hkY.os.trans hWb.os, hkY.tape.trans hWb.tape, hkY.output.trans hWb.output, ?_, fun k hk hnk => ?_, fun k hk => ?_⟩⟩
        · rw [HXN.out]
          refine trow_keep hTY (fun k hk => row_other _ _ _ ?_) (fun k _ hk => row_other _ _ _ (by omega))
          have := (trow_own hTY hk).1
          omega
        · have h5 : W.heap.size ≤ Y.heap.size := hkY.size
          rw [World.size_setCell]
          omega
        · have h1 : k ≠ p := fun e => hnk (Or.inl e)
          rw [row_other _ _ _ h1]
          exact (hkY.block k (show k < W.heap.size by omega) (fun e => hnk (Or.inr e))).trans (hWb.block k hk)
        · rcases hk with hk | hk
          · exact Or.inl (Or.inl hk)
          · rcases hkY.own k hk with e | e
            · exact Or.inl (Or.inr e)
            · exact Or.inr (Nat.le_trans (show w.heap.size ≤ W.heap.size by omega) e)
      have HYa := HY.out _ rfl
      have HYb := HYa
      rw [← set9_comm w2 (show p ≠ g by omega)] at HYb
      rw [set9_eq] at HYa HYb
      replace HYa : Hid (∃ F', _) := HYa
      replace HYb : Hid (∃ F', _) := HYb
      clear HY
      have hown : Value.ownBlock (.slice ao n cap) ≠ some p := fun e => by have := (trow_own hT (by rw [hn0]; exact e)).1; omega
      have hp2 : w2.heap[p]? = _ := (hko2.block p (show p < W.heap.size by omega) hown).trans hpW
      have hownw : Value.ownBlock (.slice ao n cap) ≠ some w.heap.size := fun e => by have := (trow_own hT (by rw [hn0]; exact e)).2; omega
      have hltw : w.heap.size < W.heap.size := by omega
      obtain ⟨k0, k1, k2, k3, k4, k5, k6, k7, k8⟩ := Nine.box ((hko2.block w.heap.size hltw hownw).trans hW0)
      have q0 := cell_1 hp2
      have q1 := row_free hp2 0
      have g0 := row_cell hrow (n * 9)
      have g1 := row_cell hrow (n * 9 + 1)
      have g2 := row_cell hrow (n * 9 + 2)
      have g3 := row_cell hrow (n * 9 + 3)
      have g4 := row_cell hrow (n * 9 + 4)
      have g5 := row_cell hrow (n * 9 + 5)
      have g6 := row_cell hrow (n * 9 + 6)
      have g7 := row_cell hrow (n * 9 + 7)
      have g8 := row_cell hrow (n * 9 + 8)
      rw [Array.getElem?_eq_getElem (by omega)] at g0 g1 g2 g3 g4 g5 g6 g7 g8
      have r0 := row_free hrow
      have hpg : p ≠ g := by omega
      have HR : Hid (_ = _) := hrun
      have hnX : n ≤ 1000 := by omega
      have hltp : p < W.heap.size := by omega
      have hix : (n : Int) < (n : Int) + 1 := by omega
      rw [hn0] at y0 q0 ⊢
      clear hW hpb hpW hT hW0 hWs hn0 hb hY hko2 hrun hp2 hrow hown hownw hfl
      go_enter Try.func64, Try.ntmps64
      go_wp2_with fail
      rw [← HW.out]
      go_region_law (first | (refine step_run HR.out (by rfl) _ _ (by rfl) (by rfl) (by rfl) (by rfl) ?_))
      all_goals
        go_wp2_with fail
        refine bodyPost_end (v := .tuple #[]) (by simp [results, Try.results64, go_sem]) rfl ?_
        refine ⟨rfl, ?_⟩
        first | with_reducible exact HYa.out | with_reducible exact HYb.out
    · have HXN : Hid ((X ++ [t]).filter isFn = X.filter isFn) := by show _ = _; rw [List.filter_append]; simp [isFn, h4]
      have b4 : (t.K == 4) = false := by simp [h4]
      have HW : Hid (W = _) := hW
      clear hW h4
      go_enter Try.func64, Try.ntmps64
      go_wp2_with fail
      rw [← HW.out]
      refine bodyPost_end (v := .tuple #[]) (by simp [results, Try.results64, go_sem]) rfl ?_
      exact ⟨rfl, _, ⟨v, hpW, by rw [HXN.out]; exact trow_bel hT hWb (by omega), rfl⟩, Kf.of_below hWb⟩

set_option maxRecDepth 100000 in
set_option maxHeartbeats 1000000 in
theorem lambdasOf_any (D d L B : Nat) (t : Tm) (a1 : Option Addr) (l1 c1 : Nat) (a2 : Option Addr) (l2 c2 : Nat) (a3 : Option Addr) (l3 c3 : Nat) (w : World) (hB : B ≤ w.heap.size) (hf : Fm L B w D d t a1 l1 a2 l2 a3 l3) :
    Calls Try.prog 49 #[.agg #[.int .i64 t.K, .int .i64 t.N, .string t.S, .string t.Z, .int .i64 t.T.K, .int .i64 t.T.N, .slice a1 l1 c1, .slice a2 l2 c2, .slice a3 l3 c3]] w fun e w' => ∃ v, e = .returned v ∧ Below w.heap.size w w' ∧ TRow L B w.heap.size w' D d v (lamT t) := by
  obtain ⟨W, hW⟩ : ∃ W, W = (w.alloc (.cells #[.int .i64 t.K, .int .i64 t.N, .string t.S, .string t.Z, .int .i64 t.T.K, .int .i64 t.T.N, .slice a1 l1 c1, .slice a2 l2 c2, .slice a3 l3 c3] 36)).alloc (.cells #[.slice none 0 0] 34) := ⟨_, rfl⟩
  have hWs : W.heap.size = w.heap.size + 2 := by rw [hW]; simp
  have hWb : Below w.heap.size w W := by rw [hW]; exact ((Below.refl _ _).alloc (Nat.le_refl _) _).alloc (by simp) _
  have hW0 : W.heap[w.heap.size]? = some (.cells #[.int .i64 t.K, .int .i64 t.N, .string t.S, .string t.Z, .int .i64 t.T.K, .int .i64 t.T.N, .slice a1 l1 c1, .slice a2 l2 c2, .slice a3 l3 c3] 36 (0, 0)) := by rw [hW, Below.heap_alloc _ _ _ (by simp)]; exact heap_new rfl
  have hW1 : W.heap[w.heap.size + 1]? = some (.cells #[.slice none 0 0] 34 (0, 0)) := by rw [hW]; exact heap_new (by simp)
  have HW : Hid (W = _) := hW
  have HS : Hid (W.heap.size = w.heap.size + 2) := hWs
  have hfW := Fm.below hWb hB hf
  clear hW hWs
  cases hq : okM t
  · have HQ : Hid (okM t = false) := hq
    have HT : Hid (lamT t = []) := by show _ = _; simp [lamT, hq]
    clear hq
    go_enter Try.func49, Try.ntmps49
    go_wp2_with fail
    rw [← HW.out]
    refine (termOk_any D d L B t _ _ _ _ _ _ _ _ _ _ (by have := HS.out; omega) hfW).mono ?_
    rintro e w1 ⟨rfl, hb1⟩
    rw [HQ.out]
    have y1 := cell_1 ((hb1.block (w.heap.size + 1) (by have := HS.out; omega)).trans hW1)
    have hbw : Below w.heap.size w w1 := hWb.trans (hb1.mono (by have := HS.out; omega))
    go_wp2_with fail
    go_ret
    exact ⟨_, rfl, hbw, by rw [HT.out]; exact trow_nil _ _ _ _ _ _⟩
  · have HQ : Hid (okM t = true) := hq
    have HT : Hid (lamT t = ([] ++ allW t).filter isFn) := by show _ = _; simp [lamT, hq]
    obtain ⟨m, hm, hm6⟩ := okM_some hq
    clear hq
    go_enter Try.func49, Try.ntmps49
    go_wp2_with fail
    rw [← HW.out]
    refine (termOk_any D d L B t _ _ _ _ _ _ _ _ _ _ (by have := HS.out; omega) hfW).mono ?_
    rintro e w1 ⟨rfl, hb1⟩
    rw [HQ.out]
    have x1 := (hb1.block (w.heap.size + 1) (by have := HS.out; omega)).trans hW1
    have x0 := (hb1.block w.heap.size (by have := HS.out; omega)).trans hW0
    have hbw : Below w.heap.size w w1 := hWb.trans (hb1.mono (by have := HS.out; omega))
    have hz1 : w.heap.size + 2 ≤ w1.heap.size := by have := HS.out; have := hb1.size; omega
    obtain ⟨f0, f1, f2, f3, f4, f5, f6, f7, f8⟩ := Nine.box x0
    have hI : IL L B D d (w.heap.size + 1) [] (fun k => k = w.heap.size + 1 ∨ Value.ownBlock (.slice none 0 0) = some k) w1 := ⟨_, x1, trow_nil _ _ _ _ _ _, rfl⟩
    go_wp2_with fail
    refine (eachL_any 24 L B (w.heap.size + 1) (w.heap.size + 1) D d (IL L B D d (w.heap.size + 1)) (seeL_any L B (w.heap.size + 1) D d (by omega)) (by omega) d t _ _ _ _ _ _ _ _ _ [] _ m w1 (Nat.le_refl _) (by omega) hI (Fm.below hbw hB hf) hm (by simp; omega)).mono ?_
    rintro e w2 ⟨rfl, F2, ⟨v, hv1, hv2, rfl⟩, hk⟩
    have y1 := cell_1 hv1
    obtain ⟨ao, cp, rfl⟩ := trow_form hv2
    have hbw2 : Below w.heap.size w w2 := hbw.trans (hk.below (fun k hk => by rcases hk with rfl | hk; omega; cases hk) (by omega))
    rw [← HT.out] at hv2 y1
    clear f0 f1 f2 f3 f4 f5 f6 f7 f8 hv1
    go_wp2_with fail
    go_ret
    exact ⟨_, rfl, hbw2, trow_le (base := w.heap.size + 1 + 1) hv2 (by omega)⟩

end Go.Proofs.Ytgckmnchlkgakaa
