/-
  'Unlike' of the program.
-/
import Derived.Test.YtbdpnnfhkhkecaaGreatDoorUbUn2
import Derived.Test.YtbdpnnfhkhkecaaGreatDoorUbZ21
import Derived.Test.YtbdpnnfhkhkecaaGreatDoorUbZ30
namespace Go.Proofs.YtbdpnnfhkhkecaaGreatDoor
open Go.RowKit
set_option linter.unusedVariables false
set_option linter.unusedSimpArgs false

theorem rn_any (l : Nat) : SaidRn l := by
  induction l with
  | zero => intro D d L B p t a1 l1 c1 a2 l2 c2 a3 l3 c3 m c E vs w hBp hf hm; simp [nodesM] at hm
  | succ l ih => exact rn_succ l ih

set_option maxRecDepth 100000 in
set_option maxHeartbeats 2000000 in
theorem unlike_any (D d L B : Nat) (t : Tm) (a1 : Option Addr) (l1 c1 : Nat) (a2 : Option Addr) (l2 c2 : Nat) (a3 : Option Addr) (l3 c3 : Nat) (w : World) (hB : B ≤ w.heap.size) (hf : Fm L B w D d t a1 l1 a2 l2 a3 l3) (hc : cntM t ≤ 1048576) (hT : TabB B w) :
    Calls Tryz.prog 8 #[.agg #[.int .i64 t.K, .int .i64 t.N, .string t.S, .string t.Z, .int .i64 t.T.K, .int .i64 t.T.N, .slice a1 l1 c1, .slice a2 l2 c2, .slice a3 l3 c3]] w fun e w' => TellM w w' (D + 1) d e (unlT t).1 (unlT t).2 := by
  obtain ⟨X, hX⟩ : ∃ X, X = ((w.alloc (.cells #[.int .i64 t.K, .int .i64 t.N, .string t.S, .string t.Z, .int .i64 t.T.K, .int .i64 t.T.N, .slice a1 l1 c1, .slice a2 l2 c2, .slice a3 l3 c3] 34)).alloc (.cells #[.int .i64 0, .int .i64 0, .string ⟨#[]⟩, .string ⟨#[]⟩, .int .i64 0, .int .i64 0, .slice none 0 0, .slice none 0 0, .slice none 0 0] 34)) := ⟨_, rfl⟩
  have hXs : X.heap.size = w.heap.size + 2 := by rw [hX]; simp
  have hXb : Below w.heap.size w X := by rw [hX]; exact ((Below.refl _ _).alloc (Nat.le_refl _) _).alloc (by simp) _
  have hX0 : X.heap[w.heap.size]? = some (.cells #[.int .i64 t.K, .int .i64 t.N, .string t.S, .string t.Z, .int .i64 t.T.K, .int .i64 t.T.N, .slice a1 l1 c1, .slice a2 l2 c2, .slice a3 l3 c3] 34 (0, 0)) := by rw [hX, Below.heap_alloc _ _ _ (by simp)]; exact heap_new rfl
  have hX1 : X.heap[w.heap.size + 1]? = some (.cells #[.int .i64 0, .int .i64 0, .string ⟨#[]⟩, .string ⟨#[]⟩, .int .i64 0, .int .i64 0, .slice none 0 0, .slice none 0 0, .slice none 0 0] 34 (0, 0)) := by rw [hX]; exact heap_new (by simp)
  have hfX := Fm.below hXb hB hf
  have HX : Hid (X = _) := hX
  clear hX
  cases hq : okM t
  · have HQ : Hid (okM t = false) := hq
    have HV : Hid (unlT t = (zTm, false)) := by show _ = _; simp [unlT, hq]
    clear hq
    go_enter Tryz.func8, Tryz.ntmps8
    go_wp2_with fail
    rw [← HX.out]
    refine (termOk_any D d L B t _ _ _ _ _ _ _ _ _ X (by omega) hfX).mono ?_
    rintro e w1 ⟨rfl, hb1⟩
    rw [HQ.out]
    have hz1 := hb1.size
    have hbw1 : Below w.heap.size w w1 := hXb.trans (hb1.mono (by omega))
    have x1 := (hb1.block (w.heap.size + 1) (by omega)).trans hX1
    obtain ⟨p0, p1, p2, p3, p4, p5, p6, p7, p8⟩ := Nine.box x1
    have pf := row_free x1
    go_wp2_with fail
    obtain ⟨Y, hYe⟩ : ∃ Y, Y = set9 w1 (w.heap.size + 1) 0 (.int .i64 0) (.int .i64 0) (.string ⟨#[]⟩) (.string ⟨#[]⟩) (.int .i64 0) (.int .i64 0) (.slice none 0 0) (.slice none 0 0) (.slice none 0 0) := ⟨_, rfl⟩
    have hYb : Below w.heap.size w Y := by rw [hYe]; exact set9_below hbw1 (by omega)
    refine bodyPost_ret (v := .tuple #[.agg #[.int .i64 0, .int .i64 0, .string ⟨#[]⟩, .string ⟨#[]⟩, .int .i64 0, .int .i64 0, .slice none 0 0, .slice none 0 0, .slice none 0 0], .bool false]) (by simp [results, Tryz.results8, go_sem, p0, p1, p2, p3, p4, p5, p6, p7, p8]) rfl ?_
    have hfin : TellM w Y (D + 1) d (.returned (.tuple #[.agg #[.int .i64 0, .int .i64 0, .string ⟨#[]⟩, .string ⟨#[]⟩, .int .i64 0, .int .i64 0, .slice none 0 0, .slice none 0 0, .slice none 0 0], .bool false])) zTm false := ⟨none, 0, 0, none, 0, 0, none, 0, 0, rfl, hYb, zTm_fmO _ _ _ _ _ hYb.size⟩
    rw [hYe] at hfin
    rw [HV.out]
    exact hfin
  have HQ : Hid (okM t = true) := hq
  obtain ⟨m, hm, hm6⟩ := okM_some hq
  have HFT : Hid (freeT t = freeW 24 t [] []) := by show _ = _; simp [freeT, hq]
  have hfl := freeW_len 24 t m [] [] hm
  by_cases hfr : freeW 24 t [] [] = []
  · have HV : Hid (unlT t = ((renW 24 t 0 []).1, true)) := by show _ = _; simp [unlT, hq, hfr]
    have hcl := free_cl 24 t [] [] hfr (fun x hx => by simp at hx)
    have HFR : Hid (freeW 24 t [] [] = []) := hfr
    clear hq hfr hfl
    go_enter Tryz.func8, Tryz.ntmps8
    go_wp2_with fail
    rw [← HX.out]
    refine (termOk_any D d L B t _ _ _ _ _ _ _ _ _ X (by omega) hfX).mono ?_
    rintro e w1 ⟨rfl, hb1⟩
    rw [HQ.out]
    have hz1 := hb1.size
    have hbw1 : Below w.heap.size w w1 := hXb.trans (hb1.mono (by omega))
    have x0 := (hb1.block w.heap.size (by omega)).trans hX0
    obtain ⟨f0, f1, f2, f3, f4, f5, f6, f7, f8⟩ := Nine.box x0
    go_wp2_with fail
    refine (freeOf_any D d L B t _ _ _ _ _ _ _ _ _ w1 (by omega) (Fm.below hbw1 hB hf)).mono ?_
    rintro e w2 ⟨v, rfl, hb2, hTk⟩
    rw [HFT.out, HFR.out] at hTk
    obtain ⟨ao, cp, rfl⟩ := toks_form hTk
    have hz2 := hb2.size
    have hbw2 : Below w.heap.size w w2 := hbw1.trans (hb2.mono (by omega))
    have x20 := (hb2.block w.heap.size (by omega)).trans x0
    have x21 := (hb2.block (w.heap.size + 1) (by omega)).trans ((hb1.block (w.heap.size + 1) (by omega)).trans hX1)
    clear f0 f1 f2 f3 f4 f5 f6 f7 f8
    obtain ⟨f0, f1, f2, f3, f4, f5, f6, f7, f8⟩ := Nine.box (w := w2.drew) x20
    obtain ⟨V, hV⟩ : ∃ V, V = w2.drew.alloc (.cells #[.int .i64 0] 3) := ⟨_, rfl⟩
    have hVs : V.heap.size = w2.heap.size + 1 := by rw [hV]; simp
    have hVb : Below w2.heap.size w2 V := by rw [hV]; exact ((Below.refl _ _).drew).alloc (Nat.le_refl _) _
    have hVp : V.heap[w2.heap.size]? = some (.cells #[.int .i64 0] 3 (0, 0)) := by rw [hV]; exact heap_new rfl
    have hbwV : Below w.heap.size w V := hbw2.trans (hVb.mono (by omega))
    have K := rn_any 24 D d L B w2.heap.size t a1 l1 c1 a2 l2 c2 a3 l3 c3 m 0 [] (.pointer none) V (by omega) (Fm.below hbwV hB hf) hm hc hVp (by omega) (by omega) rfl hcl (fun q hq => by simp at hq) (hT.below (hbwV.mono hB))
    obtain ⟨R, hR⟩ : ∃ R, (renW 24 t 0 []).1 = R := ⟨_, rfl⟩
    obtain ⟨CF, hCF⟩ : ∃ CF, (renW 24 t 0 []).2 = CF := ⟨_, rfl⟩
    rw [hR, hCF] at K
    rw [hR] at HV
    have HVV : Hid (V = _) := hV
    have KC := counted_any w2.drew
    rw [← hV] at KC
    have HS : Hid (∀ W : World, Below w2.heap.size w2 W ∨ (∃ c, Nx w2.heap.size V W c) → W.cell? ⟨w.heap.size, 0, none⟩ = some (.int .i64 t.K) ∧ W.cell? ⟨w.heap.size, 1, none⟩ = some (.int .i64 t.N) ∧ W.cell? ⟨w.heap.size, 2, none⟩ = some (.string t.S) ∧ W.cell? ⟨w.heap.size, 3, none⟩ = some (.string t.Z) ∧ W.cell? ⟨w.heap.size, 4, none⟩ = some (.int .i64 t.T.K) ∧ W.cell? ⟨w.heap.size, 5, none⟩ = some (.int .i64 t.T.N) ∧ W.cell? ⟨w.heap.size, 6, none⟩ = some (.slice a1 l1 c1) ∧ W.cell? ⟨w.heap.size, 7, none⟩ = some (.slice a2 l2 c2) ∧ W.cell? ⟨w.heap.size, 8, none⟩ = some (.slice a3 l3 c3)) := fun W hW => by
      have hbk : W.heap[w.heap.size]? = w2.heap[w.heap.size]? := by
        rcases hW with hW | ⟨c, hW⟩
        · exact hW.block _ (by omega)
        · exact (hW.kf.block _ (by omega) (by omega)).trans (hVb.block _ (by omega))
      obtain ⟨g0, g1, g2, g3, g4, g5, g6, g7, g8⟩ := Nine.box (hbk.trans x20)
      exact ⟨g0, g1, g2, g3, g4, g5, g6, g7, g8⟩
    have hS0 : Below w2.heap.size w2 w2.drew := (Below.refl _ _).drew
    clear hR hCF hV hcl
    go_wp2_with fail
    go_region_held3 (fun W => W.cell? ⟨w.heap.size, 0, none⟩ = some (.int .i64 t.K) ∧ W.cell? ⟨w.heap.size, 1, none⟩ = some (.int .i64 t.N) ∧ W.cell? ⟨w.heap.size, 2, none⟩ = some (.string t.S) ∧ W.cell? ⟨w.heap.size, 3, none⟩ = some (.string t.Z) ∧ W.cell? ⟨w.heap.size, 4, none⟩ = some (.int .i64 t.T.K) ∧ W.cell? ⟨w.heap.size, 5, none⟩ = some (.int .i64 t.T.N) ∧ W.cell? ⟨w.heap.size, 6, none⟩ = some (.slice a1 l1 c1) ∧ W.cell? ⟨w.heap.size, 7, none⟩ = some (.slice a2 l2 c2) ∧ W.cell? ⟨w.heap.size, 8, none⟩ = some (.slice a3 l3 c3))
      (first | (refine ⟨?_, ?_, ?_, ?_, ?_, ?_, ?_, ?_, ?_⟩ <;> simp [World.cell?_setCell_other, t0, t1, t2, t3, t4, t5, t6, t7, t8]) | with_reducible exact HS.out _ (Or.inr ⟨_, hN3⟩) | with_reducible exact HS.out _ (Or.inl hVb) | with_reducible exact HS.out _ (Or.inl hS0) | with_reducible exact HS.out _ (Or.inr ⟨_, hN4⟩))
      (first | (go_at_call 30; refine K.mono ?_; rintro e w3 ⟨b1, m1, e1, b2, e2, b3, e3, rfl, hN3, ho3⟩; have x31 := (hN3.kf.block (w.heap.size + 1) (by omega) (by omega)).trans ((hVb.block (w.heap.size + 1) (by omega)).trans x21); obtain ⟨p0, p1, p2, p3, p4, p5, p6, p7, p8⟩ := Nine.box x31; have pf := row_free x31; obtain ⟨t0, t1, t2, t3, t4, t5, t6, t7, t8⟩ := HS.out _ (Or.inr ⟨_, hN3⟩)) | (go_at_call 31; refine KC.mono ?_; rintro e wV ⟨rfl, hwV⟩; obtain rfl : V = wV := hwV.symm))
    all_goals
      go_wp2_with fail
      obtain ⟨Y, hYe⟩ : ∃ Y, Y = set9 w3 (w.heap.size + 1) 0 (.int .i64 R.K) (.int .i64 R.N) (.string R.S) (.string R.Z) (.int .i64 R.T.K) (.int .i64 R.T.N) (.slice b1 m1 e1) (.slice b2 l2 e2) (.slice b3 l3 e3) := ⟨_, rfl⟩
      have hz3 := hN3.kf.size
      have hbw3 : Below w.heap.size w w3 := hbwV.trans (hN3.kf.below (fun k hk => by omega) (by omega))
      have hYb : Below w.heap.size w Y := by rw [hYe]; exact set9_below hbw3 (by omega)
      have hYs : Y.heap.size = w3.heap.size := by rw [hYe]; exact set9_size _ _ _ _ _ _ _ _ _ _ _ _
      have hYo : ∀ k, k ≠ w.heap.size + 1 → Y.heap[k]? = w3.heap[k]? := fun k hk => by rw [hYe]; exact set9_other k hk
      refine bodyPost_ret (v := .tuple #[.agg #[.int .i64 R.K, .int .i64 R.N, .string R.S, .string R.Z, .int .i64 R.T.K, .int .i64 R.T.N, .slice b1 m1 e1, .slice b2 l2 e2, .slice b3 l3 e3], .bool true]) (by simp [results, Tryz.results8, go_sem, p0, p1, p2, p3, p4, p5, p6, p7, p8]) rfl ?_
      have hfin : TellM w Y (D + 1) d (.returned (.tuple #[.agg #[.int .i64 R.K, .int .i64 R.N, .string R.S, .string R.Z, .int .i64 R.T.K, .int .i64 R.T.N, .slice b1 m1 e1, .slice b2 l2 e2, .slice b3 l3 e3], .bool true])) R true := ⟨_, _, _, _, _, _, _, _, _, rfl, hYb, ho3.keep (fun k hk1 hk2 => hYo k (by omega)) (by omega) (by omega)⟩
      rw [hYe] at hfin
      rw [HV.out]
      exact hfin
  · have HV : Hid (unlT t = (zTm, false)) := by show _ = _; simp [unlT, hfr]
    have HFP : Hid (0 < (freeW 24 t [] []).length) := List.length_pos_iff.2 hfr
    clear hq hfr
    go_enter Tryz.func8, Tryz.ntmps8
    go_wp2_with fail
    rw [← HX.out]
    refine (termOk_any D d L B t _ _ _ _ _ _ _ _ _ X (by omega) hfX).mono ?_
    rintro e w0 ⟨rfl, hb0⟩
    rw [HQ.out]
    have hz0 := hb0.size
    have hbw0 : Below w.heap.size w w0 := hXb.trans (hb0.mono (by omega))
    have x0 := (hb0.block w.heap.size (by omega)).trans hX0
    obtain ⟨f0, f1, f2, f3, f4, f5, f6, f7, f8⟩ := Nine.box x0
    go_wp2_with fail
    refine (freeOf_any D d L B t _ _ _ _ _ _ _ _ _ w0 (by omega) (Fm.below hbw0 hB hf)).mono ?_
    rintro e w1 ⟨v, rfl, hb1, hTk⟩
    rw [HFT.out] at hTk
    obtain ⟨ao, cp, rfl⟩ := toks_form hTk
    obtain ⟨nf, hnf⟩ : ∃ nf, (freeW 24 t [] []).length = nf := ⟨_, rfl⟩
    rw [hnf] at hTk HFP hfl ⊢
    have hnp : 0 < nf := HFP.out
    have hz1 := hb1.size
    have hbw1 : Below w.heap.size w w1 := hbw0.trans (hb1.mono (by omega))
    have x1 := (hb1.block (w.heap.size + 1) (by omega)).trans ((hb0.block (w.heap.size + 1) (by omega)).trans hX1)
    obtain ⟨p0, p1, p2, p3, p4, p5, p6, p7, p8⟩ := Nine.box x1
    have pf := row_free x1
    clear f0 f1 f2 f3 f4 f5 f6 f7 f8 hnf hTk
    go_wp2_with fail
    obtain ⟨Y, hYe⟩ : ∃ Y, Y = set9 w1 (w.heap.size + 1) 0 (.int .i64 0) (.int .i64 0) (.string ⟨#[]⟩) (.string ⟨#[]⟩) (.int .i64 0) (.int .i64 0) (.slice none 0 0) (.slice none 0 0) (.slice none 0 0) := ⟨_, rfl⟩
    have hYb : Below w.heap.size w Y := by rw [hYe]; exact set9_below hbw1 (by omega)
    refine bodyPost_ret (v := .tuple #[.agg #[.int .i64 0, .int .i64 0, .string ⟨#[]⟩, .string ⟨#[]⟩, .int .i64 0, .int .i64 0, .slice none 0 0, .slice none 0 0, .slice none 0 0], .bool false]) (by simp [results, Tryz.results8, go_sem, p0, p1, p2, p3, p4, p5, p6, p7, p8]) rfl ?_
    have hfin : TellM w Y (D + 1) d (.returned (.tuple #[.agg #[.int .i64 0, .int .i64 0, .string ⟨#[]⟩, .string ⟨#[]⟩, .int .i64 0, .int .i64 0, .slice none 0 0, .slice none 0 0, .slice none 0 0], .bool false])) zTm false := ⟨none, 0, 0, none, 0, 0, none, 0, 0, rfl, hYb, zTm_fmO _ _ _ _ _ hYb.size⟩
    rw [hYe] at hfin
    rw [HV.out]
    exact hfin

end Go.Proofs.YtbdpnnfhkhkecaaGreatDoor
