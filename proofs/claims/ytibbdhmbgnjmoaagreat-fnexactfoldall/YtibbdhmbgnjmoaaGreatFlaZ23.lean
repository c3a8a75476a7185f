/-
  What the program's foldings come to: a let. (Written by mkfd1.py.)
-/
import Derived.Test.YtibbdhmbgnjmoaaGreatFlaZ12
import Derived.Test.YtibbdhmbgnjmoaaGreatFlaZ22
import Derived.Test.YtibbdhmbgnjmoaaGreatFlaZ4
namespace Go.Proofs.YtibbdhmbgnjmoaaGreat
open Go.RowKit
set_option linter.unusedVariables false
set_option linter.unusedSimpArgs false

theorem freeT_len {t : Tm} (h : okM t = true) : (freeT t).length ≤ 1000 := by
  obtain ⟨m, hm, hm6⟩ := okM_some h
  have h1 := freeW_len 24 t m [] [] hm
  simp only [freeT, h, if_true, List.length_nil] at h1 ⊢
  omega

set_option maxRecDepth 100000 in
set_option maxHeartbeats 8000000 in
theorem foldedLet_any (P : Nat → Prop) (D d L B : Nat) (t : Tm) (a1 : Option Addr) (l1 c1 : Nat) (a2 : Option Addr) (l2 c2 : Nat) (a3 : Option Addr) (l3 c3 : Nat) (w : World) (hB : B ≤ w.heap.size) (hf : FmP P L B w D d t a1 l1 a2 l2 a3 l3) (hl : t.A.length = 2) (hc : cntM t ≤ 1048576) (hok : okM (pa t 1) = true) :
    Calls Tryz.prog 58 #[.agg #[.int .i64 t.K, .int .i64 t.N, .string t.S, .string t.Z, .int .i64 t.T.K, .int .i64 t.T.N, .slice a1 l1 c1, .slice a2 l2 c2, .slice a3 l3 c3]] w (OutM P L B w D d (fdLet t)) := by
  obtain rfl : l3 = 2 := by have := hf.fmo.fm.m.len.1; omega
  obtain ⟨g, rfl, hgL, hgB, x0a, m0a, e0a, x0b, m0b, e0b, x0c, m0c, e0c, h90, hf0⟩ := fmo_part hf 0 (by omega)
  obtain ⟨g1, hg1, _, _, x1a, m1a, e1a, x1b, m1b, e1b, x1c, m1c, e1c, h91, hf1⟩ := fmo_part hf 1 (by omega)
  cases hg1
  have hp0 : pa t 0 = t.A[0] := pa_eq (by omega)
  have hp1 : pa t 1 = t.A[1] := pa_eq (by omega)
  obtain ⟨R, hR⟩ : ∃ R, fdLet t = R := ⟨_, rfl⟩
  rw [hR]
  unfold fdLet at hR
  rw [hp0, hp1] at hR
  rw [hp1] at hok
  have hc0 : cntM t.A[0] < cntM t := cntM_part (by omega)
  have HR : Hid (_ = R) := hR
  clear hR hp0 hp1
  generalize t.A[0] = u0 at *
  generalize t.A[1] = u1 at *
  obtain ⟨X, hX⟩ : ∃ X, X = (w.alloc (.cells #[.int .i64 t.K, .int .i64 t.N, .string t.S, .string t.Z, .int .i64 t.T.K, .int .i64 t.T.N, .slice a1 l1 c1, .slice a2 l2 c2, .slice (some ⟨g, 0, none⟩) 2 c3] 34)).alloc (.cells #[.int .i64 0, .int .i64 0, .string ⟨#[]⟩, .string ⟨#[]⟩, .int .i64 0, .int .i64 0, .slice none 0 0, .slice none 0 0, .slice none 0 0] 34) := ⟨_, rfl⟩
  have hXb : Below w.heap.size w X := by rw [hX]; exact ((Below.refl _ _).alloc (Nat.le_refl _) _).alloc (by simp) _
  have hX0 : X.heap[w.heap.size]? = some (.cells #[.int .i64 t.K, .int .i64 t.N, .string t.S, .string t.Z, .int .i64 t.T.K, .int .i64 t.T.N, .slice a1 l1 c1, .slice a2 l2 c2, .slice (some ⟨g, 0, none⟩) 2 c3] 34 (0, 0)) := by rw [hX, Below.heap_alloc _ _ _ (by simp)]; exact heap_new rfl
  have hX1 : X.heap[w.heap.size + 1]? = some (.cells #[.int .i64 0, .int .i64 0, .string ⟨#[]⟩, .string ⟨#[]⟩, .int .i64 0, .int .i64 0, .slice none 0 0, .slice none 0 0, .slice none 0 0] 34 (0, 0)) := by rw [hX]; exact heap_new (by simp)
  have hXs : X.heap.size = w.heap.size + 2 := by rw [hX]; simp
  have HX : Hid (X = _) := hX
  clear hX
  have HS : Hid (∀ W : World, Below X.heap.size X W → W.cell? ⟨w.heap.size, 8, none⟩ = some (.slice (some ⟨g, 0, none⟩) 2 c3) ∧ W.cell? ⟨g, 0, none⟩ = some (.int .i64 u0.K) ∧ W.cell? ⟨g, 1, none⟩ = some (.int .i64 u0.N) ∧ W.cell? ⟨g, 2, none⟩ = some (.string u0.S) ∧ W.cell? ⟨g, 3, none⟩ = some (.string u0.Z) ∧ W.cell? ⟨g, 4, none⟩ = some (.int .i64 u0.T.K) ∧ W.cell? ⟨g, 5, none⟩ = some (.int .i64 u0.T.N) ∧ W.cell? ⟨g, 6, none⟩ = some (.slice x0a m0a e0a) ∧ W.cell? ⟨g, 7, none⟩ = some (.slice x0b m0b e0b) ∧ W.cell? ⟨g, 8, none⟩ = some (.slice x0c m0c e0c) ∧ W.cell? ⟨g, 9, none⟩ = some (.int .i64 u1.K) ∧ W.cell? ⟨g, 9 + 1, none⟩ = some (.int .i64 u1.N) ∧ W.cell? ⟨g, 9 + 2, none⟩ = some (.string u1.S) ∧ W.cell? ⟨g, 9 + 3, none⟩ = some (.string u1.Z) ∧ W.cell? ⟨g, 9 + 4, none⟩ = some (.int .i64 u1.T.K) ∧ W.cell? ⟨g, 9 + 5, none⟩ = some (.int .i64 u1.T.N) ∧ W.cell? ⟨g, 9 + 6, none⟩ = some (.slice x1a m1a e1a) ∧ W.cell? ⟨g, 9 + 7, none⟩ = some (.slice x1b m1b e1b) ∧ W.cell? ⟨g, 9 + 8, none⟩ = some (.slice x1c m1c e1c)) := by
    intro W hW
    have y0 := (hW.block w.heap.size (by omega)).trans hX0
    have hbW : Below w.heap.size w W := hXb.trans (hW.mono hXb.size)
    obtain ⟨q0_0, q0_1, q0_2, q0_3, q0_4, q0_5, q0_6, q0_7, q0_8⟩ := h90.below hbW (by omega)
    obtain ⟨q1_0, q1_1, q1_2, q1_3, q1_4, q1_5, q1_6, q1_7, q1_8⟩ := h91.below hbW (by omega)
    exact ⟨row_cell y0 8, q0_0, q0_1, q0_2, q0_3, q0_4, q0_5, q0_6, q0_7, q0_8, q1_0, q1_1, q1_2, q1_3, q1_4, q1_5, q1_6, q1_7, q1_8⟩
  go_enter Tryz.func58, Tryz.ntmps58
  go_wp2_with fail
  rw [← HX.out]
  go_region_held3 (fun w' => w'.cell? ⟨w.heap.size, 8, none⟩ = some (.slice (some ⟨g, 0, none⟩) 2 c3) ∧ w'.cell? ⟨g, 0, none⟩ = some (.int .i64 u0.K) ∧ w'.cell? ⟨g, 1, none⟩ = some (.int .i64 u0.N) ∧ w'.cell? ⟨g, 2, none⟩ = some (.string u0.S) ∧ w'.cell? ⟨g, 3, none⟩ = some (.string u0.Z) ∧ w'.cell? ⟨g, 4, none⟩ = some (.int .i64 u0.T.K) ∧ w'.cell? ⟨g, 5, none⟩ = some (.int .i64 u0.T.N) ∧ w'.cell? ⟨g, 6, none⟩ = some (.slice x0a m0a e0a) ∧ w'.cell? ⟨g, 7, none⟩ = some (.slice x0b m0b e0b) ∧ w'.cell? ⟨g, 8, none⟩ = some (.slice x0c m0c e0c) ∧ w'.cell? ⟨g, 9, none⟩ = some (.int .i64 u1.K) ∧ w'.cell? ⟨g, 9 + 1, none⟩ = some (.int .i64 u1.N) ∧ w'.cell? ⟨g, 9 + 2, none⟩ = some (.string u1.S) ∧ w'.cell? ⟨g, 9 + 3, none⟩ = some (.string u1.Z) ∧ w'.cell? ⟨g, 9 + 4, none⟩ = some (.int .i64 u1.T.K) ∧ w'.cell? ⟨g, 9 + 5, none⟩ = some (.int .i64 u1.T.N) ∧ w'.cell? ⟨g, 9 + 6, none⟩ = some (.slice x1a m1a e1a) ∧ w'.cell? ⟨g, 9 + 7, none⟩ = some (.slice x1b m1b e1b) ∧ w'.cell? ⟨g, 9 + 8, none⟩ = some (.slice x1c m1c e1c)) ((refine HS.out _ ?_; repeat (first | with_reducible exact Below.refl _ _ | with_reducible refine bX_drew ?_ | with_reducible refine bX_alloc ?_ | with_reducible refine bX_set ?_ (by first | exact Nat.le_refl _ | omega | simp)))) (fail)
  all_goals
    first
      | (obtain ⟨Y, hY⟩ : ∃ Y, Y = ((X.alloc (.cells #[.int .i64 u0.K, .int .i64 u0.N, .string u0.S, .string u0.Z, .int .i64 u0.T.K, .int .i64 u0.T.N, .slice x0a m0a e0a, .slice x0b m0b e0b, .slice x0c m0c e0c] 34)).alloc (.cells #[.int .i64 u1.K, .int .i64 u1.N, .string u1.S, .string u1.Z, .int .i64 u1.T.K, .int .i64 u1.T.N, .slice x1a m1a e1a, .slice x1b m1b e1b, .slice x1c m1c e1c] 34)).drew := ⟨_, rfl⟩; rw [← hY]; have hYX : Below X.heap.size X Y  := (by subst hY; exact bX_drew (bX_alloc (bX_alloc (Below.refl _ _)))); have z0 : Y.heap[w.heap.size + 2]? = some (.cells #[.int .i64 u0.K, .int .i64 u0.N, .string u0.S, .string u0.Z, .int .i64 u0.T.K, .int .i64 u0.T.N, .slice x0a m0a e0a, .slice x0b m0b e0b, .slice x0c m0c e0c] 34 (0, 0)) := (by subst hY; refine (Below.heap_alloc _ _ _ (by simp [hXs])).trans ?_; exact heap_new (by simp [hXs])); have z1 : Y.heap[w.heap.size + 2 + 1]? = some (.cells #[.int .i64 u1.K, .int .i64 u1.N, .string u1.S, .string u1.Z, .int .i64 u1.T.K, .int .i64 u1.T.N, .slice x1a m1a e1a, .slice x1b m1b e1b, .slice x1c m1c e1c] 34 (0, 0)) := (by subst hY; exact heap_new (by simp [hXs])); clear hY)
      | (obtain ⟨Y, hY⟩ : ∃ Y, Y = ((X.alloc (.cells #[.int .i64 u1.K, .int .i64 u1.N, .string u1.S, .string u1.Z, .int .i64 u1.T.K, .int .i64 u1.T.N, .slice x1a m1a e1a, .slice x1b m1b e1b, .slice x1c m1c e1c] 34)).alloc (.cells #[.int .i64 u0.K, .int .i64 u0.N, .string u0.S, .string u0.Z, .int .i64 u0.T.K, .int .i64 u0.T.N, .slice x0a m0a e0a, .slice x0b m0b e0b, .slice x0c m0c e0c] 34)).drew := ⟨_, rfl⟩; rw [← hY]; have hYX : Below X.heap.size X Y  := (by subst hY; exact bX_drew (bX_alloc (bX_alloc (Below.refl _ _)))); have z1 : Y.heap[w.heap.size + 2]? = some (.cells #[.int .i64 u1.K, .int .i64 u1.N, .string u1.S, .string u1.Z, .int .i64 u1.T.K, .int .i64 u1.T.N, .slice x1a m1a e1a, .slice x1b m1b e1b, .slice x1c m1c e1c] 34 (0, 0)) := (by subst hY; refine (Below.heap_alloc _ _ _ (by simp [hXs])).trans ?_; exact heap_new (by simp [hXs])); have z0 : Y.heap[w.heap.size + 2 + 1]? = some (.cells #[.int .i64 u0.K, .int .i64 u0.N, .string u0.S, .string u0.Z, .int .i64 u0.T.K, .int .i64 u0.T.N, .slice x0a m0a e0a, .slice x0b m0b e0b, .slice x0c m0c e0c] 34 (0, 0)) := (by subst hY; exact heap_new (by simp [hXs])); clear hY)
    have hYw : Below w.heap.size w Y := hXb.trans (hYX.mono hXb.size)
    have y0 := (hYX.block w.heap.size (by omega)).trans hX0
    have y1 := (hYX.block (w.heap.size + 1) (by omega)).trans hX1
    obtain ⟨f0, f1, f2, f3, f4, f5, f6, f7, f8⟩ := Nine.box y0
    obtain ⟨p0, p1, p2, p3, p4, p5, p6, p7, p8⟩ := Nine.box y1
    have pf := row_free y1
    obtain ⟨v0_0, v0_1, v0_2, v0_3, v0_4, v0_5, v0_6, v0_7, v0_8⟩ := Nine.box z0
    obtain ⟨v1_0, v1_1, v1_2, v1_3, v1_4, v1_5, v1_6, v1_7, v1_8⟩ := Nine.box z1
    have hlt0 : w.heap.size < Y.heap.size := (Array.getElem?_eq_some_iff.1 y0).1
    have hltr : w.heap.size + 1 < Y.heap.size := (Array.getElem?_eq_some_iff.1 y1).1
    have hltA := (Array.getElem?_eq_some_iff.1 z0).1
    have hltB := (Array.getElem?_eq_some_iff.1 z1).1
    have HF : Hid (freeT u1 = freeW 24 u1 [] [] ∧ (freeT u1).length ≤ 1000) := ⟨by simp [freeT, hok], freeT_len hok⟩
    clear p0 p1 p2 p3 p4 p5 p6 p7 p8 pf HS HX hX0 hX1 h90 h91
    by_cases hn : t.N = 0
    · have hnb : (t.N == 0) = true := by simp [hn]
      have HN : Hid (t.N = 0) := hn
      clear hn
      have HK0 : Hid (∀ w' : World, Below Y.heap.size Y w' → Calls Tryz.prog 75 #[.agg #[.int .i64 u0.K, .int .i64 u0.N, .string u0.S, .string u0.Z, .int .i64 u0.T.K, .int .i64 u0.T.N, .slice x0a m0a e0a, .slice x0b m0b e0b, .slice x0c m0c e0c]] w' fun e w'' => e = .returned (.bool (pureM u0)) ∧ Below Y.heap.size Y w'') := fun w' hC =>
        (pure_any D d L B u0 _ _ _ _ _ _ _ _ _ w' (Nat.le_trans hB (Nat.le_trans hYw.size hC.size)) (hf0.fmo.keep (fun k _ hk => (hC.block k (Nat.lt_of_lt_of_le (Nat.lt_of_lt_of_le hk hB) hYw.size)).trans (hYw.block k (Nat.lt_of_lt_of_le hk hB))) (Nat.le_refl _) (Nat.le_refl _)) (Nat.le_of_lt (Nat.lt_of_lt_of_le hc0 hc))).mono fun e w'' ⟨h1, h2⟩ => ⟨h1, hC.trans (h2.mono hC.size)⟩
      have HK2 : Hid (∀ w' : World, Below Y.heap.size Y w' → Calls Tryz.prog 77 #[.agg #[.int .i64 u1.K, .int .i64 u1.N, .string u1.S, .string u1.Z, .int .i64 u1.T.K, .int .i64 u1.T.N, .slice x1a m1a e1a, .slice x1b m1b e1b, .slice x1c m1c e1c]] w' fun e w'' => ∃ v, e = .returned v ∧ Below Y.heap.size Y w'' ∧ Toks w'.heap.size w'' v (freeT u1)) := fun w' hC =>
        (freeOf_any D d L B u1 _ _ _ _ _ _ _ _ _ w' (Nat.le_trans hB (Nat.le_trans hYw.size hC.size)) (Fm.keep (fun k _ hk => (hC.block k (Nat.lt_of_lt_of_le (Nat.lt_of_lt_of_le hk hB) hYw.size)).trans (hYw.block k (Nat.lt_of_lt_of_le hk hB))) (Nat.le_refl _) (Nat.le_refl _) hf1.fmo.fm)).mono fun e w'' ⟨v, h1, h2, h3⟩ => ⟨v, h1, hC.trans (h2.mono hC.size), h3⟩
      cases hp : pureM u0
      · have HP : Hid (pureM u0 = false) := hp
        have HK1 : Hid (∀ w' : World, Below Y.heap.size Y w' → Calls Tryz.prog 75 #[.agg #[.int .i64 u0.K, .int .i64 u0.N, .string u0.S, .string u0.Z, .int .i64 u0.T.K, .int .i64 u0.T.N, .slice x0a m0a e0a, .slice x0b m0b e0b, .slice x0c m0c e0c]] w' fun e w'' => e = .returned (.bool false) ∧ Below Y.heap.size Y w'') := by rw [hp] at HK0; exact HK0
        clear hp HK0 HK2
        go_wp2_with fail
        refine wp_region_below (by kernel_rfl) (by kernel_rfl) ?_
        repeat (first
          | go_big_quiet_skip
          | (go_big_quiet_want; unfold Oper.quiet; apply Exists.intro; refine ⟨fun w' hC => ?_, ?_⟩; (have g1 := (bcell hC hlt0 1).trans f1; have k0 := (bcell hC hltA 0).trans v0_0; have k1 := (bcell hC hltA 1).trans v0_1; have k2 := (bcell hC hltA 2).trans v0_2; have k3 := (bcell hC hltA 3).trans v0_3; have k4 := (bcell hC hltA 4).trans v0_4; have k5 := (bcell hC hltA 5).trans v0_5; have k6 := (bcell hC hltA 6).trans v0_6; have k7 := (bcell hC hltA 7).trans v0_7; have k8 := (bcell hC hltA 8).trans v0_8; unfold Oper.quietAt; go_simp; first | exact rfl | exact ⟨rfl, rfl⟩ | (go_at_call 75; exact HK1.out _ hC)); go_big_quiet_on; simp only [Act.put, List.setIfInBounds_toArray, List.set_cons_zero, List.set_cons_succ]))
        refine wpQuiet_nil ?_
        intro w3 hb3
        have hYw3 : Below w.heap.size w w3 := hYw.trans (hb3.mono hYw.size)
        have y03 := (hb3.block w.heap.size hlt0).trans y0
        have y13 := (hb3.block (w.heap.size + 1) hltr).trans y1
        clear f0 f1 f2 f3 f4 f5 f6 f7 f8 v0_0 v0_1 v0_2 v0_3 v0_4 v0_5 v0_6 v0_7 v0_8 v1_0 v1_1 v1_2 v1_3 v1_4 v1_5 v1_6 v1_7 v1_8
        obtain ⟨f0, f1, f2, f3, f4, f5, f6, f7, f8⟩ := Nine.box y03
        obtain ⟨p0, p1, p2, p3, p4, p5, p6, p7, p8⟩ := Nine.box y13
        have pf := row_free y13
        go_wp2_with fail
        refine bodyPost_ret (v := .agg #[.int .i64 t.K, .int .i64 t.N, .string t.S, .string t.Z, .int .i64 t.T.K, .int .i64 t.T.N, .slice a1 l1 c1, .slice a2 l2 c2, .slice (some ⟨g, 0, none⟩) 2 c3]) (by simp [results, Tryz.results58, go_sem, p0, p1, p2, p3, p4, p5, p6, p7, p8]) rfl ?_
        rw [← HR.out]
        rw [if_neg (fun h => by rw [HP.out] at h; exact absurd h.2.1 (by decide))]; exact out_of _ _ _ hf hB (by repeat (first | with_reducible exact hYw3 | with_reducible refine bX_set ?_ (Nat.le_add_right _ _) | with_reducible refine bX_drew ?_ | with_reducible refine bX_alloc ?_))
      · have HP : Hid (pureM u0 = true) := hp
        have HK1 : Hid (∀ w' : World, Below Y.heap.size Y w' → Calls Tryz.prog 75 #[.agg #[.int .i64 u0.K, .int .i64 u0.N, .string u0.S, .string u0.Z, .int .i64 u0.T.K, .int .i64 u0.T.N, .slice x0a m0a e0a, .slice x0b m0b e0b, .slice x0c m0c e0c]] w' fun e w'' => e = .returned (.bool true) ∧ Below Y.heap.size Y w'') := by rw [hp] at HK0; exact HK0
        clear hp HK0
        go_wp2_with fail
        go_region_law (first
          | (go_simp; go_at_call 75; refine (HK1.out _ (Below.refl _ _).drew).mono ?_; rintro e w1 ⟨rfl, hb1⟩; have f2_hb1 := (bcell hb1 hlt0 2).trans f2; have g0_hb1 := (bcell hb1 hltB 0).trans v1_0; have g1_hb1 := (bcell hb1 hltB 1).trans v1_1; have g2_hb1 := (bcell hb1 hltB 2).trans v1_2; have g3_hb1 := (bcell hb1 hltB 3).trans v1_3; have g4_hb1 := (bcell hb1 hltB 4).trans v1_4; have g5_hb1 := (bcell hb1 hltB 5).trans v1_5; have g6_hb1 := (bcell hb1 hltB 6).trans v1_6; have g7_hb1 := (bcell hb1 hltB 7).trans v1_7; have g8_hb1 := (bcell hb1 hltB 8).trans v1_8; skip)
          | (go_simp; go_at_call 77; refine (HK2.out _ hb1).mono ?_; rintro e w2 ⟨vf, rfl, hb2, hT2⟩; have f2_2 := (bcell hb2 hlt0 2).trans f2)
          | (go_simp; go_at_call 76; refine (contains_toks hT2 (by have := HF.out.2; omega) t.S).mono ?_; rintro e w3 ⟨rfl, rfl⟩))
        all_goals
          have hYw3 : Below w.heap.size w w3 := hYw.trans (hb2.mono hYw.size)
          have y03 := (hb2.block w.heap.size hlt0).trans y0
          have y13 := (hb2.block (w.heap.size + 1) hltr).trans y1
          have z13 := (hb2.block _ hltB).trans z1
          clear f0 f1 f2 f3 f4 f5 f6 f7 f8 v0_0 v0_1 v0_2 v0_3 v0_4 v0_5 v0_6 v0_7 v0_8 v1_0 v1_1 v1_2 v1_3 v1_4 v1_5 v1_6 v1_7 v1_8
          obtain ⟨f0, f1, f2, f3, f4, f5, f6, f7, f8⟩ := Nine.box y03
          obtain ⟨p0, p1, p2, p3, p4, p5, p6, p7, p8⟩ := Nine.box y13
          obtain ⟨v0, v1, v2, v3, v4, v5, v6, v7, v8⟩ := Nine.box z13
          have pf := row_free y13
          cases hm : decide (bs t.S ∈ freeT u1)
          · have HM : Hid (¬ bs t.S ∈ freeT u1) := by show ¬ _; simpa using hm
            go_wp2_with fail
            refine bodyPost_ret (v := .agg #[.int .i64 u1.K, .int .i64 u1.N, .string u1.S, .string u1.Z, .int .i64 u1.T.K, .int .i64 u1.T.N, .slice x1a m1a e1a, .slice x1b m1b e1b, .slice x1c m1c e1c]) (by simp [results, Tryz.results58, go_sem, p0, p1, p2, p3, p4, p5, p6, p7, p8]) rfl ?_
            rw [← HR.out]
            rw [if_pos ⟨HN.out, HP.out, by rw [← HF.out.1]; exact HM.out⟩]; exact out_of _ _ _ hf1 hB (by repeat (first | with_reducible exact hYw3 | with_reducible refine bX_set ?_ (Nat.le_add_right _ _) | with_reducible refine bX_drew ?_ | with_reducible refine bX_alloc ?_))
          · have HM : Hid (bs t.S ∈ freeT u1) := by show _ ∈ _; simpa using hm
            go_wp2_with fail
            refine bodyPost_ret (v := .agg #[.int .i64 t.K, .int .i64 t.N, .string t.S, .string t.Z, .int .i64 t.T.K, .int .i64 t.T.N, .slice a1 l1 c1, .slice a2 l2 c2, .slice (some ⟨g, 0, none⟩) 2 c3]) (by simp [results, Tryz.results58, go_sem, p0, p1, p2, p3, p4, p5, p6, p7, p8]) rfl ?_
            rw [← HR.out]
            rw [if_neg (fun h => h.2.2 (by rw [← HF.out.1]; exact HM.out))]; exact out_of _ _ _ hf hB (by repeat (first | with_reducible exact hYw3 | with_reducible refine bX_set ?_ (Nat.le_add_right _ _) | with_reducible refine bX_drew ?_ | with_reducible refine bX_alloc ?_))
    · have hnb : (t.N == 0) = false := by simp [hn]
      go_wp2_with fail
      refine wp_region_below (by kernel_rfl) (by kernel_rfl) ?_
      repeat (first
        | go_big_quiet_skip
        | (go_big_quiet_want; unfold Oper.quiet; apply Exists.intro; refine ⟨fun w' hC => ?_, ?_⟩; (have g1 := (bcell hC hlt0 1).trans f1; have k0 := (bcell hC hltA 0).trans v0_0; have k1 := (bcell hC hltA 1).trans v0_1; have k2 := (bcell hC hltA 2).trans v0_2; have k3 := (bcell hC hltA 3).trans v0_3; have k4 := (bcell hC hltA 4).trans v0_4; have k5 := (bcell hC hltA 5).trans v0_5; have k6 := (bcell hC hltA 6).trans v0_6; have k7 := (bcell hC hltA 7).trans v0_7; have k8 := (bcell hC hltA 8).trans v0_8; unfold Oper.quietAt; go_simp; first | exact rfl | exact ⟨rfl, rfl⟩); go_big_quiet_on; simp only [Act.put, List.setIfInBounds_toArray, List.set_cons_zero, List.set_cons_succ]))
      refine wpQuiet_nil ?_
      intro w3 hb3
      have hYw3 : Below w.heap.size w w3 := hYw.trans (hb3.mono hYw.size)
      have y03 := (hb3.block w.heap.size hlt0).trans y0
      have y13 := (hb3.block (w.heap.size + 1) hltr).trans y1
      clear f0 f1 f2 f3 f4 f5 f6 f7 f8 v0_0 v0_1 v0_2 v0_3 v0_4 v0_5 v0_6 v0_7 v0_8 v1_0 v1_1 v1_2 v1_3 v1_4 v1_5 v1_6 v1_7 v1_8
      obtain ⟨f0, f1, f2, f3, f4, f5, f6, f7, f8⟩ := Nine.box y03
      obtain ⟨p0, p1, p2, p3, p4, p5, p6, p7, p8⟩ := Nine.box y13
      have pf := row_free y13
      go_wp2_with fail
      refine bodyPost_ret (v := .agg #[.int .i64 t.K, .int .i64 t.N, .string t.S, .string t.Z, .int .i64 t.T.K, .int .i64 t.T.N, .slice a1 l1 c1, .slice a2 l2 c2, .slice (some ⟨g, 0, none⟩) 2 c3]) (by simp [results, Tryz.results58, go_sem, p0, p1, p2, p3, p4, p5, p6, p7, p8]) rfl ?_
      rw [← HR.out]
      rw [if_neg (fun h => hn h.1)]; exact out_of _ _ _ hf hB (by repeat (first | with_reducible exact hYw3 | with_reducible refine bX_set ?_ (Nat.le_add_right _ _) | with_reducible refine bX_drew ?_ | with_reducible refine bX_alloc ?_))

end Go.Proofs.YtibbdhmbgnjmoaaGreat

/-
  What the program's foldings come to: a part of a pair. (Written by mkfd1.py.)
-/
namespace Go.Proofs.YtibbdhmbgnjmoaaGreat
open Go.RowKit
set_option linter.unusedVariables false
set_option linter.unusedSimpArgs false

set_option maxRecDepth 100000 in
set_option maxHeartbeats 8000000 in
theorem foldedFst_any (P : Nat → Prop) (D d L B : Nat) (t : Tm) (a1 : Option Addr) (l1 c1 : Nat) (a2 : Option Addr) (l2 c2 : Nat) (a3 : Option Addr) (l3 c3 : Nat) (w : World) (hB : B ≤ w.heap.size) (hf : FmP P L B w D d t a1 l1 a2 l2 a3 l3) (hl : t.A.length = 1) (hc : cntM t ≤ 1048576) (h2 : (pa t 0).K = 9 → (pa t 0).A.length = 2) :
    Calls Tryz.prog 55 #[.agg #[.int .i64 t.K, .int .i64 t.N, .string t.S, .string t.Z, .int .i64 t.T.K, .int .i64 t.T.N, .slice a1 l1 c1, .slice a2 l2 c2, .slice a3 l3 c3]] w (OutM P L B w D d (fdFst t)) := by
  obtain rfl : l3 = 1 := by have := hf.fmo.fm.m.len.1; omega
  obtain ⟨g, rfl, hgL, hgB, x0a, m0a, e0a, x0b, m0b, e0b, x0c, m0c, e0c, h90, hf0⟩ := fmo_part hf 0 (by omega)
  have hp0 : pa t 0 = t.A[0] := pa_eq (by omega)
  obtain ⟨R, hR⟩ : ∃ R, fdFst t = R := ⟨_, rfl⟩
  rw [hR]
  unfold fdFst at hR
  rw [hp0] at hR
  rw [hp0] at h2
  have hc0 : cntM t.A[0] < cntM t := cntM_part (by omega)
  have HR : Hid (_ = R) := hR
  clear hR hp0
  generalize t.A[0] = u0 at *
  obtain ⟨X, hX⟩ : ∃ X, X = (w.alloc (.cells #[.int .i64 t.K, .int .i64 t.N, .string t.S, .string t.Z, .int .i64 t.T.K, .int .i64 t.T.N, .slice a1 l1 c1, .slice a2 l2 c2, .slice (some ⟨g, 0, none⟩) 1 c3] 34)).alloc (.cells #[.int .i64 0, .int .i64 0, .string ⟨#[]⟩, .string ⟨#[]⟩, .int .i64 0, .int .i64 0, .slice none 0 0, .slice none 0 0, .slice none 0 0] 34) := ⟨_, rfl⟩
  have hXb : Below w.heap.size w X := by rw [hX]; exact ((Below.refl _ _).alloc (Nat.le_refl _) _).alloc (by simp) _
  have hX0 : X.heap[w.heap.size]? = some (.cells #[.int .i64 t.K, .int .i64 t.N, .string t.S, .string t.Z, .int .i64 t.T.K, .int .i64 t.T.N, .slice a1 l1 c1, .slice a2 l2 c2, .slice (some ⟨g, 0, none⟩) 1 c3] 34 (0, 0)) := by rw [hX, Below.heap_alloc _ _ _ (by simp)]; exact heap_new rfl
  have hX1 : X.heap[w.heap.size + 1]? = some (.cells #[.int .i64 0, .int .i64 0, .string ⟨#[]⟩, .string ⟨#[]⟩, .int .i64 0, .int .i64 0, .slice none 0 0, .slice none 0 0, .slice none 0 0] 34 (0, 0)) := by rw [hX]; exact heap_new (by simp)
  have hXs : X.heap.size = w.heap.size + 2 := by rw [hX]; simp
  have HX : Hid (X = _) := hX
  clear hX
  obtain ⟨Y, hY⟩ : ∃ Y, Y = X.alloc (.cells #[.int .i64 u0.K, .int .i64 u0.N, .string u0.S, .string u0.Z, .int .i64 u0.T.K, .int .i64 u0.T.N, .slice x0a m0a e0a, .slice x0b m0b e0b, .slice x0c m0c e0c] 34) := ⟨_, rfl⟩
  have hYX : Below X.heap.size X Y := by rw [hY]; exact bX_alloc (Below.refl _ _)
  have hYw0 : Below w.heap.size w Y := hXb.trans (hYX.mono hXb.size)
  have yy0 := (hYX.block w.heap.size (by omega)).trans hX0
  have yy1 := (hYX.block (w.heap.size + 1) (by omega)).trans hX1
  have zz0 : Y.heap[w.heap.size + 1 + 1]? = some (.cells #[.int .i64 u0.K, .int .i64 u0.N, .string u0.S, .string u0.Z, .int .i64 u0.T.K, .int .i64 u0.T.N, .slice x0a m0a e0a, .slice x0b m0b e0b, .slice x0c m0c e0c] 34 (0, 0)) := by rw [hY]; exact heap_new (by rw [hXs])
  have hYs : Y.heap.size = w.heap.size + 3 := by rw [hY]; simp [hXs]
  have HY : Hid (Y = _) := hY
  clear hY
  have E := h90.below hXb (by omega)
  rw [HX.out, Nat.zero_mul] at E
  obtain ⟨q0, q1, q2, q3, q4, q5, q6, q7, q8⟩ := E
  by_cases hk : u0.K = 9
  · have hkb : (u0.K == 9) = true := by simp [hk]
    have hl2 := h2 hk
    have HK : Hid (u0.K = 9) := hk
    obtain ⟨k0, hx, _, hkB, ya, na, ja, yb, nb, jb, yc, nc, jc, h9a, hfa⟩ := fmo_part hf0 0 (by omega)
    subst hx
    obtain ⟨k1, hx1, _, _, sa, oa, ia, sb, ob, ib, sc, oc, ic, h9b, hfb⟩ := fmo_part hf0 1 (by omega)
    cases hx1
    have hm : m0c = 2 := by have := hf0.fmo.fm.m.len.1; omega
    subst hm
    have hq0 : pa u0 0 = u0.A[0] := pa_eq (by omega)
    have hq1 : pa u0 1 = u0.A[1] := pa_eq (by omega)
    have HR2 : Hid (_ = R) := HR.out
    rw [hq0, hq1] at HR2
    have hd0 : cntM u0.A[0] < cntM u0 := cntM_part (by omega)
    have hd1 : cntM u0.A[1] < cntM u0 := cntM_part (by omega)
    clear HR hk h2 hq0 hq1
    generalize u0.A[0] = n0 at *
    generalize u0.A[1] = n1 at *
    have E := h9b.below hYw0 (by omega)
    rw [HY.out, HX.out, Nat.one_mul] at E
    obtain ⟨s0, s1, s2, s3, s4, s5, s6, s7, s8⟩ := E
    go_enter Tryz.func55, Tryz.ntmps55
    go_wp2_with fail
    rw [← HX.out, ← HY.out]
    refine (pure_any D d L B n1 _ _ _ _ _ _ _ _ _ Y (by omega) (hfb.fmo.keep (fun k _ hk => hYw0.block k (by omega)) (Nat.le_refl _) (Nat.le_refl _)) (by omega)).mono ?_
    rintro e w1 ⟨rfl, hb1⟩
    clear q0 q1 q2 q3 q4 q5 q6 q7 q8 s0 s1 s2 s3 s4 s5 s6 s7 s8
    have hYw : Below w.heap.size w w1 := hYw0.trans (hb1.mono (by omega))
    have y0 := (hb1.block w.heap.size (by omega)).trans yy0
    have y1 := (hb1.block (w.heap.size + 1) (by omega)).trans yy1
    have z0 := (hb1.block (w.heap.size + 1 + 1) (by omega)).trans zz0
    obtain ⟨f0, f1, f2, f3, f4, f5, f6, f7, f8⟩ := Nine.box y0
    obtain ⟨p0, p1, p2, p3, p4, p5, p6, p7, p8⟩ := Nine.box y1
    have pf := row_free y1
    obtain ⟨v0, v1, v2, v3, v4, v5, v6, v7, v8⟩ := Nine.box z0
    have E := h9a.below hYw (by omega)
    rw [Nat.zero_mul] at E
    obtain ⟨s0, s1, s2, s3, s4, s5, s6, s7, s8⟩ := E
    cases hp : pureM n1
    · go_wp2_with fail
      refine bodyPost_ret (v := .agg #[.int .i64 t.K, .int .i64 t.N, .string t.S, .string t.Z, .int .i64 t.T.K, .int .i64 t.T.N, .slice a1 l1 c1, .slice a2 l2 c2, .slice (some ⟨g, 0, none⟩) 1 c3]) (by simp [results, Tryz.results55, go_sem, p0, p1, p2, p3, p4, p5, p6, p7, p8]) rfl ?_
      rw [← HR2.out]
      rw [hp, if_neg (fun h => absurd h.2 (by decide))]; exact out_of _ _ _ hf hB (by repeat (first | with_reducible exact hYw | with_reducible refine bX_set ?_ (Nat.le_add_right _ _) | with_reducible refine bX_drew ?_ | with_reducible refine bX_alloc ?_))
    · go_wp2_with fail
      refine bodyPost_ret (v := .agg #[.int .i64 n0.K, .int .i64 n0.N, .string n0.S, .string n0.Z, .int .i64 n0.T.K, .int .i64 n0.T.N, .slice ya na ja, .slice yb nb jb, .slice yc nc jc]) (by simp [results, Tryz.results55, go_sem, p0, p1, p2, p3, p4, p5, p6, p7, p8]) rfl ?_
      rw [← HR2.out]
      rw [hp, if_pos ⟨HK.out, rfl⟩]; exact out_of _ _ _ hfa hB (by repeat (first | with_reducible exact hYw | with_reducible refine bX_set ?_ (Nat.le_add_right _ _) | with_reducible refine bX_drew ?_ | with_reducible refine bX_alloc ?_))
  · have hkb : (u0.K == 9) = false := by simp [hk]
    go_enter Tryz.func55, Tryz.ntmps55
    have hz : (((w.alloc (.cells #[.int .i64 t.K, .int .i64 t.N, .string t.S, .string t.Z, .int .i64 t.T.K, .int .i64 t.T.N, .slice a1 l1 c1, .slice a2 l2 c2, .slice (some ⟨g, 0, none⟩) 1 c3] 34)).alloc (.cells #[.int .i64 t.K, .int .i64 t.N, .string t.S, .string t.Z, .int .i64 t.T.K, .int .i64 t.T.N, .slice a1 l1 c1, .slice a2 l2 c2, .slice (some ⟨g, 0, none⟩) 1 c3] 34)).alloc (.cells #[.int .i64 u0.K, .int .i64 u0.N, .string u0.S, .string u0.Z, .int .i64 u0.T.K, .int .i64 u0.T.N, .slice x0a m0a e0a, .slice x0b m0b e0b, .slice x0c m0c e0c] 34)).heap[w.heap.size + 1]? = some (.cells #[.int .i64 t.K, .int .i64 t.N, .string t.S, .string t.Z, .int .i64 t.T.K, .int .i64 t.T.N, .slice a1 l1 c1, .slice a2 l2 c2, .slice (some ⟨g, 0, none⟩) 1 c3] 34 (0, 0)) := by rw [Below.heap_alloc _ _ _ (by simp)]; exact heap_new (by simp)
    obtain ⟨p0, p1, p2, p3, p4, p5, p6, p7, p8⟩ := Nine.box hz
    go_wp2_with fail
    refine bodyPost_ret (v := .agg #[.int .i64 t.K, .int .i64 t.N, .string t.S, .string t.Z, .int .i64 t.T.K, .int .i64 t.T.N, .slice a1 l1 c1, .slice a2 l2 c2, .slice (some ⟨g, 0, none⟩) 1 c3]) (by simp [results, Tryz.results55, go_sem, p0, p1, p2, p3, p4, p5, p6, p7, p8]) rfl ?_
    rw [← HR.out, if_neg (fun h => hk h.1)]
    exact out_of _ _ _ hf hB (bX_alloc (bX_alloc (bX_alloc (Below.refl _ _))))

set_option maxRecDepth 100000 in
set_option maxHeartbeats 8000000 in
theorem foldedSnd_any (P : Nat → Prop) (D d L B : Nat) (t : Tm) (a1 : Option Addr) (l1 c1 : Nat) (a2 : Option Addr) (l2 c2 : Nat) (a3 : Option Addr) (l3 c3 : Nat) (w : World) (hB : B ≤ w.heap.size) (hf : FmP P L B w D d t a1 l1 a2 l2 a3 l3) (hl : t.A.length = 1) (hc : cntM t ≤ 1048576) (h2 : (pa t 0).K = 9 → (pa t 0).A.length = 2) :
    Calls Tryz.prog 56 #[.agg #[.int .i64 t.K, .int .i64 t.N, .string t.S, .string t.Z, .int .i64 t.T.K, .int .i64 t.T.N, .slice a1 l1 c1, .slice a2 l2 c2, .slice a3 l3 c3]] w (OutM P L B w D d (fdSnd t)) := by
  obtain rfl : l3 = 1 := by have := hf.fmo.fm.m.len.1; omega
  obtain ⟨g, rfl, hgL, hgB, x0a, m0a, e0a, x0b, m0b, e0b, x0c, m0c, e0c, h90, hf0⟩ := fmo_part hf 0 (by omega)
  have hp0 : pa t 0 = t.A[0] := pa_eq (by omega)
  obtain ⟨R, hR⟩ : ∃ R, fdSnd t = R := ⟨_, rfl⟩
  rw [hR]
  unfold fdSnd at hR
  rw [hp0] at hR
  rw [hp0] at h2
  have hc0 : cntM t.A[0] < cntM t := cntM_part (by omega)
  have HR : Hid (_ = R) := hR
  clear hR hp0
  generalize t.A[0] = u0 at *
  obtain ⟨X, hX⟩ : ∃ X, X = (w.alloc (.cells #[.int .i64 t.K, .int .i64 t.N, .string t.S, .string t.Z, .int .i64 t.T.K, .int .i64 t.T.N, .slice a1 l1 c1, .slice a2 l2 c2, .slice (some ⟨g, 0, none⟩) 1 c3] 34)).alloc (.cells #[.int .i64 0, .int .i64 0, .string ⟨#[]⟩, .string ⟨#[]⟩, .int .i64 0, .int .i64 0, .slice none 0 0, .slice none 0 0, .slice none 0 0] 34) := ⟨_, rfl⟩
  have hXb : Below w.heap.size w X := by rw [hX]; exact ((Below.refl _ _).alloc (Nat.le_refl _) _).alloc (by simp) _
  have hX0 : X.heap[w.heap.size]? = some (.cells #[.int .i64 t.K, .int .i64 t.N, .string t.S, .string t.Z, .int .i64 t.T.K, .int .i64 t.T.N, .slice a1 l1 c1, .slice a2 l2 c2, .slice (some ⟨g, 0, none⟩) 1 c3] 34 (0, 0)) := by rw [hX, Below.heap_alloc _ _ _ (by simp)]; exact heap_new rfl
  have hX1 : X.heap[w.heap.size + 1]? = some (.cells #[.int .i64 0, .int .i64 0, .string ⟨#[]⟩, .string ⟨#[]⟩, .int .i64 0, .int .i64 0, .slice none 0 0, .slice none 0 0, .slice none 0 0] 34 (0, 0)) := by rw [hX]; exact heap_new (by simp)
  have hXs : X.heap.size = w.heap.size + 2 := by rw [hX]; simp
  have HX : Hid (X = _) := hX
  clear hX
  obtain ⟨Y, hY⟩ : ∃ Y, Y = X.alloc (.cells #[.int .i64 u0.K, .int .i64 u0.N, .string u0.S, .string u0.Z, .int .i64 u0.T.K, .int .i64 u0.T.N, .slice x0a m0a e0a, .slice x0b m0b e0b, .slice x0c m0c e0c] 34) := ⟨_, rfl⟩
  have hYX : Below X.heap.size X Y := by rw [hY]; exact bX_alloc (Below.refl _ _)
  have hYw0 : Below w.heap.size w Y := hXb.trans (hYX.mono hXb.size)
  have yy0 := (hYX.block w.heap.size (by omega)).trans hX0
  have yy1 := (hYX.block (w.heap.size + 1) (by omega)).trans hX1
  have zz0 : Y.heap[w.heap.size + 1 + 1]? = some (.cells #[.int .i64 u0.K, .int .i64 u0.N, .string u0.S, .string u0.Z, .int .i64 u0.T.K, .int .i64 u0.T.N, .slice x0a m0a e0a, .slice x0b m0b e0b, .slice x0c m0c e0c] 34 (0, 0)) := by rw [hY]; exact heap_new (by rw [hXs])
  have hYs : Y.heap.size = w.heap.size + 3 := by rw [hY]; simp [hXs]
  have HY : Hid (Y = _) := hY
  clear hY
  have E := h90.below hXb (by omega)
  rw [HX.out, Nat.zero_mul] at E
  obtain ⟨q0, q1, q2, q3, q4, q5, q6, q7, q8⟩ := E
  by_cases hk : u0.K = 9
  · have hkb : (u0.K == 9) = true := by simp [hk]
    have hl2 := h2 hk
    have HK : Hid (u0.K = 9) := hk
    obtain ⟨k0, hx, _, hkB, ya, na, ja, yb, nb, jb, yc, nc, jc, h9a, hfa⟩ := fmo_part hf0 0 (by omega)
    subst hx
    obtain ⟨k1, hx1, _, _, sa, oa, ia, sb, ob, ib, sc, oc, ic, h9b, hfb⟩ := fmo_part hf0 1 (by omega)
    cases hx1
    have hm : m0c = 2 := by have := hf0.fmo.fm.m.len.1; omega
    subst hm
    have hq0 : pa u0 0 = u0.A[0] := pa_eq (by omega)
    have hq1 : pa u0 1 = u0.A[1] := pa_eq (by omega)
    have HR2 : Hid (_ = R) := HR.out
    rw [hq0, hq1] at HR2
    have hd0 : cntM u0.A[0] < cntM u0 := cntM_part (by omega)
    have hd1 : cntM u0.A[1] < cntM u0 := cntM_part (by omega)
    clear HR hk h2 hq0 hq1
    generalize u0.A[0] = n0 at *
    generalize u0.A[1] = n1 at *
    have E := h9a.below hYw0 (by omega)
    rw [HY.out, HX.out, Nat.zero_mul] at E
    obtain ⟨s0, s1, s2, s3, s4, s5, s6, s7, s8⟩ := E
    go_enter Tryz.func56, Tryz.ntmps56
    go_wp2_with fail
    rw [← HX.out, ← HY.out]
    refine (pure_any D d L B n0 _ _ _ _ _ _ _ _ _ Y (by omega) (hfa.fmo.keep (fun k _ hk => hYw0.block k (by omega)) (Nat.le_refl _) (Nat.le_refl _)) (by omega)).mono ?_
    rintro e w1 ⟨rfl, hb1⟩
    clear q0 q1 q2 q3 q4 q5 q6 q7 q8 s0 s1 s2 s3 s4 s5 s6 s7 s8
    have hYw : Below w.heap.size w w1 := hYw0.trans (hb1.mono (by omega))
    have y0 := (hb1.block w.heap.size (by omega)).trans yy0
    have y1 := (hb1.block (w.heap.size + 1) (by omega)).trans yy1
    have z0 := (hb1.block (w.heap.size + 1 + 1) (by omega)).trans zz0
    obtain ⟨f0, f1, f2, f3, f4, f5, f6, f7, f8⟩ := Nine.box y0
    obtain ⟨p0, p1, p2, p3, p4, p5, p6, p7, p8⟩ := Nine.box y1
    have pf := row_free y1
    obtain ⟨v0, v1, v2, v3, v4, v5, v6, v7, v8⟩ := Nine.box z0
    have E := h9b.below hYw (by omega)
    rw [Nat.one_mul] at E
    obtain ⟨s0, s1, s2, s3, s4, s5, s6, s7, s8⟩ := E
    cases hp : pureM n0
    · go_wp2_with fail
      refine bodyPost_ret (v := .agg #[.int .i64 t.K, .int .i64 t.N, .string t.S, .string t.Z, .int .i64 t.T.K, .int .i64 t.T.N, .slice a1 l1 c1, .slice a2 l2 c2, .slice (some ⟨g, 0, none⟩) 1 c3]) (by simp [results, Tryz.results56, go_sem, p0, p1, p2, p3, p4, p5, p6, p7, p8]) rfl ?_
      rw [← HR2.out]
      rw [hp, if_neg (fun h => absurd h.2 (by decide))]; exact out_of _ _ _ hf hB (by repeat (first | with_reducible exact hYw | with_reducible refine bX_set ?_ (Nat.le_add_right _ _) | with_reducible refine bX_drew ?_ | with_reducible refine bX_alloc ?_))
    · go_wp2_with fail
      refine bodyPost_ret (v := .agg #[.int .i64 n1.K, .int .i64 n1.N, .string n1.S, .string n1.Z, .int .i64 n1.T.K, .int .i64 n1.T.N, .slice sa oa ia, .slice sb ob ib, .slice sc oc ic]) (by simp [results, Tryz.results56, go_sem, p0, p1, p2, p3, p4, p5, p6, p7, p8]) rfl ?_
      rw [← HR2.out]
      rw [hp, if_pos ⟨HK.out, rfl⟩]; exact out_of _ _ _ hfb hB (by repeat (first | with_reducible exact hYw | with_reducible refine bX_set ?_ (Nat.le_add_right _ _) | with_reducible refine bX_drew ?_ | with_reducible refine bX_alloc ?_))
  · have hkb : (u0.K == 9) = false := by simp [hk]
    go_enter Tryz.func56, Tryz.ntmps56
    have hz : (((w.alloc (.cells #[.int .i64 t.K, .int .i64 t.N, .string t.S, .string t.Z, .int .i64 t.T.K, .int .i64 t.T.N, .slice a1 l1 c1, .slice a2 l2 c2, .slice (some ⟨g, 0, none⟩) 1 c3] 34)).alloc (.cells #[.int .i64 t.K, .int .i64 t.N, .string t.S, .string t.Z, .int .i64 t.T.K, .int .i64 t.T.N, .slice a1 l1 c1, .slice a2 l2 c2, .slice (some ⟨g, 0, none⟩) 1 c3] 34)).alloc (.cells #[.int .i64 u0.K, .int .i64 u0.N, .string u0.S, .string u0.Z, .int .i64 u0.T.K, .int .i64 u0.T.N, .slice x0a m0a e0a, .slice x0b m0b e0b, .slice x0c m0c e0c] 34)).heap[w.heap.size + 1]? = some (.cells #[.int .i64 t.K, .int .i64 t.N, .string t.S, .string t.Z, .int .i64 t.T.K, .int .i64 t.T.N, .slice a1 l1 c1, .slice a2 l2 c2, .slice (some ⟨g, 0, none⟩) 1 c3] 34 (0, 0)) := by rw [Below.heap_alloc _ _ _ (by simp)]; exact heap_new (by simp)
    obtain ⟨p0, p1, p2, p3, p4, p5, p6, p7, p8⟩ := Nine.box hz
    go_wp2_with fail
    refine bodyPost_ret (v := .agg #[.int .i64 t.K, .int .i64 t.N, .string t.S, .string t.Z, .int .i64 t.T.K, .int .i64 t.T.N, .slice a1 l1 c1, .slice a2 l2 c2, .slice (some ⟨g, 0, none⟩) 1 c3]) (by simp [results, Tryz.results56, go_sem, p0, p1, p2, p3, p4, p5, p6, p7, p8]) rfl ?_
    rw [← HR.out, if_neg (fun h => hk h.1)]
    exact out_of _ _ _ hf hB (bX_alloc (bX_alloc (bX_alloc (Below.refl _ _))))

end Go.Proofs.YtibbdhmbgnjmoaaGreat
