/-
  What the program's foldings come to: numbers. (Written by mkfd1.py.)
-/
import Derived.Test.YtibbdhmbgnjmoaaGreatFlaZ12
import Derived.Test.YtibbdhmbgnjmoaaGreatFlaZ4
import Derived.Test.YtibbdhmbgnjmoaaGreatFlaZ10
import Derived.BigQuiet
import Derived.Deep.RegionWith
import Derived.Test.YtibbdhmbgnjmoaaGreatFlaZ11
namespace Go.Proofs.YtibbdhmbgnjmoaaGreat
open Go.RowKit
set_option linter.unusedVariables false
set_option linter.unusedSimpArgs false

set_option maxHeartbeats 4000000 in
theorem reckon_any (n x y : Int) (w : World) (hn : 1 ≤ n ∧ n ≤ 5) (hx : -1000000 ≤ x ∧ x ≤ 1000000) (hy : -1000000 ≤ y ∧ y ≤ 1000000) :
    Calls Tryz.prog 74 #[.int .i64 n, .int .i64 x, .int .i64 y] w fun e w' => e = .returned (.tuple #[.int .i64 (rkV n x y), .bool (rkB n x y)]) ∧ w' = w := by
  have hm1 : -1000000000000 ≤ x * y ∧ x * y ≤ 1000000000000 := by
    have h1 : x.natAbs ≤ 1000000 := by omega
    have h2 : y.natAbs ≤ 1000000 := by omega
    have h3 : (x * y).natAbs ≤ 1000000 * 1000000 := by rw [Int.natAbs_mul]; exact Nat.mul_le_mul h1 h2
    omega
  have w1 : IntKind.i64.wrap (x + y) = x + y := by rw [IntKind.wrap_i64]; omega
  have w2 : IntKind.i64.wrap (x - y) = x - y := by rw [IntKind.wrap_i64]; omega
  have w3 : IntKind.i64.wrap (x * y) = x * y := by rw [IntKind.wrap_i64]; omega
  rcases (by omega : n = 1 ∨ n = 2 ∨ n = 3 ∨ n = 4 ∨ n = 5) with rfl | rfl | rfl | rfl | rfl
  · obtain ⟨v, hv⟩ : ∃ v, x + y = v := ⟨_, rfl⟩
    have e1 : rkV 1 x y = v := by simp [rkV, hv]
    rw [rkB, e1]
    rw [hv] at w1
    cases h1 : decide (-1000000 ≤ v) <;> cases h2 : decide (v ≤ 1000000)
    all_goals
      simp only [decide_eq_true_eq, decide_eq_false_iff_not] at h1 h2
      go_enter Tryz.func74, Tryz.ntmps74
      go_wp2_with fail
      first
        | exact bodyPost_ret (v := .tuple #[.int .i64 v, .bool false]) (by simp [results, Tryz.results74, go_sem]) rfl ⟨rfl, rfl⟩
        | exact bodyPost_ret (v := .tuple #[.int .i64 v, .bool true]) (by simp [results, Tryz.results74, go_sem]) rfl ⟨rfl, rfl⟩
  · obtain ⟨v, hv⟩ : ∃ v, x - y = v := ⟨_, rfl⟩
    have e1 : rkV 2 x y = v := by simp [rkV, hv]
    rw [rkB, e1]
    rw [hv] at w2
    cases h1 : decide (-1000000 ≤ v) <;> cases h2 : decide (v ≤ 1000000)
    all_goals
      simp only [decide_eq_true_eq, decide_eq_false_iff_not] at h1 h2
      go_enter Tryz.func74, Tryz.ntmps74
      go_wp2_with fail
      first
        | exact bodyPost_ret (v := .tuple #[.int .i64 v, .bool false]) (by simp [results, Tryz.results74, go_sem]) rfl ⟨rfl, rfl⟩
        | exact bodyPost_ret (v := .tuple #[.int .i64 v, .bool true]) (by simp [results, Tryz.results74, go_sem]) rfl ⟨rfl, rfl⟩
  · obtain ⟨v, hv⟩ : ∃ v, x * y = v := ⟨_, rfl⟩
    have e1 : rkV 3 x y = v := by simp [rkV, hv]
    rw [rkB, e1]
    rw [hv] at w3
    cases h1 : decide (-1000000 ≤ v) <;> cases h2 : decide (v ≤ 1000000)
    all_goals
      simp only [decide_eq_true_eq, decide_eq_false_iff_not] at h1 h2
      go_enter Tryz.func74, Tryz.ntmps74
      go_wp2_with fail
      first
        | exact bodyPost_ret (v := .tuple #[.int .i64 v, .bool false]) (by simp [results, Tryz.results74, go_sem]) rfl ⟨rfl, rfl⟩
        | exact bodyPost_ret (v := .tuple #[.int .i64 v, .bool true]) (by simp [results, Tryz.results74, go_sem]) rfl ⟨rfl, rfl⟩
  · by_cases hlt : x < y
    · have e1 : rkV 4 x y = 1 := by simp [rkV, hlt]
      rw [rkB, e1]
      go_enter Tryz.func74, Tryz.ntmps74
      go_wp2_with fail
      exact bodyPost_ret (v := .tuple #[.int .i64 1, .bool true]) (by simp [results, Tryz.results74, go_sem]) rfl ⟨rfl, rfl⟩
    · have e1 : rkV 4 x y = 0 := by simp [rkV, hlt]
      rw [rkB, e1]
      have hge : y ≤ x := by omega
      go_enter Tryz.func74, Tryz.ntmps74
      go_wp2_with fail
      exact bodyPost_ret (v := .tuple #[.int .i64 0, .bool true]) (by simp [results, Tryz.results74, go_sem]) rfl ⟨rfl, rfl⟩
  · by_cases hlt : x = y
    · have e1 : rkV 5 x y = 1 := by simp [rkV, hlt]
      rw [rkB, e1]
      go_enter Tryz.func74, Tryz.ntmps74
      go_wp2_with fail
      exact bodyPost_ret (v := .tuple #[.int .i64 1, .bool true]) (by simp [results, Tryz.results74, go_sem]) rfl ⟨rfl, rfl⟩
    · have e1 : rkV 5 x y = 0 := by simp [rkV, hlt]
      rw [rkB, e1]
      have hlb : (x == y) = false := by simp [hlt]
      go_enter Tryz.func74, Tryz.ntmps74
      go_wp2_with fail
      exact bodyPost_ret (v := .tuple #[.int .i64 0, .bool true]) (by simp [results, Tryz.results74, go_sem]) rfl ⟨rfl, rfl⟩

set_option maxRecDepth 100000 in
set_option maxHeartbeats 8000000 in
theorem foldedOp_any (P : Nat → Prop) (D d L B : Nat) (t : Tm) (a1 : Option Addr) (l1 c1 : Nat) (a2 : Option Addr) (l2 c2 : Nat) (a3 : Option Addr) (l3 c3 : Nat) (w : World) (hB : B ≤ w.heap.size) (hf : FmP P L B w D d t a1 l1 a2 l2 a3 l3) (hl : t.A.length = 2) (hN : 1 ≤ t.N ∧ t.N ≤ 5) (hr0 : (pa t 0).K = 1 → -1000000 ≤ (pa t 0).N ∧ (pa t 0).N ≤ 1000000) (hr1 : (pa t 1).K = 1 → -1000000 ≤ (pa t 1).N ∧ (pa t 1).N ≤ 1000000) :
    Calls Tryz.prog 53 #[.agg #[.int .i64 t.K, .int .i64 t.N, .string t.S, .string t.Z, .int .i64 t.T.K, .int .i64 t.T.N, .slice a1 l1 c1, .slice a2 l2 c2, .slice a3 l3 c3]] w (OutM P L B w D d (fdOp t)) := by
  obtain rfl : l3 = 2 := by have := hf.fmo.fm.m.len.1; omega
  obtain ⟨g, rfl, hgL, hgB, x0a, m0a, e0a, x0b, m0b, e0b, x0c, m0c, e0c, h90, hf0⟩ := fmo_part hf 0 (by omega)
  obtain ⟨g1, hg1, _, _, x1a, m1a, e1a, x1b, m1b, e1b, x1c, m1c, e1c, h91, hf1⟩ := fmo_part hf 1 (by omega)
  cases hg1
  have hp0 : pa t 0 = t.A[0] := pa_eq (by omega)
  have hp1 : pa t 1 = t.A[1] := pa_eq (by omega)
  obtain ⟨R, hR⟩ : ∃ R, fdOp t = R := ⟨_, rfl⟩
  rw [hR]
  unfold fdOp at hR
  rw [hp0, hp1] at hR
  rw [hp0] at hr0
  rw [hp1] at hr1
  have HR : Hid (_ = R) := hR
  clear hR hp0 hp1
  generalize t.A[0] = u0 at *
  generalize t.A[1] = u1 at *
  obtain ⟨X, hX⟩ : ∃ X, X = (w.alloc (.cells #[.int .i64 t.K, .int .i64 t.N, .string t.S, .string t.Z, .int .i64 t.T.K, .int .i64 t.T.N, .slice a1 l1 c1, .slice a2 l2 c2, .slice (some ⟨g, 0, none⟩) 2 c3] 34)).alloc (.cells #[.int .i64 0, .int .i64 0, .string ⟨#[]⟩, .string ⟨#[]⟩, .int .i64 0, .int .i64 0, .slice none 0 0, .slice none 0 0, .slice none 0 0] 34) := ⟨_, rfl⟩
  have hXb : Below w.heap.size w X := by rw [hX]; exact ((Below.refl _ _).alloc (Nat.le_refl _) _).alloc (by simp) _
  have hX0 : X.heap[w.heap.size]? = some (.cells #[.int .i64 t.K, .int .i64 t.N, .string t.S, .string t.Z, .int .i64 t.T.K, .int .i64 t.T.N, .slice a1 l1 c1, .slice a2 l2 c2, .slice (some ⟨g, 0, none⟩) 2 c3] 34 (0, 0)) := by rw [hX, Below.heap_alloc _ _ _ (by simp)]; exact heap_new rfl
  have hX1 : X.heap[w.heap.size + 1]? = some (.cells #[.int .i64 0, .int .i64 0, .string ⟨#[]⟩, .string ⟨#[]⟩, .int .i64 0, .int .i64 0, .slice none 0 0, .slice none 0 0, .slice none 0 0] 34 (0, 0)) := by rw [hX]; exact heap_new (by simp)
  have hXs : X.heap.size = w.heap.size + 2 := by rw [hX]; simp
  have HX : Hid (X = _) := hX
  clear hX
  have HS : Hid (∀ W : World, Below X.heap.size X W → W.cell? ⟨w.heap.size, 8, none⟩ = some (.slice (some ⟨g, 0, none⟩) 2 c3) ∧ W.cell? ⟨g, 0, none⟩ = some (.int .i64 u0.K) ∧ W.cell? ⟨g, 1, none⟩ = some (.int .i64 u0.N) ∧ W.cell? ⟨g, 2, none⟩ = some (.string u0.S) ∧ W.cell? ⟨g, 3, none⟩ = some (.string u0.Z) ∧ W.cell? ⟨g, 4, none⟩ = some (.int .i64 u0.T.K) ∧ W.cell? ⟨g, 5, none⟩ = some (.int .i64 u0.T.N) ∧ W.cell? ⟨g, 6, none⟩ = some (.slice x0a m0a e0a) ∧ W.cell? ⟨g, 7, none⟩ = some (.slice x0b m0b e0b) ∧ W.cell? ⟨g, 8, none⟩ = some (.slice x0c m0c e0c) ∧ W.cell? ⟨g, 9, none⟩ = some (.int .i64 u1.K) ∧ W.cell? ⟨g, 9 + 1, none⟩ = some (.int .i64 u1.N) ∧ W.cell? ⟨g, 9 + 2, none⟩ = some (.string u1.S) ∧ W.cell? ⟨g, 9 + 3, none⟩ = some (.string u1.Z) ∧ W.cell? ⟨g, 9 + 4, none⟩ = some (.int .i64 u1.T.K) ∧ W.cell? ⟨g, 9 + 5, none⟩ = some (.int .i64 u1.T.N) ∧ W.cell? ⟨g, 9 + 6, none⟩ = some (.slice x1a m1a e1a) ∧ W.cell? ⟨g, 9 + 7, none⟩ = some (.slice x1b m1b e1b) ∧ W.cell? ⟨g, 9 + 8, none⟩ = some (.slice x1c m1c e1c)) := by
    intro W hW
    have y0 := (hW.block w.heap.size (by omega)).trans hX0
    have hbW : Below w.heap.size w W := hXb.trans (hW.mono hXb.size)
    obtain ⟨q0_0, q0_1, q0_2, q0_3, q0_4, q0_5, q0_6, q0_7, q0_8⟩ := h90.below hbW (by omega)
    obtain ⟨q1_0, q1_1, q1_2, q1_3, q1_4, q1_5, q1_6, q1_7, q1_8⟩ := h91.below hbW (by omega)
    exact ⟨row_cell y0 8, q0_0, q0_1, q0_2, q0_3, q0_4, q0_5, q0_6, q0_7, q0_8, q1_0, q1_1, q1_2, q1_3, q1_4, q1_5, q1_6, q1_7, q1_8⟩
  go_enter Tryz.func53, Tryz.ntmps53
  go_wp2_with fail
  rw [← HX.out]
  go_region_held3 (fun w' => w'.cell? ⟨w.heap.size, 8, none⟩ = some (.slice (some ⟨g, 0, none⟩) 2 c3) ∧ w'.cell? ⟨g, 0, none⟩ = some (.int .i64 u0.K) ∧ w'.cell? ⟨g, 1, none⟩ = some (.int .i64 u0.N) ∧ w'.cell? ⟨g, 2, none⟩ = some (.string u0.S) ∧ w'.cell? ⟨g, 3, none⟩ = some (.string u0.Z) ∧ w'.cell? ⟨g, 4, none⟩ = some (.int .i64 u0.T.K) ∧ w'.cell? ⟨g, 5, none⟩ = some (.int .i64 u0.T.N) ∧ w'.cell? ⟨g, 6, none⟩ = some (.slice x0a m0a e0a) ∧ w'.cell? ⟨g, 7, none⟩ = some (.slice x0b m0b e0b) ∧ w'.cell? ⟨g, 8, none⟩ = some (.slice x0c m0c e0c) ∧ w'.cell? ⟨g, 9, none⟩ = some (.int .i64 u1.K) ∧ w'.cell? ⟨g, 9 + 1, none⟩ = some (.int .i64 u1.N) ∧ w'.cell? ⟨g, 9 + 2, none⟩ = some (.string u1.S) ∧ w'.cell? ⟨g, 9 + 3, none⟩ = some (.string u1.Z) ∧ w'.cell? ⟨g, 9 + 4, none⟩ = some (.int .i64 u1.T.K) ∧ w'.cell? ⟨g, 9 + 5, none⟩ = some (.int .i64 u1.T.N) ∧ w'.cell? ⟨g, 9 + 6, none⟩ = some (.slice x1a m1a e1a) ∧ w'.cell? ⟨g, 9 + 7, none⟩ = some (.slice x1b m1b e1b) ∧ w'.cell? ⟨g, 9 + 8, none⟩ = some (.slice x1c m1c e1c)) ((refine HS.out _ ?_; repeat (first | with_reducible exact Below.refl _ _ | with_reducible refine bX_drew ?_ | with_reducible refine bX_alloc ?_ | with_reducible refine bX_set ?_ (by first | exact Nat.le_refl _ | omega | simp)))) (fail)
  all_goals
    first
      | (obtain ⟨Y, hY⟩ : ∃ Y, Y = ((X.alloc (.cells #[.int .i64 u0.K, .int .i64 u0.N, .string u0.S, .string u0.Z, .int .i64 u0.T.K, .int .i64 u0.T.N, .slice x0a m0a e0a, .slice x0b m0b e0b, .slice x0c m0c e0c] 34)).alloc (.cells #[.int .i64 u1.K, .int .i64 u1.N, .string u1.S, .string u1.Z, .int .i64 u1.T.K, .int .i64 u1.T.N, .slice x1a m1a e1a, .slice x1b m1b e1b, .slice x1c m1c e1c] 34)).drew := ⟨_, rfl⟩; rw [← hY]; have hYX : Below X.heap.size X Y  := (by subst hY; exact bX_drew (bX_alloc (bX_alloc (Below.refl _ _)))); have z0 : Y.heap[w.heap.size + 2]? = some (.cells #[.int .i64 u0.K, .int .i64 u0.N, .string u0.S, .string u0.Z, .int .i64 u0.T.K, .int .i64 u0.T.N, .slice x0a m0a e0a, .slice x0b m0b e0b, .slice x0c m0c e0c] 34 (0, 0)) := (by subst hY; refine (Below.heap_alloc _ _ _ (by simp [hXs])).trans ?_; exact heap_new (by simp [hXs])); have z1 : Y.heap[w.heap.size + 2 + 1]? = some (.cells #[.int .i64 u1.K, .int .i64 u1.N, .string u1.S, .string u1.Z, .int .i64 u1.T.K, .int .i64 u1.T.N, .slice x1a m1a e1a, .slice x1b m1b e1b, .slice x1c m1c e1c] 34 (0, 0)) := (by subst hY; exact heap_new (by simp [hXs])); clear hY)
      | (obtain ⟨Y, hY⟩ : ∃ Y, Y = ((X.alloc (.cells #[.int .i64 u1.K, .int .i64 u1.N, .string u1.S, .string u1.Z, .int .i64 u1.T.K, .int .i64 u1.T.N, .slice x1a m1a e1a, .slice x1b m1b e1b, .slice x1c m1c e1c] 34)).alloc (.cells #[.int .i64 u0.K, .int .i64 u0.N, .string u0.S, .string u0.Z, .int .i64 u0.T.K, .int .i64 u0.T.N, .slice x0a m0a e0a, .slice x0b m0b e0b, .slice x0c m0c e0c] 34)).drew := ⟨_, rfl⟩; rw [← hY]; have hYX : Below X.heap.size X Y  := (by subst hY; exact bX_drew (bX_alloc (bX_alloc (Below.refl _ _)))); have z1 : Y.heap[w.heap.size + 2]? = some (.cells #[.int .i64 u1.K, .int .i64 u1.N, .string u1.S, .string u1.Z, .int .i64 u1.T.K, .int .i64 u1.T.N, .slice x1a m1a e1a, .slice x1b m1b e1b, .slice x1c m1c e1c] 34 (0, 0)) := (by subst hY; refine (Below.heap_alloc _ _ _ (by simp [hXs])).trans ?_; exact heap_new (by simp [hXs])); have z0 : Y.heap[w.heap.size + 2 + 1]? = some (.cells #[.int .i64 u0.K, .int .i64 u0.N, .string u0.S, .string u0.Z, .int .i64 u0.T.K, .int .i64 u0.T.N, .slice x0a m0a e0a, .slice x0b m0b e0b, .slice x0c m0c e0c] 34 (0, 0)) := (by subst hY; exact heap_new (by simp [hXs])); clear hY)
    have hYw : Below w.heap.size w Y := hXb.trans (hYX.mono hXb.size)
    have y0 := (hYX.block w.heap.size (by omega)).trans hX0
    have y1 := (hYX.block (w.heap.size + 1) (by omega)).trans hX1
    obtain ⟨f0, f1, f2, f3, f4, f5, f6, f7, f8⟩ := Nine.box y0
    obtain ⟨p0, p1, p2, p3, p4, p5, p6, p7, p8⟩ := Nine.box y1
    have pf := row_free y1
    obtain ⟨v0_0, v0_1, v0_2, v0_3, v0_4, v0_5, v0_6, v0_7, v0_8⟩ := Nine.box z0
    obtain ⟨v1_0, v1_1, v1_2, v1_3, v1_4, v1_5, v1_6, v1_7, v1_8⟩ := Nine.box z1
    by_cases hk : u0.K = 1
    · have hkb : (u0.K != 1) = false := by simp [hk]
      have HK : Hid (u0.K = 1) := hk
      have hx := hr0 hk
      clear hk
      by_cases hk1 : u1.K = 1
      · have hkb1 : (u1.K != 1) = false := by simp [hk1]
        have HK1 : Hid (u1.K = 1) := hk1
        have hy := hr1 hk1
        clear hk1
        go_wp2_with fail
        refine (reckon_any t.N u0.N u1.N Y hN hx hy).mono ?_
        rintro e w' ⟨rfl, rfl⟩
        cases hb : rkB t.N u0.N u1.N
        · go_wp2_with fail
          refine bodyPost_ret (v := .agg #[.int .i64 t.K, .int .i64 t.N, .string t.S, .string t.Z, .int .i64 t.T.K, .int .i64 t.T.N, .slice a1 l1 c1, .slice a2 l2 c2, .slice (some ⟨g, 0, none⟩) 2 c3]) (by simp [results, Tryz.results53, go_sem, p0, p1, p2, p3, p4, p5, p6, p7, p8]) rfl ?_
          rw [← HR.out]
          rw [if_neg (fun h => by rw [hb] at h; exact absurd h.2.2 (by decide))]; exact out_of _ _ _ hf hB (by repeat (first | with_reducible exact hYw | with_reducible refine bX_set ?_ (Nat.le_add_right _ _) | with_reducible refine bX_drew ?_ | with_reducible refine bX_alloc ?_))
        · by_cases h4 : 4 ≤ t.N
          · go_wp2_with fail
            refine bodyPost_ret (v := .agg #[.int .i64 2, .int .i64 (rkV t.N u0.N u1.N), .string ⟨#[]⟩, .string ⟨#[]⟩, .int .i64 0, .int .i64 0, .slice none 0 0, .slice none 0 0, .slice none 0 0]) (by simp [results, Tryz.results53, go_sem, p0, p1, p2, p3, p4, p5, p6, p7, p8]) rfl ?_
            rw [← HR.out]
            rw [if_pos ⟨HK.out, HK1.out, hb⟩, if_pos h4]; exact out_num 2 _ (by repeat (first | with_reducible exact hYw | with_reducible refine bX_set ?_ (Nat.le_add_right _ _) | with_reducible refine bX_drew ?_ | with_reducible refine bX_alloc ?_))
          · have h4b : t.N < 4 := by omega
            go_wp2_with fail
            refine bodyPost_ret (v := .agg #[.int .i64 1, .int .i64 (rkV t.N u0.N u1.N), .string ⟨#[]⟩, .string ⟨#[]⟩, .int .i64 0, .int .i64 0, .slice none 0 0, .slice none 0 0, .slice none 0 0]) (by simp [results, Tryz.results53, go_sem, p0, p1, p2, p3, p4, p5, p6, p7, p8]) rfl ?_
            rw [← HR.out]
            rw [if_pos ⟨HK.out, HK1.out, hb⟩, if_neg (by omega)]; exact out_num 1 _ (by repeat (first | with_reducible exact hYw | with_reducible refine bX_set ?_ (Nat.le_add_right _ _) | with_reducible refine bX_drew ?_ | with_reducible refine bX_alloc ?_))
      · have hkb1 : (u1.K != 1) = true := by simp [hk1]
        go_wp2_with fail
        refine bodyPost_ret (v := .agg #[.int .i64 t.K, .int .i64 t.N, .string t.S, .string t.Z, .int .i64 t.T.K, .int .i64 t.T.N, .slice a1 l1 c1, .slice a2 l2 c2, .slice (some ⟨g, 0, none⟩) 2 c3]) (by simp [results, Tryz.results53, go_sem, p0, p1, p2, p3, p4, p5, p6, p7, p8]) rfl ?_
        rw [← HR.out]
        rw [if_neg (fun h => hk1 h.2.1)]; exact out_of _ _ _ hf hB (by repeat (first | with_reducible exact hYw | with_reducible refine bX_set ?_ (Nat.le_add_right _ _) | with_reducible refine bX_drew ?_ | with_reducible refine bX_alloc ?_))
    · have hkb : (u0.K != 1) = true := by simp [hk]
      go_wp2_with fail
      refine bodyPost_ret (v := .agg #[.int .i64 t.K, .int .i64 t.N, .string t.S, .string t.Z, .int .i64 t.T.K, .int .i64 t.T.N, .slice a1 l1 c1, .slice a2 l2 c2, .slice (some ⟨g, 0, none⟩) 2 c3]) (by simp [results, Tryz.results53, go_sem, p0, p1, p2, p3, p4, p5, p6, p7, p8]) rfl ?_
      rw [← HR.out]
      rw [if_neg (fun h => hk h.1)]; exact out_of _ _ _ hf hB (by repeat (first | with_reducible exact hYw | with_reducible refine bX_set ?_ (Nat.le_add_right _ _) | with_reducible refine bX_drew ?_ | with_reducible refine bX_alloc ?_))

end Go.Proofs.YtibbdhmbgnjmoaaGreat

/-
  What the program's foldings come to: what is tried. (Written by mkfd1.py.)
-/
namespace Go.Proofs.YtibbdhmbgnjmoaaGreat
open Go.RowKit
set_option linter.unusedVariables false
set_option linter.unusedSimpArgs false

set_option maxRecDepth 100000 in
set_option maxHeartbeats 8000000 in
theorem foldedTry_any (P : Nat → Prop) (D d L B : Nat) (t : Tm) (a1 : Option Addr) (l1 c1 : Nat) (a2 : Option Addr) (l2 c2 : Nat) (a3 : Option Addr) (l3 c3 : Nat) (w : World) (hB : B ≤ w.heap.size) (hf : FmP P L B w D d t a1 l1 a2 l2 a3 l3) (hl : t.A.length = 2) (hc : cntM t ≤ 1048576) :
    Calls Tryz.prog 59 #[.agg #[.int .i64 t.K, .int .i64 t.N, .string t.S, .string t.Z, .int .i64 t.T.K, .int .i64 t.T.N, .slice a1 l1 c1, .slice a2 l2 c2, .slice a3 l3 c3]] w (OutM P L B w D d (fdTry t)) := by
  obtain rfl : l3 = 2 := by have := hf.fmo.fm.m.len.1; omega
  obtain ⟨g, rfl, hgL, hgB, x0a, m0a, e0a, x0b, m0b, e0b, x0c, m0c, e0c, h90, hf0⟩ := fmo_part hf 0 (by omega)
  have hp0 : pa t 0 = t.A[0] := pa_eq (by omega)
  obtain ⟨R, hR⟩ : ∃ R, fdTry t = R := ⟨_, rfl⟩
  rw [hR]
  unfold fdTry at hR
  rw [hp0] at hR
  have hc0 : cntM t.A[0] < cntM t := cntM_part (by omega)
  have HR : Hid (_ = R) := hR
  clear hR hp0
  generalize t.A[0] = u0 at *
  obtain ⟨X, hX⟩ : ∃ X, X = (w.alloc (.cells #[.int .i64 t.K, .int .i64 t.N, .string t.S, .string t.Z, .int .i64 t.T.K, .int .i64 t.T.N, .slice a1 l1 c1, .slice a2 l2 c2, .slice (some ⟨g, 0, none⟩) 2 c3] 34)).alloc (.cells #[.int .i64 0, .int .i64 0, .string ⟨#[]⟩, .string ⟨#[]⟩, .int .i64 0, .int .i64 0, .slice none 0 0, .slice none 0 0, .slice none 0 0] 34) := ⟨_, rfl⟩
  have hXb : Below w.heap.size w X := by rw [hX]; exact ((Below.refl _ _).alloc (Nat.le_refl _) _).alloc (by simp) _
  have hX0 : X.heap[w.heap.size]? = some (.cells #[.int .i64 t.K, .int .i64 t.N, .string t.S, .string t.Z, .int .i64 t.T.K, .int .i64 t.T.N, .slice a1 l1 c1, .slice a2 l2 c2, .slice (some ⟨g, 0, none⟩) 2 c3] 34 (0, 0)) := by rw [hX, Below.heap_alloc _ _ _ (by simp)]; exact heap_new rfl
  have hX1 : X.heap[w.heap.size + 1]? = some (.cells #[.int .i64 0, .int .i64 0, .string ⟨#[]⟩, .string ⟨#[]⟩, .int .i64 0, .int .i64 0, .slice none 0 0, .slice none 0 0, .slice none 0 0] 34 (0, 0)) := by rw [hX]; exact heap_new (by simp)
  have hXs : X.heap.size = w.heap.size + 2 := by rw [hX]; simp
  have HX : Hid (X = _) := hX
  clear hX
  obtain ⟨Y, hY⟩ : ∃ Y, Y = X.alloc (.cells #[.int .i64 u0.K, .int .i64 u0.N, .string u0.S, .string u0.Z, .int .i64 u0.T.K, .int .i64 u0.T.N, .slice x0a m0a e0a, .slice x0b m0b e0b, .slice x0c m0c e0c] 34) := ⟨_, rfl⟩
  have hYX : Below X.heap.size X Y := by rw [hY]; exact bX_alloc (Below.refl _ _)
  have hYw0 : Below w.heap.size w Y := hXb.trans (hYX.mono hXb.size)
  have yy0 := (hYX.block w.heap.size (by omega)).trans hX0
  have yy1 := (hYX.block (w.heap.size + 1) (by omega)).trans hX1
  have zz0 : Y.heap[w.heap.size + 1 + 1]? = some (.cells #[.int .i64 u0.K, .int .i64 u0.N, .string u0.S, .string u0.Z, .int .i64 u0.T.K, .int .i64 u0.T.N, .slice x0a m0a e0a, .slice x0b m0b e0b, .slice x0c m0c e0c] 34 (0, 0)) := by rw [hY]; exact heap_new (by rw [hXs])
  have hYs : Y.heap.size = w.heap.size + 3 := by rw [hY]; simp [hXs]
  have HY : Hid (Y = _) := hY
  clear hY
  have E := h90.below hXb (by omega)
  rw [HX.out, Nat.zero_mul] at E
  obtain ⟨q0, q1, q2, q3, q4, q5, q6, q7, q8⟩ := E
  go_enter Tryz.func59, Tryz.ntmps59
  go_wp2_with fail
  rw [← HX.out, ← HY.out]
  refine (pure_any D d L B u0 _ _ _ _ _ _ _ _ _ Y (by omega) (hf0.fmo.keep (fun k _ hk => hYw0.block k (by omega)) (Nat.le_refl _) (Nat.le_refl _)) (by omega)).mono ?_
  rintro e w1 ⟨rfl, hb1⟩
  clear q0 q1 q2 q3 q4 q5 q6 q7 q8
  have hYw : Below w.heap.size w w1 := hYw0.trans (hb1.mono (by omega))
  have y0 := (hb1.block w.heap.size (by omega)).trans yy0
  have y1 := (hb1.block (w.heap.size + 1) (by omega)).trans yy1
  have z0 := (hb1.block (w.heap.size + 1 + 1) (by omega)).trans zz0
  obtain ⟨f0, f1, f2, f3, f4, f5, f6, f7, f8⟩ := Nine.box y0
  obtain ⟨p0, p1, p2, p3, p4, p5, p6, p7, p8⟩ := Nine.box y1
  have pf := row_free y1
  obtain ⟨v0, v1, v2, v3, v4, v5, v6, v7, v8⟩ := Nine.box z0
  cases hp : pureM u0
  · go_wp2_with fail
    refine bodyPost_ret (v := .agg #[.int .i64 t.K, .int .i64 t.N, .string t.S, .string t.Z, .int .i64 t.T.K, .int .i64 t.T.N, .slice a1 l1 c1, .slice a2 l2 c2, .slice (some ⟨g, 0, none⟩) 2 c3]) (by simp [results, Tryz.results59, go_sem, p0, p1, p2, p3, p4, p5, p6, p7, p8]) rfl ?_
    rw [← HR.out]
    rw [hp, if_neg (by decide)]; exact out_of _ _ _ hf hB (by repeat (first | with_reducible exact hYw | with_reducible refine bX_set ?_ (Nat.le_add_right _ _) | with_reducible refine bX_drew ?_ | with_reducible refine bX_alloc ?_))
  · go_wp2_with fail
    refine bodyPost_ret (v := .agg #[.int .i64 u0.K, .int .i64 u0.N, .string u0.S, .string u0.Z, .int .i64 u0.T.K, .int .i64 u0.T.N, .slice x0a m0a e0a, .slice x0b m0b e0b, .slice x0c m0c e0c]) (by simp [results, Tryz.results59, go_sem, p0, p1, p2, p3, p4, p5, p6, p7, p8]) rfl ?_
    rw [← HR.out]
    rw [hp, if_pos rfl]; exact out_of _ _ _ hf0 hB (by repeat (first | with_reducible exact hYw | with_reducible refine bX_set ?_ (Nat.le_add_right _ _) | with_reducible refine bX_drew ?_ | with_reducible refine bX_alloc ?_))

end Go.Proofs.YtibbdhmbgnjmoaaGreat

/-
  What 'sameTyNode' comes to, and the two plain ways to hold one type against another: the model's 'SameTy' and the program's 'sameRightTy'.
-/
namespace Go.Proofs.YtibbdhmbgnjmoaaGreat
open Go.RowKit
set_option linter.unusedVariables false
set_option linter.unusedSimpArgs false

/-- Two nodes are alike, but for their parts. -/
def likeN (x y : Tr) : Bool := (x.K == y.K) && (x.N == y.N) && ((x.A.length : Int) == (y.A.length : Int))

set_option maxHeartbeats 1000000 in
theorem sameTyNode_any (k n k' n' : Int) (ao : Option Addr) (len cap : Nat) (ao' : Option Addr) (len' cap' : Nat) (w : World) (hl : len ≤ 9223372036854775807) (hl' : len' ≤ 9223372036854775807) :
    Calls Tryz.prog 95 #[.agg #[.int .i64 k, .int .i64 n, .slice ao len cap], .agg #[.int .i64 k', .int .i64 n', .slice ao' len' cap']] w fun e w' => e = .returned (.bool ((k == k') && (n == n') && ((len : Int) == (len' : Int)))) ∧ Below w.heap.size w w' := by
  have hbel : Below w.heap.size w ((w.alloc (.cells #[.int .i64 k, .int .i64 n, .slice ao len cap] 31)).alloc (.cells #[.int .i64 k', .int .i64 n', .slice ao' len' cap'] 31)) := ((Below.refl _ _).alloc (Nat.le_refl _) _).alloc (by simp) _
  cases h1 : (k == k')
  all_goals cases h2 : (n == n')
  all_goals cases h3 : ((len : Int) == (len' : Int))
  all_goals
    go_enter Tryz.func95, Tryz.ntmps95
    go_wp2_with fail
    go_ret
    exact ⟨rfl, hbel⟩

def likeB (l l' : List Tr) (j : Nat) : Prop := l.take j = l'.take j
theorem like_all {l l' : List Tr} {j : Nat} (h : likeB l l' j) (h1 : l.length ≤ j) (h2 : l'.length ≤ j) : l = l' := by
  unfold likeB at h; rwa [List.take_of_length_le h1, List.take_of_length_le h2] at h
theorem like_next {l l' : List Tr} {j : Nat} (h : likeB l l' j) (h1 : j < l.length) (h2 : j < l'.length) (he : l[j] = l'[j]) : likeB l l' (j + 1) := by
  unfold likeB at *
  rw [List.take_succ_eq_append_getElem h1, List.take_succ_eq_append_getElem h2, h, he]
theorem unlike_at {l l' : List Tr} {j : Nat} (h1 : j < l.length) (h2 : j < l'.length) (he : ¬ l[j] = l'[j]) : ¬ l = l' := by
  intro h; subst h; exact he rfl
theorem tr_ext {x y : Tr} (h1 : x.K = y.K) (h2 : x.N = y.N) (h3 : x.A = y.A) : x = y := by cases x; cases y; simp_all

end Go.Proofs.YtibbdhmbgnjmoaaGreat

/-
  The binders of a term, and all terms within it, in plain words; what a call leaves that changes no block but a few of its own.
-/
namespace Go.Proofs.YtibbdhmbgnjmoaaGreat
open Go.RowKit
set_option linter.unusedVariables false
set_option linter.unusedSimpArgs false

/-- All terms within a term, itself first, from the front. -/
def allW : Tm → List Tm
  | ⟨k, n, s, z, t, ts, a⟩ => ⟨k, n, s, z, t, ts, a⟩ :: (a.attach.map fun ⟨x, _⟩ => allW x).flatten
theorem allW_eq (t : Tm) : allW t = t :: (t.A.map allW).flatten := by
  cases t; rw [allW]; simp

theorem allW_lenG {f : Tm → Option Nat} (hf : ∀ t m, f t = some m → (allW t).length = m) : ∀ (ts : List Tm) (m : Nat), nodesG f ts = some m → ((ts.map allW).flatten).length = m := by
  intro ts
  induction ts with
  | nil => intro m h; simp [nodesG] at h; simp [h]
  | cons t ts ih =>
    intro m h
    simp only [nodesG] at h
    cases ht : f t with
    | none => simp [ht] at h
    | some a =>
      cases hz : nodesG f ts with
      | none => simp [ht, hz] at h
      | some b =>
        simp [ht, hz] at h
        have h1 := hf t a ht
        have h2 := ih b hz
        simp only [List.map_cons, List.flatten_cons, List.length_append]
        omega

theorem allW_len : ∀ (l : Nat) (t : Tm) (m : Nat), nodesM l t = some m → (allW t).length = m := by
  intro l
  induction l with
  | zero => intro t m h; simp [nodesM] at h
  | succ l ih =>
    intro t m h
    have hn := (nodesM_inv h).1
    simp only [nodesM, hn, if_true] at h
    cases hz : nodesG (nodesM l) t.A with
    | none => simp [hz] at h
    | some b =>
      simp [hz] at h
      have h1 := allW_lenG ih t.A b hz
      rw [allW_eq, List.length_cons, h1]
      omega

/-- Those of the parts ahead of the j-th. -/
def preW (t : Tm) (j : Nat) : List Tm := ((t.A.take j).map allW).flatten
theorem preW_zero (t : Tm) : preW t 0 = [] := rfl
theorem preW_succ (t : Tm) (j : Nat) (hj : j < t.A.length) : preW t (j + 1) = preW t j ++ allW t.A[j] := by
  unfold preW
  rw [List.take_succ_eq_append_getElem hj, List.map_append, List.flatten_append]
  simp only [List.map_cons, List.map_nil, List.flatten_cons, List.flatten_nil, List.append_nil]
theorem preW_all (t : Tm) (j : Nat) (hj : t.A.length ≤ j) : allW t = t :: preW t j := by
  unfold preW
  rw [List.take_of_length_le hj, allW_eq]
theorem preW_len {l : Nat} {t : Tm} {m : Nat} (h : nodesM (l + 1) t = some m) (j : Nat) (hj : j < t.A.length) {a : Nat} (ha : nodesM l t.A[j] = some a) : (preW t j).length + 1 + a ≤ m := by
  have h1 := allW_len _ t m h
  have h2 := allW_len _ _ a ha
  have h3 := preW_all t t.A.length (Nat.le_refl _)
  have h4 := congrArg List.length h3
  have h5 : (preW t (j + 1)).length ≤ (preW t t.A.length).length := by
    unfold preW
    have e : t.A.take t.A.length = t.A.take (j + 1) ++ (t.A.drop (j + 1)) := by rw [List.take_length, List.take_append_drop]
    rw [e, List.map_append, List.flatten_append, List.length_append]
    omega
  have h6 := congrArg List.length (preW_succ t j hj)
  rw [List.length_append] at h6
  rw [List.length_cons] at h4
  omega

/-- From w to w' no block has changed but those of F; those of F' are of F, or new. -/
structure Kf (F : Nat → Prop) (w : World) (F' : Nat → Prop) (w' : World) : Prop where
  os : w'.os = w.os
  tape : w'.tape = w.tape
  output : w'.output = w.output
  size : w.heap.size ≤ w'.heap.size
  block : ∀ k, k < w.heap.size → ¬ F k → w'.heap[k]? = w.heap[k]?
  own : ∀ k, F' k → F k ∨ w.heap.size ≤ k

theorem Kf.trans {F F' F'' : Nat → Prop} {w w' w'' : World} (h : Kf F w F' w') (k : Kf F' w' F'' w'') : Kf F w F'' w'' := by
  refine ⟨k.os.trans h.os, k.tape.trans h.tape, k.output.trans h.output, Nat.le_trans h.size k.size, fun i hi h1 => ?_, fun i hi => ?_⟩
  · exact (k.block i (Nat.lt_of_lt_of_le hi h.size) (fun e => by rcases h.own i e with e | e; exact h1 e; omega)).trans (h.block i hi h1)
  · rcases k.own i hi with e | e
    · exact h.own i e
    · exact Or.inr (Nat.le_trans h.size e)
theorem Kf.of_below {F : Nat → Prop} {w w' : World} (h : Below w.heap.size w w') : Kf F w F w' :=
  ⟨h.os, h.tape, h.output, h.size, fun k hk _ => h.block k hk, fun k hk => Or.inl hk⟩
theorem Kf.below {base : Nat} {F F' : Nat → Prop} {w w' : World} (h : Kf F w F' w') (hF : ∀ k, F k → base ≤ k) (hb : base ≤ w.heap.size) : Below base w w' :=
  ⟨h.os, h.tape, h.output, h.size, fun k hk => h.block k (by omega) (fun e => by have := hF k e; omega)⟩

theorem cell_1 {w : World} {b : Nat} {a0 : Value} {t : TypeId} {fr : Nat × Nat} (h : w.heap[b]? = some (.cells #[a0] t fr)) : w.cell? ⟨b, 0, none⟩ = some a0 := row_cell h 0

end Go.Proofs.YtibbdhmbgnjmoaaGreat
