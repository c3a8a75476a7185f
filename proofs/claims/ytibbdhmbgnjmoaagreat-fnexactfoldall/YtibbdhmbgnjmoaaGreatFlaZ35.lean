/-
  What the model's 'l14Op' comes to.
-/
import Derived.Test.YtibbdhmbgnjmoaaGreatFlaZ34
import Derived.Test.YtibbdhmbgnjmoaaGreatFlaZ12
import Derived.Test.YtibbdhmbgnjmoaaGreatFlaZ7
import Derived.Test.YtibbdhmbgnjmoaaGreatFlaZ26
import Derived.Test.YtibbdhmbgnjmoaaGreatFlaZ11
namespace Go.Proofs.YtibbdhmbgnjmoaaGreat
open Go.RowKit
set_option linter.unusedVariables false
set_option linter.unusedSimpArgs false

/-- Nothing has changed since but what lies at rp. -/
def SameW (Y : World) (rp : Nat) (W : World) : Prop := Y.heap.size ≤ W.heap.size ∧ ∀ i, i < Y.heap.size → i ≠ rp → W.heap[i]? = Y.heap[i]?
theorem same_refl (Y : World) (rp : Nat) : SameW Y rp Y := ⟨Nat.le_refl _, fun _ _ _ => rfl⟩
theorem same_drew {Y W : World} {rp : Nat} (h : SameW Y rp W) : SameW Y rp W.drew := h
theorem same_alloc {Y W : World} {rp : Nat} {o : Obj} (h : SameW Y rp W) : SameW Y rp (W.alloc o) := ⟨by simp; exact Nat.le_succ_of_le h.1, fun i hi hne => (Below.heap_alloc _ _ _ (Nat.lt_of_lt_of_le hi h.1)).trans (h.2 i hi hne)⟩
theorem same_set {Y W : World} {rp q j : Nat} {v : Value} (h : SameW Y rp W) (hq : Y.heap.size ≤ q) : SameW Y rp (W.setCell ⟨q, j, none⟩ v) := ⟨by simpa using h.1, fun i hi hne => (row_other _ _ _ (by omega)).trans (h.2 i hi hne)⟩
theorem same_kf {Y W W' : World} {rp : Nat} (h : SameW Y rp W) (hk : Kf (fun k => k = rp) W (fun k => k = rp) W') : SameW Y rp W' := ⟨Nat.le_trans h.1 hk.size, fun i hi hne => (hk.block i (Nat.lt_of_lt_of_le hi h.1) hne).trans (h.2 i hi hne)⟩

set_option maxRecDepth 100000 in
set_option maxHeartbeats 8000000 in
theorem l14Op_any (P : Nat → Prop) (D d L B : Nat) (t : Tm) (a1 : Option Addr) (l1 c1 : Nat) (a2 : Option Addr) (l2 c2 : Nat) (a3 : Option Addr) (l3 c3 : Nat) (w : World) (hB : B ≤ w.heap.size) (hf : FmP P L B w D d t a1 l1 a2 l2 a3 l3) (hl : t.A.length = 2) (hN : 1 ≤ t.N ∧ t.N ≤ 5) (hr0 : (pa t 0).K = 1 → -1000000 ≤ (pa t 0).N ∧ (pa t 0).N ≤ 1000000) (hr1 : (pa t 1).K = 1 → -1000000 ≤ (pa t 1).N ∧ (pa t 1).N ≤ 1000000) :
    Calls Tryz.prog 44 #[.agg #[.int .i64 t.K, .int .i64 t.N, .string t.S, .string t.Z, .int .i64 t.T.K, .int .i64 t.T.N, .slice a1 l1 c1, .slice a2 l2 c2, .slice a3 l3 c3]] w (OutM P L B w D d (fdOp t)) := by
  obtain rfl : l3 = 2 := by have := hf.fmo.fm.m.len.1; omega
  obtain ⟨g, rfl, hgL, hgB, x0a, m0a, e0a, x0b, m0b, e0b, x0c, m0c, e0c, h90, hf0⟩ := fmo_part hf 0 (by omega)
  obtain ⟨g1, hg1, _, _, x1a, m1a, e1a, x1b, m1b, e1b, x1c, m1c, e1c, h91, hf1⟩ := fmo_part hf 1 (by omega)
  cases hg1
  have hp0 : pa t 0 = t.A[0] := pa_eq (by omega)
  have hp1 : pa t 1 = t.A[1] := pa_eq (by omega)
  obtain ⟨R, hR⟩ : ∃ R, fdOp t = R := ⟨_, rfl⟩
  rw [hR]
  unfold fdOp at hR
  rw [hp0, hp1] at hR
  rw [hp0] at hr0
  rw [hp1] at hr1
  have HR : Hid (_ = R) := hR
  clear hR hp0 hp1
  generalize t.A[0] = u0 at *
  generalize t.A[1] = u1 at *
  obtain ⟨X, hX⟩ : ∃ X, X = (w.alloc (.cells #[.int .i64 t.K, .int .i64 t.N, .string t.S, .string t.Z, .int .i64 t.T.K, .int .i64 t.T.N, .slice a1 l1 c1, .slice a2 l2 c2, .slice (some ⟨g, 0, none⟩) 2 c3] 34)).alloc (.cells #[.int .i64 0, .int .i64 0, .string ⟨#[]⟩, .string ⟨#[]⟩, .int .i64 0, .int .i64 0, .slice none 0 0, .slice none 0 0, .slice none 0 0] 34) := ⟨_, rfl⟩
  have hXb : Below w.heap.size w X := by rw [hX]; exact bX_alloc (bX_alloc (Below.refl _ _))
  have E0 := h90.below hXb (by omega)
  rw [hX, Nat.zero_mul] at E0
  obtain ⟨q0, q1, q2, q3, q4, q5, q6, q7, q8⟩ := E0
  have E1 := h91.below hXb (by omega)
  rw [hX, Nat.one_mul] at E1
  obtain ⟨s0, s1, s2, s3, s4, s5, s6, s7, s8⟩ := E1
  by_cases hk : u0.K = 1
  · by_cases hk1 : u1.K = 1
    · have hkb : (u0.K != 1) = false := by simp [hk]
      have hkb1 : (u1.K != 1) = false := by simp [hk1]
      have hx := hr0 hk
      have hy := hr1 hk1
      have HK : Hid (u0.K = 1 ∧ u1.K = 1) := ⟨hk, hk1⟩
      obtain ⟨Y, hY⟩ : ∃ Y, Y = X.alloc (.cells #[.int .i64 0, .int .i64 0, .int .i64 0, .int .i64 0] 86) := ⟨_, rfl⟩
      have hXs : X.heap.size = w.heap.size + 2 := by rw [hX]; simp
      have hX0 : X.heap[w.heap.size]? = some (.cells #[.int .i64 t.K, .int .i64 t.N, .string t.S, .string t.Z, .int .i64 t.T.K, .int .i64 t.T.N, .slice a1 l1 c1, .slice a2 l2 c2, .slice (some ⟨g, 0, none⟩) 2 c3] 34 (0, 0)) := by rw [hX, Below.heap_alloc _ _ _ (by simp)]; exact heap_new rfl
      have hX1 : X.heap[w.heap.size + 1]? = some (.cells #[.int .i64 0, .int .i64 0, .string ⟨#[]⟩, .string ⟨#[]⟩, .int .i64 0, .int .i64 0, .slice none 0 0, .slice none 0 0, .slice none 0 0] 34 (0, 0)) := by rw [hX]; exact heap_new (by simp)
      have hYb : Below X.heap.size X Y := by rw [hY]; exact bX_alloc (Below.refl _ _)
      have hYw : Below w.heap.size w Y := hXb.trans (hYb.mono hXb.size)
      have hYs : Y.heap.size = w.heap.size + 3 := by rw [hY]; simp [hXs]
      have yr : Y.heap[w.heap.size + 1 + 1]? = some (.cells #[.int .i64 0, .int .i64 0, .int .i64 0, .int .i64 0] 86 (0, 0)) := by rw [hY]; exact heap_new (by rw [hXs])
      have y0 := (hYb.block w.heap.size (by omega)).trans hX0
      have y1 := (hYb.block (w.heap.size + 1) (by omega)).trans hX1
      have HY : Hid (Y = _) := hY
      have HX : Hid (X = _) := hX
      have HS : Hid (∀ W : World, SameW Y (w.heap.size + 1 + 1) W → W.cell? ⟨w.heap.size, 1, none⟩ = some (.int .i64 t.N) ∧ W.cell? ⟨w.heap.size, 8, none⟩ = some (.slice (some ⟨g, 0, none⟩) 2 c3) ∧ W.cell? ⟨g, 1, none⟩ = some (.int .i64 u0.N) ∧ W.cell? ⟨g, 9 + 1, none⟩ = some (.int .i64 u1.N)) := by
        intro W hW
        have z0 := (hW.2 w.heap.size (by omega) (by omega)).trans y0
        have zg : W.heap[g]? = w.heap[g]? := (hW.2 g (by omega) (by omega)).trans (hYw.block g (by omega))
        have n0 := h90.world zg
        have n1 := h91.world zg
        rw [Nat.zero_mul] at n0
        rw [Nat.one_mul] at n1
        exact ⟨row_cell z0 1, row_cell z0 8, n0.c1, n1.c1⟩
      clear hX hY hk hk1 q2 q3 q4 q5 q6 q7 q8 s2 s3 s4 s5 s6 s7 s8
      go_enter Tryz.func44, Tryz.ntmps44
      go_wp2_with fail
      rw [← HX.out, ← HY.out]
      go_region_held3 (fun w' => w'.cell? ⟨w.heap.size, 1, none⟩ = some (.int .i64 t.N) ∧ w'.cell? ⟨w.heap.size, 8, none⟩ = some (.slice (some ⟨g, 0, none⟩) 2 c3) ∧ w'.cell? ⟨g, 1, none⟩ = some (.int .i64 u0.N) ∧ w'.cell? ⟨g, 9 + 1, none⟩ = some (.int .i64 u1.N)) ((refine HS.out _ ?_; repeat (first | with_reducible exact hw5 | with_reducible exact same_refl _ _ | with_reducible refine same_drew ?_ | with_reducible refine same_alloc ?_ | with_reducible refine same_set ?_ (Nat.le_of_eq hYs)))) ((go_at_call 68; refine (l4Op_any t.N u0.N u1.N (w.heap.size + 1 + 1) _ hN hx hy ?_).mono ?_; (first | exact yr | exact (Below.heap_alloc _ _ _ (by omega)).trans yr); rintro e w5 ⟨k', v', u', rfl, hRn, hkv⟩; have hw5 : SameW Y (w.heap.size + 1 + 1) w5 := (by first | exact same_kf (same_drew (same_refl _ _)) hRn.kf | exact same_kf (same_drew (same_alloc (same_refl _ _))) hRn.kf); try (have zq : w5.heap[w.heap.size + 3]? = some (.cells (c4 0 0) 90 (0, 0)) := (hRn.kf.block (w.heap.size + 3) (by simp [hYs]) (by omega)).trans (heap_new hYs.symm); have zq0 := row_cell zq 0; have zq1 := row_cell zq 1; have zq2 := row_cell zq 2; have zq3 := row_cell zq 3; have zq4 := row_cell zq 4; have zq5 := row_cell zq 5; have zq6 := row_cell zq 6; have zq7 := row_cell zq 7; have zq8 := row_cell zq 8; have zq9 := row_cell zq 9; have zq10 := row_cell zq 10; have zq11 := row_cell zq 11; have zq12 := row_cell zq 12; have zqf := row_free zq)))
      · have hbw5 : Below w.heap.size w w5 := ⟨hRn.kf.os.trans hYw.os, hRn.kf.tape.trans hYw.tape, hRn.kf.output.trans hYw.output, Nat.le_trans hYw.size hw5.1, fun i hi => (hw5.2 i (by omega) (by omega)).trans (hYw.block i hi)⟩
        have hz5 := hw5.1
        obtain ⟨Z, hZ⟩ : ∃ Z, Z = w5.alloc (.cells (c4 k' v') 90) := ⟨_, rfl⟩
        have hsZ : SameW Y (w.heap.size + 1 + 1) Z := by rw [hZ]; exact same_alloc hw5
        have hbZ0 : Below w.heap.size w Z := by rw [hZ]; exact bX_alloc hbw5
        have zr := (Below.heap_alloc w5 (.cells (c4 k' v') 90) (w.heap.size + 1 + 1) (by omega)).trans hRn.is
        have zq := heap_alloc_new w5 (.cells (c4 k' v') 90)
        rw [← hZ] at zr zq
        have zk0 := row_cell zq 0
        have zk1 := row_cell zq 1
        unfold c4 at hZ
        rw [← hZ]
        clear hZ
        have hbZ : Below w.heap.size w Z := hbZ0
        have HKV : Hid (_ → _) := hkv
        clear hkv
        have z0 := (hsZ.2 w.heap.size (by omega) (by omega)).trans y0
        have z1 := (hsZ.2 (w.heap.size + 1) (by omega) (by omega)).trans y1
        have hzr2 := row_cell zr 2
        obtain ⟨f0, f1, f2, f3, f4, f5, f6, f7, f8⟩ := Nine.box z0
        obtain ⟨p0, p1, p2, p3, p4, p5, p6, p7, p8⟩ := Nine.box z1
        have pf := row_free z1
        clear q0 q1 s0 s1 hRn hw5
        cases hb : rkB t.N u0.N u1.N
        · rw [hb] at hzr2
          have hzr3 : Z.cell? ⟨w.heap.size + 1 + 1, 2, none⟩ = some (.int .i64 2) := hzr2
          clear hzr2
          go_wp2_with fail
          refine bodyPost_ret (v := .agg #[.int .i64 t.K, .int .i64 t.N, .string t.S, .string t.Z, .int .i64 t.T.K, .int .i64 t.T.N, .slice a1 l1 c1, .slice a2 l2 c2, .slice (some ⟨g, 0, none⟩) 2 c3]) (by simp [results, Tryz.results44, go_sem, p0, p1, p2, p3, p4, p5, p6, p7, p8]) rfl ?_
          rw [← HR.out, if_neg (fun h => by rw [hb] at h; exact absurd h.2.2 (by decide))]
          exact out_of _ _ _ hf hB (by repeat (first | with_reducible exact hbZ | with_reducible refine bX_set ?_ (Nat.le_add_right _ _)))
        · rw [hb] at hzr2
          have hzr3 : Z.cell? ⟨w.heap.size + 1 + 1, 2, none⟩ = some (.int .i64 0) := hzr2
          clear hzr2
          go_wp2_with fail
          refine bodyPost_ret (v := .agg #[.int .i64 k', .int .i64 v', .string ⟨#[]⟩, .string ⟨#[]⟩, .int .i64 0, .int .i64 0, .slice none 0 0, .slice none 0 0, .slice none 0 0]) (by simp [results, Tryz.results44, go_sem, p0, p1, p2, p3, p4, p5, p6, p7, p8]) rfl ?_
          obtain ⟨rfl, rfl⟩ := HKV.out hb
          rw [← HR.out, if_pos ⟨HK.out.1, HK.out.2, hb⟩]
          exact out_num _ _ (by repeat (first | with_reducible exact hbZ | with_reducible refine bX_set ?_ (Nat.le_add_right _ _)))
      · have hbw5 : Below w.heap.size w w5 := ⟨hRn.kf.os.trans hYw.os, hRn.kf.tape.trans hYw.tape, hRn.kf.output.trans hYw.output, Nat.le_trans hYw.size hw5.1, fun i hi => (hw5.2 i (by omega) (by omega)).trans (hYw.block i hi)⟩
        have hz5 := hw5.1
        obtain ⟨Z, hZ⟩ : ∃ Z, Z = (((((((((((((w5.setCell ⟨w.heap.size + 3, 0, none⟩ (.int .i64 k')).setCell ⟨w.heap.size + 3, 1, none⟩ (.int .i64 v')).setCell ⟨w.heap.size + 3, 2, none⟩ (.slice none 0 0)).setCell ⟨w.heap.size + 3, 3, none⟩ (.int .i64 0)).setCell ⟨w.heap.size + 3, 4, none⟩ (.int .i64 0)).setCell ⟨w.heap.size + 3, 5, none⟩ (.string ⟨#[]⟩)).setCell ⟨w.heap.size + 3, 6, none⟩ (.string ⟨#[]⟩)).setCell ⟨w.heap.size + 3, 7, none⟩ (.int .i64 0)).setCell ⟨w.heap.size + 3, 8, none⟩ (.int .i64 0)).setCell ⟨w.heap.size + 3, 9, none⟩ (.slice none 0 0)).setCell ⟨w.heap.size + 3, 10, none⟩ (.slice none 0 0)).setCell ⟨w.heap.size + 3, 11, none⟩ (.slice none 0 0)).setCell ⟨w.heap.size + 3, 12, none⟩ (.slice none 0 0)) := ⟨_, rfl⟩
        have hsZ : SameW Y (w.heap.size + 1 + 1) Z := by rw [hZ]; repeat (first | with_reducible exact hw5 | with_reducible refine same_set ?_ (Nat.le_of_eq hYs))
        have hbZ0 : Below w.heap.size w Z := by rw [hZ]; repeat (first | with_reducible exact hbw5 | with_reducible refine bX_set ?_ (Nat.le_add_right _ _))
        have zr : Z.heap[w.heap.size + 1 + 1]? = some (.cells #[.int .i64 0, .int .i64 0, .int .i64 (if rkB t.N u0.N u1.N = true then 0 else 2), .int .i64 u'] 86 (0, 0)) := by rw [hZ]; (repeat rw [row_other _ _ _ (by omega)]); exact hRn.is
        have zk0 : Z.cell? ⟨w.heap.size + 3, 0, none⟩ = some (.int .i64 k') := by rw [hZ]; simp [go_sem, zq0]
        have zk1 : Z.cell? ⟨w.heap.size + 3, 1, none⟩ = some (.int .i64 v') := by rw [hZ]; simp [go_sem, zq1]
        rw [← hZ]
        clear hZ zq zq0 zq1 zq2 zq3 zq4 zq5 zq6 zq7 zq8 zq9 zq10 zq11 zq12 zqf
        have hbZ : Below w.heap.size w Z := hbZ0
        have HKV : Hid (_ → _) := hkv
        clear hkv
        have z0 := (hsZ.2 w.heap.size (by omega) (by omega)).trans y0
        have z1 := (hsZ.2 (w.heap.size + 1) (by omega) (by omega)).trans y1
        have hzr2 := row_cell zr 2
        obtain ⟨f0, f1, f2, f3, f4, f5, f6, f7, f8⟩ := Nine.box z0
        obtain ⟨p0, p1, p2, p3, p4, p5, p6, p7, p8⟩ := Nine.box z1
        have pf := row_free z1
        clear q0 q1 s0 s1 hRn hw5
        cases hb : rkB t.N u0.N u1.N
        · rw [hb] at hzr2
          have hzr3 : Z.cell? ⟨w.heap.size + 1 + 1, 2, none⟩ = some (.int .i64 2) := hzr2
          clear hzr2
          go_wp2_with fail
          refine bodyPost_ret (v := .agg #[.int .i64 t.K, .int .i64 t.N, .string t.S, .string t.Z, .int .i64 t.T.K, .int .i64 t.T.N, .slice a1 l1 c1, .slice a2 l2 c2, .slice (some ⟨g, 0, none⟩) 2 c3]) (by simp [results, Tryz.results44, go_sem, p0, p1, p2, p3, p4, p5, p6, p7, p8]) rfl ?_
          rw [← HR.out, if_neg (fun h => by rw [hb] at h; exact absurd h.2.2 (by decide))]
          exact out_of _ _ _ hf hB (by repeat (first | with_reducible exact hbZ | with_reducible refine bX_set ?_ (Nat.le_add_right _ _)))
        · rw [hb] at hzr2
          have hzr3 : Z.cell? ⟨w.heap.size + 1 + 1, 2, none⟩ = some (.int .i64 0) := hzr2
          clear hzr2
          go_wp2_with fail
          refine bodyPost_ret (v := .agg #[.int .i64 k', .int .i64 v', .string ⟨#[]⟩, .string ⟨#[]⟩, .int .i64 0, .int .i64 0, .slice none 0 0, .slice none 0 0, .slice none 0 0]) (by simp [results, Tryz.results44, go_sem, p0, p1, p2, p3, p4, p5, p6, p7, p8]) rfl ?_
          obtain ⟨rfl, rfl⟩ := HKV.out hb
          rw [← HR.out, if_pos ⟨HK.out.1, HK.out.2, hb⟩]
          exact out_num _ _ (by repeat (first | with_reducible exact hbZ | with_reducible refine bX_set ?_ (Nat.le_add_right _ _)))
    · have hkb : (u0.K != 1) = false := by simp [hk]
      have hkb1 : (u1.K != 1) = true := by simp [hk1]
      have hz : ((w.alloc (.cells #[.int .i64 t.K, .int .i64 t.N, .string t.S, .string t.Z, .int .i64 t.T.K, .int .i64 t.T.N, .slice a1 l1 c1, .slice a2 l2 c2, .slice (some ⟨g, 0, none⟩) 2 c3] 34)).alloc (.cells #[.int .i64 t.K, .int .i64 t.N, .string t.S, .string t.Z, .int .i64 t.T.K, .int .i64 t.T.N, .slice a1 l1 c1, .slice a2 l2 c2, .slice (some ⟨g, 0, none⟩) 2 c3] 34)).heap[w.heap.size + 1]? = _ := heap_new (by simp)
      obtain ⟨p0, p1, p2, p3, p4, p5, p6, p7, p8⟩ := Nine.box hz
      clear hX
      go_enter Tryz.func44, Tryz.ntmps44
      go_wp2_with fail
      refine bodyPost_ret (v := .agg #[.int .i64 t.K, .int .i64 t.N, .string t.S, .string t.Z, .int .i64 t.T.K, .int .i64 t.T.N, .slice a1 l1 c1, .slice a2 l2 c2, .slice (some ⟨g, 0, none⟩) 2 c3]) (by simp [results, Tryz.results44, go_sem, p0, p1, p2, p3, p4, p5, p6, p7, p8]) rfl ?_
      rw [← HR.out, if_neg (fun h => hk1 h.2.1)]
      exact out_of _ _ _ hf hB (bX_alloc (bX_alloc (Below.refl _ _)))
  
  · have hkb : (u0.K != 1) = true := by simp [hk]
    have hz : ((w.alloc (.cells #[.int .i64 t.K, .int .i64 t.N, .string t.S, .string t.Z, .int .i64 t.T.K, .int .i64 t.T.N, .slice a1 l1 c1, .slice a2 l2 c2, .slice (some ⟨g, 0, none⟩) 2 c3] 34)).alloc (.cells #[.int .i64 t.K, .int .i64 t.N, .string t.S, .string t.Z, .int .i64 t.T.K, .int .i64 t.T.N, .slice a1 l1 c1, .slice a2 l2 c2, .slice (some ⟨g, 0, none⟩) 2 c3] 34)).heap[w.heap.size + 1]? = _ := heap_new (by simp)
    obtain ⟨p0, p1, p2, p3, p4, p5, p6, p7, p8⟩ := Nine.box hz
    clear hX
    go_enter Tryz.func44, Tryz.ntmps44
    go_wp2_with fail
    refine bodyPost_ret (v := .agg #[.int .i64 t.K, .int .i64 t.N, .string t.S, .string t.Z, .int .i64 t.T.K, .int .i64 t.T.N, .slice a1 l1 c1, .slice a2 l2 c2, .slice (some ⟨g, 0, none⟩) 2 c3]) (by simp [results, Tryz.results44, go_sem, p0, p1, p2, p3, p4, p5, p6, p7, p8]) rfl ?_
    rw [← HR.out, if_neg (fun h => hk h.1)]
    exact out_of _ _ _ hf hB (bX_alloc (bX_alloc (Below.refl _ _)))

end Go.Proofs.YtibbdhmbgnjmoaaGreat

/-
  What the model's 'Pure' comes to.
-/
namespace Go.Proofs.YtibbdhmbgnjmoaaGreat
open Go.RowKit
set_option linter.unusedVariables false
set_option linter.unusedSimpArgs false

def SaidSP (D d : Nat) : Prop := ∀ (L B : Nat) (t : Tm) (a1 : Option Addr) (l1 c1 : Nat) (a2 : Option Addr) (l2 c2 : Nat) (a3 : Option Addr) (l3 c3 : Nat) (w : World), B ≤ w.heap.size → Fm L B w D d t a1 l1 a2 l2 a3 l3 →
    Calls Tryz.prog 45 #[.agg #[.int .i64 t.K, .int .i64 t.N, .string t.S, .string t.Z, .int .i64 t.T.K, .int .i64 t.T.N, .slice a1 l1 c1, .slice a2 l2 c2, .slice a3 l3 c3]] w fun e w' => e = .returned (.bool (pureM t)) ∧ Below w.heap.size w w'

theorem two_parts {l : List Tm} (h : l.length = 2) : l.all pureM = (pureM (l[0]'(by omega)) && pureM (l[1]'(by omega))) := by
  match l, h with
  | [x, y], _ => simp

set_option maxHeartbeats 2000000 in
theorem sp_step (D d : Nat) (IH : ∀ d', d = d' + 1 → SaidSP D d') : SaidSP D d := by
  intro L B t a1 l1 c1 a2 l2 c2 a3 l3 c3 w hB hf
  obtain ⟨X, hX⟩ : ∃ X, X = w.alloc (.cells #[.int .i64 t.K, .int .i64 t.N, .string t.S, .string t.Z, .int .i64 t.T.K, .int .i64 t.T.N, .slice a1 l1 c1, .slice a2 l2 c2, .slice a3 l3 c3] 34) := ⟨_, rfl⟩
  have hXb : Below w.heap.size w X := by rw [hX]; exact (Below.refl _ _).alloc (Nat.le_refl _) _
  have hX1 : X.heap[w.heap.size]? = some (.cells #[.int .i64 t.K, .int .i64 t.N, .string t.S, .string t.Z, .int .i64 t.T.K, .int .i64 t.T.N, .slice a1 l1 c1, .slice a2 l2 c2, .slice a3 l3 c3] 34 (0, 0)) := by rw [hX]; exact heap_new rfl
  have hXs : X.heap.size = w.heap.size + 1 := by rw [hX]; simp
  have HX : Hid (X = _) := hX
  clear hX
  have HL : Hid (l3 = t.A.length) := hf.m.len.1
  have hl3 := hf.m.len.2
  obtain ⟨f0, f1, f2, f3, f4, f5, f6, f7, f8⟩ := Nine.box hX1
  rw [pureM_eq]
  by_cases hp : t.K = 9 ∨ t.K = 13
  · rw [if_pos hp]
    by_cases h2 : l3 = 2
    · subst h2
      have hlen : t.A.length = 2 := HL.out.symm
      obtain ⟨p0, hp0⟩ : ∃ p0, pureM (t.A[0]'(by omega)) = p0 := ⟨_, rfl⟩
      obtain ⟨p1, hp1⟩ : ∃ p1, pureM (t.A[1]'(by omega)) = p1 := ⟨_, rfl⟩
      rw [two_parts hlen, hp0, hp1]
      simp only [hlen, decide_true, Bool.true_and]
      cases d with
      | zero => have := hf.m.1; omega
      | succ d =>
        have ih := IH d rfl
        obtain ⟨b, o, rfl, hbL, hbB, x1, m1, k1, x2, m2, k2, x3, m3, k3, hn0, hf0⟩ := hf.m.2.2 0 (by omega)
        obtain ⟨b', o', heq, _, _, y1, n1, j1, y2, n2, j2, y3, n3, j3, hn1, hf1⟩ := hf.m.2.2 1 (by omega)
        cases heq
        have hbX : b < X.heap.size := by omega
        have E := hn0.below hXb (by omega)
        rw [HX.out, Nat.zero_mul, Nat.add_zero] at E
        obtain ⟨e0, e1, e2, e3, e4, e5, e6, e7, e8⟩ := E
        rw [Nat.one_mul] at hn1
        have hf0' := Fm.below hXb hB hf0
        have hk : (t.K == 9) = true ∨ ((t.K == 9) = false ∧ (t.K == 13) = true) := by
          rcases hp with h | h
          · left; simp [h]
          · right; simp [h]
        have HP0 : Hid (_ = p0) := hp0
        have HP1 : Hid (_ = p1) := hp1
        clear hp0 hp1 hp
        rcases hk with hk | ⟨hk, hk2⟩
        all_goals
          go_enter Tryz.func45, Tryz.ntmps45
          go_wp2_with fail
          rw [← HX.out]
          refine (ih L B _ _ _ _ _ _ _ _ _ _ X (by omega) hf0').mono ?_
          rintro e w1 ⟨rfl, hb1⟩
          rw [HP0.out]
          have hz1 := hb1.size
          have hbw1 : Below w.heap.size w w1 := hXb.trans (hb1.mono hXb.size)
          cases p0
          · go_wp2_with fail
            go_ret
            exact ⟨rfl, hbw1⟩
          · have z1 := (hb1.block w.heap.size (by omega)).trans hX1
            obtain ⟨_, _, _, _, _, _, _, _, g8⟩ := Nine.box z1
            obtain ⟨q0, q1, q2, q3, q4, q5, q6, q7, q8⟩ := hn1.below hbw1 (by omega)
            have hf1' := Fm.below hbw1 hB hf1
            clear f0 f1 f2 f3 f4 f5 f6 f7 f8 e0 e1 e2 e3 e4 e5 e6 e7 e8
            go_wp2_with fail
            refine (ih L B _ _ _ _ _ _ _ _ _ _ w1 (by omega) hf1').mono ?_
            rintro e w2 ⟨rfl, hb2⟩
            rw [HP1.out]
            go_wp2_with fail
            go_ret
            exact ⟨by cases p1 <;> rfl, hbw1.trans (hb2.mono hbw1.size)⟩
    · have hne : ((l3 : Int) == 2) = false := by rw [beq_eq_false_iff_ne]; omega
      have hlen : ¬ t.A.length = 2 := by have := HL.out; omega
      simp only [hlen, decide_false, Bool.false_and]
      clear hlen
      have hk : (t.K == 9) = true ∨ ((t.K == 9) = false ∧ (t.K == 13) = true) := by
        rcases hp with h | h
        · left; simp [h]
        · right; simp [h]
      rcases hk with hk | ⟨hk, hk2⟩
      all_goals
        go_enter Tryz.func45, Tryz.ntmps45
        go_wp2_with fail
        go_ret
        refine ⟨rfl, ?_⟩
        first | exact hXb | (rw [← HX.out]; exact hXb)
  · rw [if_neg hp]
    have h9 : (t.K == 9) = false := by rw [beq_eq_false_iff_ne]; omega
    have h13 : (t.K == 13) = false := by rw [beq_eq_false_iff_ne]; omega
    go_enter Tryz.func45, Tryz.ntmps45
    go_wp2_with fail
    rw [← HX.out]
    refine (sIsValue_any D d L B t _ _ _ _ _ _ _ _ _ X (by omega) (Fm.below hXb hB hf)).mono ?_
    rintro e w1 ⟨rfl, hb1⟩
    go_wp2_with fail
    go_ret
    exact ⟨rfl, hXb.trans (hb1.mono hXb.size)⟩

theorem sPure_any (D d : Nat) : SaidSP D d := by
  induction d with
  | zero => exact sp_step D 0 (fun d' h => by omega)
  | succ d ih => exact sp_step D (d + 1) (fun d' h => by obtain rfl : d' = d := by omega
                                                         exact ih)

end Go.Proofs.YtibbdhmbgnjmoaaGreat

/-
  Free names in the model: 'l2Binds'.
-/
namespace Go.Proofs.YtibbdhmbgnjmoaaGreat
open Go.RowKit
set_option linter.unusedVariables false
set_option linter.unusedSimpArgs false

set_option maxRecDepth 100000 in
set_option maxHeartbeats 1000000 in
theorem l2Binds_any (t : Tm) (a1 : Option Addr) (l1 c1 : Nat) (a2 : Option Addr) (l2 c2 : Nat) (a3 : Option Addr) (l3 c3 : Nat) (i : Nat) (hi : i ≤ 1000) (w : World) :
    Calls Tryz.prog 70 #[.agg #[.int .i64 t.K, .int .i64 t.N, .string t.S, .string t.Z, .int .i64 t.T.K, .int .i64 t.T.N, .slice a1 l1 c1, .slice a2 l2 c2, .slice a3 l3 c3], .int .i64 i] w fun e w' => LitE w w' e (bindsW t.K (bs t.S) (bs t.Z) i) := by
  by_cases h4 : t.K = 4
  · have HN : Hid (bindsW t.K (bs t.S) (bs t.Z) i = [bs t.S]) := by show _ = _; simp [bindsW, h4]
    rw [HN.out]
    go_enter Tryz.func70, Tryz.ntmps70
    go_wp2_with fail
    go_ret
    exact lit_1 _ _ _
  by_cases h7 : t.K = 7
  · have HN : Hid (bindsW t.K (bs t.S) (bs t.Z) i = [bs t.S]) := by show _ = _; simp [bindsW, h7]
    rw [HN.out]
    go_enter Tryz.func70, Tryz.ntmps70
    go_wp2_with fail
    go_ret
    exact lit_1 _ _ _
  by_cases h6 : t.K = 6
  · by_cases hi1 : i = 1
    · have HN : Hid (bindsW t.K (bs t.S) (bs t.Z) i = [bs t.S]) := by show _ = _; simp [bindsW, h6, hi1]
      have bi : ((i : Int) == 1) = true := by simp [hi1]
      rw [HN.out]
      clear hi1
      go_enter Tryz.func70, Tryz.ntmps70
      go_wp2_with fail
      go_ret
      exact lit_1 _ _ _
    · have HN : Hid (bindsW t.K (bs t.S) (bs t.Z) i = []) := by show _ = _; simp [bindsW, h6, hi1]
      have bi : ((i : Int) == 1) = false := by rw [beq_eq_false_iff_ne]; omega
      rw [HN.out]
      clear hi1
      go_enter Tryz.func70, Tryz.ntmps70
      go_wp2_with fail
      go_ret
      exact lit_0 _ _
  by_cases h17 : t.K = 17
  · by_cases hi1 : i = 1
    · have HN : Hid (bindsW t.K (bs t.S) (bs t.Z) i = [bs t.S]) := by show _ = _; simp [bindsW, h17, hi1]
      have bi : ((i : Int) == 1) = true := by simp [hi1]
      rw [HN.out]
      clear hi1
      go_enter Tryz.func70, Tryz.ntmps70
      go_wp2_with fail
      go_ret
      exact lit_1 _ _ _
    · have HN : Hid (bindsW t.K (bs t.S) (bs t.Z) i = []) := by show _ = _; simp [bindsW, h17, hi1]
      have bi : ((i : Int) == 1) = false := by rw [beq_eq_false_iff_ne]; omega
      rw [HN.out]
      clear hi1
      go_enter Tryz.func70, Tryz.ntmps70
      go_wp2_with fail
      go_ret
      exact lit_0 _ _
  by_cases h14 : t.K = 14
  · by_cases hi2 : i = 2
    · have HN : Hid (bindsW t.K (bs t.S) (bs t.Z) i = [bs t.S, bs t.Z]) := by show _ = _; simp [bindsW, h14, hi2]
      have bi : ((i : Int) == 2) = true := by simp [hi2]
      rw [HN.out]
      clear hi2
      go_enter Tryz.func70, Tryz.ntmps70
      go_wp2_with fail
      go_ret
      exact lit_2 _ _ _ _
    · have HN : Hid (bindsW t.K (bs t.S) (bs t.Z) i = []) := by show _ = _; simp [bindsW, h14, hi2]
      have bi : ((i : Int) == 2) = false := by rw [beq_eq_false_iff_ne]; omega
      rw [HN.out]
      clear hi2
      go_enter Tryz.func70, Tryz.ntmps70
      go_wp2_with fail
      go_ret
      exact lit_0 _ _
  have HN : Hid (bindsW t.K (bs t.S) (bs t.Z) i = []) := by show _ = _; simp [bindsW, h4, h7, h6, h17, h14]
  have b4 : (t.K == 4) = false := by simp [h4]
  have b7 : (t.K == 7) = false := by simp [h7]
  have b6 : (t.K == 6) = false := by simp [h6]
  have b17 : (t.K == 17) = false := by simp [h17]
  have b14 : (t.K == 14) = false := by simp [h14]
  clear h4 h7 h6 h17 h14
  rw [HN.out]
  go_enter Tryz.func70, Tryz.ntmps70
  go_wp2_with fail
  go_ret
  exact lit_0 _ _

end Go.Proofs.YtibbdhmbgnjmoaaGreat
