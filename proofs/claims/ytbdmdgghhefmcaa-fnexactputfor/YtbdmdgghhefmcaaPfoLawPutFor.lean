/-
  The law FnExactPutFor's walk: whatever terms lie in memory, true.
-/
import Derived.Test.YtbdmdgghhefmcaaPfoPf3
import Derived.Test.YtbdmdgghhefmcaaPfoZ37
import Derived.Test.YtbdmdgghhefmcaaPfoZ40
import Derived.Test.YtbdmdgghhefmcaaPfoToM2
import Derived.Test.YtbdmdgghhefmcaaPfoZ44
import Derived.Test.YtbdmdgghhefmcaaPfoToM
import Derived.Test.YtbdmdgghhefmcaaPfoZ45
import Derived.Deep.CutBlock
import Derived.Deep.RegionHeld3
namespace Go.Proofs.Ytbdmdgghhefmcaa
open Go.RowKit
set_option linter.unusedVariables false
set_option linter.unusedSimpArgs false

theorem drewL_heap (W : World) : W.drew.heap = W.heap := rfl
theorem set_belowL {n q o : Nat} {v : Value} {w w' : World} (h : Below n w w') (hq : n ≤ q) : Below n w (w'.setCell ⟨q, o, none⟩ v) := ⟨h.os, h.tape, h.output, by simp; exact h.size, fun k hk => (row_other _ _ _ (by omega)).trans (h.block k hk)⟩
def SaidSPut : Prop := ∀ (D d L B D0 d0 L0 B0 : Nat) (t x : Tm) (a1 : Option Addr) (l1 c1 : Nat) (a2 : Option Addr) (l2 c2 : Nat) (a3 : Option Addr) (l3 c3 : Nat) (b1 : Option Addr) (m1 e1 : Nat) (b2 : Option Addr) (m2 e2 : Nat) (b3 : Option Addr) (m3 e3 : Nat) (s : ByteArray) (w : World), B ≤ w.heap.size → B0 ≤ w.heap.size → Fm L B w D d t a1 l1 a2 l2 a3 l3 → Fm L0 B0 w D0 d0 x b1 m1 b2 m2 b3 m3 → cntM t ≤ 1048576 → cntM x ≤ 1048576 →
    Calls Try.prog 10 #[.agg #[.int .i64 t.K, .int .i64 t.N, .string t.S, .string t.Z, .int .i64 t.T.K, .int .i64 t.T.N, .slice a1 l1 c1, .slice a2 l2 c2, .slice a3 l3 c3], .string s, .agg #[.int .i64 x.K, .int .i64 x.N, .string x.S, .string x.Z, .int .i64 x.T.K, .int .i64 x.T.N, .slice b1 m1 e1, .slice b2 m2 e2, .slice b3 m3 e3]] w fun e w' => PutE w w' e (putT (bs s) t x)
theorem Fm.deep2L {L B : Nat} {w : World} {D D' d d' : Nat} {t : Tm} {a1 a2 a3 : Option Addr} {l1 l2 l3 : Nat} (h : Fm L B w D d t a1 l1 a2 l2 a3 l3) (hD : D ≤ D') (hd : d ≤ d') : Fm L B w D' d' t a1 l1 a2 l2 a3 l3 := h.wider (fun _ _ _ k => k.deeper hD) (fun _ _ _ k => k.deeper hd hD)
theorem putT_cnt (s : List UInt8) (t x : Tm) : cntM (putT s t x).1 ≤ 1048576 := by
  by_cases h : okM t = true ∧ okM x = true ∧ putOk (freeT x) (usesP s 24 t) = true ∧ okM (putF t (usesP s 24 t) x) = true
  · rw [putT_yes h]
    obtain ⟨m, hm, hm6⟩ := okM_some h.2.2.2
    have := nodesM_cnt _ _ _ hm
    show cntM (putF t (usesP s 24 t) x) ≤ 1048576
    omega
  · rw [putT_no h]
    show cntM zTm ≤ 1048576
    rw [cntM_eq]
    simp [zTm, ownM, cntS, cntMS, subMS]
    decide

set_option maxRecDepth 100000 in
set_option maxHeartbeats 16000000 in
theorem law_putFor_of (SPF : SaidSPut) (D d L B D0 d0 L0 B0 : Nat) (t x : Tm) (a1 : Option Addr) (l1 c1 : Nat) (a2 : Option Addr) (l2 c2 : Nat) (a3 : Option Addr) (l3 c3 : Nat) (b1 : Option Addr) (m1 e1 : Nat) (b2 : Option Addr) (m2 e2 : Nat) (b3 : Option Addr) (m3 e3 : Nat) (s : ByteArray) (w : World) (hB : B ≤ w.heap.size) (hB0 : B0 ≤ w.heap.size)
    (hf : Fm L B w D d t a1 l1 a2 l2 a3 l3) (hx : Fm L0 B0 w D0 d0 x b1 m1 b2 m2 b3 m3) :
    Calls Try.prog 4 #[.agg #[.int .i64 t.K, .int .i64 t.N, .string t.S, .string t.Z, .int .i64 t.T.K, .int .i64 t.T.N, .slice a1 l1 c1, .slice a2 l2 c2, .slice a3 l3 c3], .string s, .agg #[.int .i64 x.K, .int .i64 x.N, .string x.S, .string x.Z, .int .i64 x.T.K, .int .i64 x.T.N, .slice b1 m1 e1, .slice b2 m2 e2, .slice b3 m3 e3]] w fun e w' => e = .returned (.bool true) ∧ Below w.heap.size w w' := by
  obtain ⟨X, hX⟩ : ∃ X, X = (w.alloc (.cells #[.int .i64 t.K, .int .i64 t.N, .string t.S, .string t.Z, .int .i64 t.T.K, .int .i64 t.T.N, .slice a1 l1 c1, .slice a2 l2 c2, .slice a3 l3 c3] 27)).alloc (.cells #[.int .i64 x.K, .int .i64 x.N, .string x.S, .string x.Z, .int .i64 x.T.K, .int .i64 x.T.N, .slice b1 m1 e1, .slice b2 m2 e2, .slice b3 m3 e3] 27) := ⟨_, rfl⟩
  have hXs : X.heap.size = w.heap.size + 2 := by rw [hX]; simp
  have hXb : Below w.heap.size w X := by rw [hX]; exact ((Below.refl _ _).alloc (Nat.le_refl _) _).alloc (by simp) _
  have hX0 : X.heap[w.heap.size]? = some (.cells #[.int .i64 t.K, .int .i64 t.N, .string t.S, .string t.Z, .int .i64 t.T.K, .int .i64 t.T.N, .slice a1 l1 c1, .slice a2 l2 c2, .slice a3 l3 c3] 27 (0, 0)) := by rw [hX, Below.heap_alloc _ _ _ (by simp)]; exact heap_new rfl
  have hX1 : X.heap[w.heap.size + 1]? = some (.cells #[.int .i64 x.K, .int .i64 x.N, .string x.S, .string x.Z, .int .i64 x.T.K, .int .i64 x.T.N, .slice b1 m1 e1, .slice b2 m2 e2, .slice b3 m3 e3] 27 (0, 0)) := by rw [hX]; exact heap_new (by simp)
  have HX : Hid (X = _) := hX
  clear hX
  by_cases hls : 1048576 < (s.size : Int)
  · go_enter Try.func4, Try.ntmps4
    go_wp2_with fail
    rw [← HX.out]
    go_ret
    exact ⟨rfl, hXb⟩
  by_cases hc : (cntM t : Int) ≤ 1048576
  case neg =>
    go_enter Try.func4, Try.ntmps4
    obtain ⟨x0, x1, x2, x3, x4, x5, x6, x7, x8⟩ := Nine.box hX0
    go_wp2_with fail
    rw [← HX.out]
    refine (szTerm_any D d L B t _ _ _ _ _ _ _ _ _ _ _ (by omega) (Fm.below hXb hB hf) (by omega) (by omega)).mono ?_
    rintro e w1 ⟨rfl, hb1⟩
    rw [szN_neg (by omega)]
    go_wp2_with fail
    go_ret
    exact ⟨rfl, hXb.trans (hb1.mono (by omega))⟩
  by_cases hc2 : (cntM x : Int) ≤ 1048576 - (cntM t : Int)
  case neg =>
    go_enter Try.func4, Try.ntmps4
    obtain ⟨x0, x1, x2, x3, x4, x5, x6, x7, x8⟩ := Nine.box hX0
    go_wp2_with fail
    rw [← HX.out]
    refine (szTerm_any D d L B t _ _ _ _ _ _ _ _ _ _ _ (by omega) (Fm.below hXb hB hf) (by omega) (by omega)).mono ?_
    rintro e w1 ⟨rfl, hb1⟩
    rw [szN_pos hc]
    have z1 := (hb1.block _ (by omega)).trans hX1
    clear x0 x1 x2 x3 x4 x5 x6 x7 x8
    obtain ⟨x0, x1, x2, x3, x4, x5, x6, x7, x8⟩ := Nine.box z1
    have hb1w := hXb.trans (hb1.mono (by omega))
    go_wp2_with fail
    refine (szTerm_any D0 d0 L0 B0 x _ _ _ _ _ _ _ _ _ _ w1 (by have := hb1.size; omega) (Fm.below hb1w hB0 hx) (by omega) (by omega)).mono ?_
    rintro e w2 ⟨rfl, hb2⟩
    rw [szN_neg (by omega)]
    go_wp2_with fail
    go_ret
    exact ⟨rfl, hb1w.trans (hb2.mono (by have := hb1.size; omega))⟩
  obtain ⟨R, hR⟩ : ∃ R, (putT (bs s) t x).1 = R := ⟨_, rfl⟩
  obtain ⟨rb, hrb⟩ : ∃ rb, (putT (bs s) t x).2 = rb := ⟨_, rfl⟩
  have hRc : cntM R ≤ 1048576 := by rw [← hR]; exact putT_cnt (bs s) t x
  have HRB : Hid ((putT (bs s) t x).1 = R ∧ (putT (bs s) t x).2 = rb) := ⟨hR, hrb⟩
  have hbb : (rb != rb) = false := by cases rb <;> rfl
  clear hR hrb
  go_enter Try.func4, Try.ntmps4
  obtain ⟨x0, x1, x2, x3, x4, x5, x6, x7, x8⟩ := Nine.box hX0
  go_wp2_with fail
  rw [← HX.out]
  refine (szTerm_any D d L B t _ _ _ _ _ _ _ _ _ _ _ (by omega) (Fm.below hXb hB hf) (by omega) (by omega)).mono ?_
  rintro e w1 ⟨rfl, hb1⟩
  rw [szN_pos hc]
  have hz1 := hb1.size
  have y1 := (hb1.block _ (by omega)).trans hX0
  have z1 := (hb1.block _ (by omega)).trans hX1
  clear x0 x1 x2 x3 x4 x5 x6 x7 x8
  obtain ⟨x0, x1, x2, x3, x4, x5, x6, x7, x8⟩ := Nine.box z1
  have hb1w : Below w.heap.size w w1 := hXb.trans (hb1.mono (by omega))
  go_wp2_with fail
  refine (szTerm_any D0 d0 L0 B0 x _ _ _ _ _ _ _ _ _ _ w1 (by omega) (Fm.below hb1w hB0 hx) (by omega) (by omega)).mono ?_
  rintro e w2 ⟨rfl, hb2⟩
  rw [szN_pos hc2]
  have hz2 := hb2.size
  have hb2w : Below w.heap.size w w2 := hb1w.trans (hb2.mono (by omega))
  have htw2 := (hb2.block _ (by omega)).trans y1
  have hxw2 := (hb2.block _ (by omega)).trans z1
  clear x0 x1 x2 x3 x4 x5 x6 x7 x8 y1 z1 hX0 hX1
  have HBX10 : Hid (∀ W, Below w2.heap.size w2 W → W.cell? ⟨w.heap.size, 0, none⟩ = some (.int .i64 t.K) ∧ W.cell? ⟨w.heap.size, 1, none⟩ = some (.int .i64 t.N) ∧ W.cell? ⟨w.heap.size, 2, none⟩ = some (.string t.S) ∧ W.cell? ⟨w.heap.size, 3, none⟩ = some (.string t.Z) ∧ W.cell? ⟨w.heap.size, 4, none⟩ = some (.int .i64 t.T.K) ∧ W.cell? ⟨w.heap.size, 5, none⟩ = some (.int .i64 t.T.N) ∧ W.cell? ⟨w.heap.size, 6, none⟩ = some (.slice a1 l1 c1) ∧ W.cell? ⟨w.heap.size, 7, none⟩ = some (.slice a2 l2 c2) ∧ W.cell? ⟨w.heap.size, 8, none⟩ = some (.slice a3 l3 c3) ∧ W.cell? ⟨w.heap.size + 1, 0, none⟩ = some (.int .i64 x.K) ∧ W.cell? ⟨w.heap.size + 1, 1, none⟩ = some (.int .i64 x.N) ∧ W.cell? ⟨w.heap.size + 1, 2, none⟩ = some (.string x.S) ∧ W.cell? ⟨w.heap.size + 1, 3, none⟩ = some (.string x.Z) ∧ W.cell? ⟨w.heap.size + 1, 4, none⟩ = some (.int .i64 x.T.K) ∧ W.cell? ⟨w.heap.size + 1, 5, none⟩ = some (.int .i64 x.T.N) ∧ W.cell? ⟨w.heap.size + 1, 6, none⟩ = some (.slice b1 m1 e1) ∧ W.cell? ⟨w.heap.size + 1, 7, none⟩ = some (.slice b2 m2 e2) ∧ W.cell? ⟨w.heap.size + 1, 8, none⟩ = some (.slice b3 m3 e3)) := fun W hW => by
    obtain ⟨i0, i1, i2, i3, i4, i5, i6, i7, i8⟩ := Nine.box ((hW.block _ (by omega)).trans htw2)
    obtain ⟨j0, j1, j2, j3, j4, j5, j6, j7, j8⟩ := Nine.box ((hW.block _ (by omega)).trans hxw2)
    exact ⟨i0, i1, i2, i3, i4, i5, i6, i7, i8, j0, j1, j2, j3, j4, j5, j6, j7, j8⟩
  have HTOT : Hid (∀ W, Below w2.heap.size w2 W → Calls Try.prog 7 #[.agg #[.int .i64 t.K, .int .i64 t.N, .string t.S, .string t.Z, .int .i64 t.T.K, .int .i64 t.T.N, .slice a1 l1 c1, .slice a2 l2 c2, .slice a3 l3 c3]] W fun e w' => ∃ g1 g2 g3, e = .returned (.agg #[.int .i64 t.K, .int .i64 t.N, .string t.S, .string t.Z, .int .i64 t.T.K, .int .i64 t.T.N, .slice (some ⟨g1, 0, none⟩) l1 l1, .slice (some ⟨g2, 0, none⟩) l2 l2, .slice (some ⟨g3, 0, none⟩) l3 l3]) ∧ Below W.heap.size W w' ∧ Below w2.heap.size w2 w' ∧ Fm w2.heap.size w'.heap.size w' D d t (some ⟨g1, 0, none⟩) l1 (some ⟨g2, 0, none⟩) l2 (some ⟨g3, 0, none⟩) l3) := fun W hW => by
    have hz := hW.size
    refine (toTerm_any D d L B t _ _ _ _ _ _ _ _ _ W (by omega) (Fm.below (hb2w.trans (hW.mono (by omega))) hB hf) (by omega)).mono ?_
    rintro e w' ⟨g1, g2, g3, rfl, hb, hF⟩
    exact ⟨g1, g2, g3, rfl, hb, hW.trans (hb.mono hz), Fm.keep (fun _ _ _ => rfl) hz (Nat.le_refl _) hF⟩
  have HTOX : Hid (∀ W, Below w2.heap.size w2 W → Calls Try.prog 7 #[.agg #[.int .i64 x.K, .int .i64 x.N, .string x.S, .string x.Z, .int .i64 x.T.K, .int .i64 x.T.N, .slice b1 m1 e1, .slice b2 m2 e2, .slice b3 m3 e3]] W fun e w' => ∃ g1 g2 g3, e = .returned (.agg #[.int .i64 x.K, .int .i64 x.N, .string x.S, .string x.Z, .int .i64 x.T.K, .int .i64 x.T.N, .slice (some ⟨g1, 0, none⟩) m1 m1, .slice (some ⟨g2, 0, none⟩) m2 m2, .slice (some ⟨g3, 0, none⟩) m3 m3]) ∧ Below W.heap.size W w' ∧ Below w2.heap.size w2 w' ∧ Fm w2.heap.size w'.heap.size w' D0 d0 x (some ⟨g1, 0, none⟩) m1 (some ⟨g2, 0, none⟩) m2 (some ⟨g3, 0, none⟩) m3) := fun W hW => by
    have hz := hW.size
    refine (toTerm_any D0 d0 L0 B0 x _ _ _ _ _ _ _ _ _ W (by omega) (Fm.below (hb2w.trans (hW.mono (by omega))) hB0 hx) (by omega)).mono ?_
    rintro e w' ⟨g1, g2, g3, rfl, hb, hF⟩
    exact ⟨g1, g2, g3, rfl, hb, hW.trans (hb.mono hz), Fm.keep (fun _ _ _ => rfl) hz (Nat.le_refl _) hF⟩
  have HPUT10 : Hid (∀ (W : World) (g1 g2 g3 g4 g5 g6 L1 B1 L2 B2 : Nat), Below w2.heap.size w2 W → B1 ≤ W.heap.size → B2 ≤ W.heap.size → Fm L1 B1 W D d t (some ⟨g1, 0, none⟩) l1 (some ⟨g2, 0, none⟩) l2 (some ⟨g3, 0, none⟩) l3 → Fm L2 B2 W D0 d0 x (some ⟨g4, 0, none⟩) m1 (some ⟨g5, 0, none⟩) m2 (some ⟨g6, 0, none⟩) m3 → Calls Try.prog 10 #[.agg #[.int .i64 t.K, .int .i64 t.N, .string t.S, .string t.Z, .int .i64 t.T.K, .int .i64 t.T.N, .slice (some ⟨g1, 0, none⟩) l1 l1, .slice (some ⟨g2, 0, none⟩) l2 l2, .slice (some ⟨g3, 0, none⟩) l3 l3], .string s, .agg #[.int .i64 x.K, .int .i64 x.N, .string x.S, .string x.Z, .int .i64 x.T.K, .int .i64 x.T.N, .slice (some ⟨g4, 0, none⟩) m1 m1, .slice (some ⟨g5, 0, none⟩) m2 m2, .slice (some ⟨g6, 0, none⟩) m3 m3]] W fun e w' => ∃ (D6 d6 : Nat) (za : Option Addr) (la ca : Nat) (zb : Option Addr) (lb cb : Nat) (zc : Option Addr) (lc cc : Nat), e = .returned (.tuple #[.agg #[.int .i64 R.K, .int .i64 R.N, .string R.S, .string R.Z, .int .i64 R.T.K, .int .i64 R.T.N, .slice za la ca, .slice zb lb cb, .slice zc lc cc], .bool rb]) ∧ Below W.heap.size W w' ∧ FmO W.heap.size w'.heap.size w' D6 d6 R za la zb lb zc lc) := fun W g1 g2 g3 g4 g5 g6 L1 B1 L2 B2 hW h1 h2 hF1 hF2 => by
    have K := SPF D d L1 B1 D0 d0 L2 B2 t x _ l1 l1 _ l2 l2 _ l3 l3 _ m1 m1 _ m2 m2 _ m3 m3 s W h1 h2 hF1 hF2 (by omega) (by omega)
    rw [show putT (bs s) t x = (R, rb) from Prod.ext HRB.out.1 HRB.out.2] at K
    exact K
  go_upto_region 10 with fail
  go_cut [8, 9] from 19 (fun v b wx => ∃ (q D6 d6 : Nat) (za : Option Addr) (la ca : Nat) (zb : Option Addr) (lb cb : Nat) (zc : Option Addr) (lc cc : Nat), v = .pointer (some ⟨q, 0, none⟩) ∧ b = .bool rb ∧ Below w2.heap.size w2 wx ∧ w2.heap.size ≤ q ∧ wx.heap[q]? = some (.cells #[.int .i64 R.K, .int .i64 R.N, .string R.S, .string R.Z, .int .i64 R.T.K, .int .i64 R.T.N, .slice za la ca, .slice zb lb cb, .slice zc lc cc] 35 (0, 0)) ∧ FmO w2.heap.size wx.heap.size wx D6 d6 R za la zb lb zc lc)
  case first =>
    go_region_held3 (fun W => W.cell? ⟨w.heap.size, 0, none⟩ = some (.int .i64 t.K) ∧ W.cell? ⟨w.heap.size, 1, none⟩ = some (.int .i64 t.N) ∧ W.cell? ⟨w.heap.size, 2, none⟩ = some (.string t.S) ∧ W.cell? ⟨w.heap.size, 3, none⟩ = some (.string t.Z) ∧ W.cell? ⟨w.heap.size, 4, none⟩ = some (.int .i64 t.T.K) ∧ W.cell? ⟨w.heap.size, 5, none⟩ = some (.int .i64 t.T.N) ∧ W.cell? ⟨w.heap.size, 6, none⟩ = some (.slice a1 l1 c1) ∧ W.cell? ⟨w.heap.size, 7, none⟩ = some (.slice a2 l2 c2) ∧ W.cell? ⟨w.heap.size, 8, none⟩ = some (.slice a3 l3 c3) ∧ W.cell? ⟨w.heap.size + 1, 0, none⟩ = some (.int .i64 x.K) ∧ W.cell? ⟨w.heap.size + 1, 1, none⟩ = some (.int .i64 x.N) ∧ W.cell? ⟨w.heap.size + 1, 2, none⟩ = some (.string x.S) ∧ W.cell? ⟨w.heap.size + 1, 3, none⟩ = some (.string x.Z) ∧ W.cell? ⟨w.heap.size + 1, 4, none⟩ = some (.int .i64 x.T.K) ∧ W.cell? ⟨w.heap.size + 1, 5, none⟩ = some (.int .i64 x.T.N) ∧ W.cell? ⟨w.heap.size + 1, 6, none⟩ = some (.slice b1 m1 e1) ∧ W.cell? ⟨w.heap.size + 1, 7, none⟩ = some (.slice b2 m2 e2) ∧ W.cell? ⟨w.heap.size + 1, 8, none⟩ = some (.slice b3 m3 e3))
      (first | (with_reducible refine HBX10.out _ ?_; (iterate 9 (with_reducible refine set_belowL ?_ (by first | (simp only [World.size_alloc, World.size_drew, drewL_heap]; omega) | omega | (simp; done) | (simp; omega)))); with_reducible exact hb28) | with_reducible exact HBX10.out _ hb28 | with_reducible exact HBX10.out _ hb27 | with_reducible exact HBX10.out _ hb26 | (with_reducible refine HBX10.out _ ?_; (repeat (first | with_reducible exact hb28 | with_reducible exact hb27 | with_reducible exact hb26 | with_reducible exact Below.refl _ _ | with_reducible refine Below.drew ?_ | (with_reducible refine Below.alloc ?_ (by first | (simp only [World.size_alloc, World.size_drew, drewL_heap]; omega) | omega | (simp; done) | (simp; omega)) _)))))
      (first
        | (go_at_call 10; (with_reducible refine Calls.mono (HPUT10.out _ g1 g2 g3 g4 g5 g6 w2.heap.size w7.heap.size w2.heap.size w7.heap.size ?_ ?_ ?_ ?_ ?_) ?_); (repeat (first | with_reducible exact Below.refl _ _ | with_reducible exact hb27 | with_reducible refine Below.drew ?_ | (with_reducible refine Below.alloc ?_ (by first | (simp only [World.size_alloc, World.size_drew, drewL_heap]; omega) | omega | (simp; done) | (simp; omega)) _))); (first | (with_reducible exact Nat.le_refl _) | (simp only [World.size_alloc]; omega) | omega); (first | (with_reducible exact Nat.le_refl _) | (simp only [World.size_alloc]; omega) | omega); (first | with_reducible exact ht7 | (with_reducible refine Fm.below ((Below.refl _ _).alloc (Nat.le_refl _) _) (Nat.le_refl _) ht7)); (first | with_reducible exact hx7 | (with_reducible refine Fm.below ((Below.refl _ _).alloc (Nat.le_refl _) _) (Nat.le_refl _) hx7)); rintro e w8 ⟨D6, d6, za, la, ca, zb, lb, cb, zc, lc, cc, rfl, hb8, hO8⟩; have hb28 : Below w2.heap.size w2 w8 := Below.trans (by (repeat (first | with_reducible exact Below.refl _ _ | with_reducible exact hb27 | with_reducible refine Below.drew ?_ | (with_reducible refine Below.alloc ?_ (by first | (simp only [World.size_alloc, World.size_drew, drewL_heap]; omega) | omega | (simp; done) | (simp; omega)) _)))) (hb8.mono (by first | (simp only [World.size_alloc, World.size_drew, drewL_heap]; omega) | omega | (simp; done) | (simp; omega))); have hz28 := hb28.size; (first | (have q8 := hb8.block w7.heap.size (by first | (simp only [World.size_alloc, World.size_drew, drewL_heap]; omega) | omega | (simp; done) | (simp; omega)); have hzr8 : w8.heap[w7.heap.size]? = some (.cells #[.int .i64 0, .int .i64 0, .string ⟨#[]⟩, .string ⟨#[]⟩, .int .i64 0, .int .i64 0, .slice none 0 0, .slice none 0 0, .slice none 0 0] 35 (0, 0)) := q8.trans (by ((try rw [drewL_heap]); (first | exact heap_new (by first | (simp only [World.size_alloc, World.size_drew, drewL_heap]; omega) | omega | (simp; done) | (simp; omega)) | (rw [Below.heap_alloc _ _ _ (by first | (simp only [World.size_alloc, World.size_drew, drewL_heap]; omega) | omega | (simp; done) | (simp; omega))]; exact heap_new (by first | (simp only [World.size_alloc, World.size_drew, drewL_heap]; omega) | omega | (simp; done) | (simp; omega))))))) | (have hql7 := (Array.getElem?_eq_some_iff.1 hzr7).1; have hzr8 := (hb8.block _ (Nat.lt_of_lt_of_le (Array.getElem?_eq_some_iff.1 hzr7).1 (by first | (simp only [World.size_alloc, World.size_drew, drewL_heap]; omega) | omega | (simp; done) | (simp; omega)))).trans hzr7) | skip); (try (have hnn := Nine.box hzr8; have nf := row_free hzr8; obtain ⟨n0, n1, n2, n3, n4, n5, n6, n7, n8⟩ := hnn)))
        | (have hfirst := ht6; go_at_call 7; (with_reducible refine Calls.mono (HTOX.out _ ?_) ?_); (repeat (first | with_reducible exact Below.refl _ _ | with_reducible exact hb26 | with_reducible refine Below.drew ?_ | (with_reducible refine Below.alloc ?_ (by first | (simp only [World.size_alloc, World.size_drew, drewL_heap]; omega) | omega | (simp; done) | (simp; omega)) _))); rintro e w7 ⟨g4, g5, g6, rfl, hb7, hb27, hx7⟩; have hb67 : Below w6.heap.size w6 w7 := Below.trans (by (repeat (first | with_reducible exact Below.refl _ _ | with_reducible refine Below.drew ?_ | (with_reducible refine Below.alloc ?_ (by first | (simp only [World.size_alloc, World.size_drew, drewL_heap]; omega) | omega | (simp; done) | (simp; omega)) _)))) (hb7.mono (by first | (simp only [World.size_alloc, World.size_drew, drewL_heap]; omega) | omega | (simp; done) | (simp; omega))); have hz67 := hb67.size; have hz27 := hb27.size; have ht7 := Fm.keep (fun k _ hk => hb67.block k hk) (Nat.le_refl _) hz67 hfirst; (first | (have q7 := hb7.block w6.heap.size (by first | (simp only [World.size_alloc, World.size_drew, drewL_heap]; omega) | omega | (simp; done) | (simp; omega)); have hzr7 : w7.heap[w6.heap.size]? = some (.cells #[.int .i64 0, .int .i64 0, .string ⟨#[]⟩, .string ⟨#[]⟩, .int .i64 0, .int .i64 0, .slice none 0 0, .slice none 0 0, .slice none 0 0] 35 (0, 0)) := q7.trans (by ((try rw [drewL_heap]); (first | exact heap_new (by first | (simp only [World.size_alloc, World.size_drew, drewL_heap]; omega) | omega | (simp; done) | (simp; omega)) | (rw [Below.heap_alloc _ _ _ (by first | (simp only [World.size_alloc, World.size_drew, drewL_heap]; omega) | omega | (simp; done) | (simp; omega))]; exact heap_new (by first | (simp only [World.size_alloc, World.size_drew, drewL_heap]; omega) | omega | (simp; done) | (simp; omega))))))) | (have hzr7 := (hb67.block _ (Array.getElem?_eq_some_iff.1 hzr6).1).trans hzr6) | skip))
        | (have hfirst := hx6; go_at_call 7; (with_reducible refine Calls.mono (HTOT.out _ ?_) ?_); (repeat (first | with_reducible exact Below.refl _ _ | with_reducible exact hb26 | with_reducible refine Below.drew ?_ | (with_reducible refine Below.alloc ?_ (by first | (simp only [World.size_alloc, World.size_drew, drewL_heap]; omega) | omega | (simp; done) | (simp; omega)) _))); rintro e w7 ⟨g1, g2, g3, rfl, hb7, hb27, ht7⟩; have hb67 : Below w6.heap.size w6 w7 := Below.trans (by (repeat (first | with_reducible exact Below.refl _ _ | with_reducible refine Below.drew ?_ | (with_reducible refine Below.alloc ?_ (by first | (simp only [World.size_alloc, World.size_drew, drewL_heap]; omega) | omega | (simp; done) | (simp; omega)) _)))) (hb7.mono (by first | (simp only [World.size_alloc, World.size_drew, drewL_heap]; omega) | omega | (simp; done) | (simp; omega))); have hz67 := hb67.size; have hz27 := hb27.size; have hx7 := Fm.keep (fun k _ hk => hb67.block k hk) (Nat.le_refl _) hz67 hfirst; (first | (have q7 := hb7.block w6.heap.size (by first | (simp only [World.size_alloc, World.size_drew, drewL_heap]; omega) | omega | (simp; done) | (simp; omega)); have hzr7 : w7.heap[w6.heap.size]? = some (.cells #[.int .i64 0, .int .i64 0, .string ⟨#[]⟩, .string ⟨#[]⟩, .int .i64 0, .int .i64 0, .slice none 0 0, .slice none 0 0, .slice none 0 0] 35 (0, 0)) := q7.trans (by ((try rw [drewL_heap]); (first | exact heap_new (by first | (simp only [World.size_alloc, World.size_drew, drewL_heap]; omega) | omega | (simp; done) | (simp; omega)) | (rw [Below.heap_alloc _ _ _ (by first | (simp only [World.size_alloc, World.size_drew, drewL_heap]; omega) | omega | (simp; done) | (simp; omega))]; exact heap_new (by first | (simp only [World.size_alloc, World.size_drew, drewL_heap]; omega) | omega | (simp; done) | (simp; omega))))))) | (have hzr7 := (hb67.block _ (Array.getElem?_eq_some_iff.1 hzr6).1).trans hzr6) | skip))
        | (go_at_call 7; (with_reducible refine Calls.mono (HTOT.out _ ?_) ?_); (repeat (first | with_reducible exact Below.refl _ _ | with_reducible refine Below.drew ?_ | (with_reducible refine Below.alloc ?_ (by first | (simp only [World.size_alloc, World.size_drew, drewL_heap]; omega) | omega | (simp; done) | (simp; omega)) _))); rintro e w6 ⟨g1, g2, g3, rfl, hb6, hb26, ht6⟩; have hz6 := hb26.size; (first | (have q6 := hb6.block w2.heap.size (by first | (simp only [World.size_alloc, World.size_drew, drewL_heap]; omega) | omega | (simp; done) | (simp; omega)); have hzr6 : w6.heap[w2.heap.size]? = some (.cells #[.int .i64 0, .int .i64 0, .string ⟨#[]⟩, .string ⟨#[]⟩, .int .i64 0, .int .i64 0, .slice none 0 0, .slice none 0 0, .slice none 0 0] 35 (0, 0)) := q6.trans (by ((try rw [drewL_heap]); (first | exact heap_new (by first | (simp only [World.size_alloc, World.size_drew, drewL_heap]; omega) | omega | (simp; done) | (simp; omega)) | (rw [Below.heap_alloc _ _ _ (by first | (simp only [World.size_alloc, World.size_drew, drewL_heap]; omega) | omega | (simp; done) | (simp; omega))]; exact heap_new (by first | (simp only [World.size_alloc, World.size_drew, drewL_heap]; omega) | omega | (simp; done) | (simp; omega))))))) | skip))
        | (go_at_call 7; (with_reducible refine Calls.mono (HTOX.out _ ?_) ?_); (repeat (first | with_reducible exact Below.refl _ _ | with_reducible refine Below.drew ?_ | (with_reducible refine Below.alloc ?_ (by first | (simp only [World.size_alloc, World.size_drew, drewL_heap]; omega) | omega | (simp; done) | (simp; omega)) _))); rintro e w6 ⟨g4, g5, g6, rfl, hb6, hb26, hx6⟩; have hz6 := hb26.size; (first | (have q6 := hb6.block w2.heap.size (by first | (simp only [World.size_alloc, World.size_drew, drewL_heap]; omega) | omega | (simp; done) | (simp; omega)); have hzr6 : w6.heap[w2.heap.size]? = some (.cells #[.int .i64 0, .int .i64 0, .string ⟨#[]⟩, .string ⟨#[]⟩, .int .i64 0, .int .i64 0, .slice none 0 0, .slice none 0 0, .slice none 0 0] 35 (0, 0)) := q6.trans (by ((try rw [drewL_heap]); (first | exact heap_new (by first | (simp only [World.size_alloc, World.size_drew, drewL_heap]; omega) | omega | (simp; done) | (simp; omega)) | (rw [Below.heap_alloc _ _ _ (by first | (simp only [World.size_alloc, World.size_drew, drewL_heap]; omega) | omega | (simp; done) | (simp; omega))]; exact heap_new (by first | (simp only [World.size_alloc, World.size_drew, drewL_heap]; omega) | omega | (simp; done) | (simp; omega))))))) | skip)))
    all_goals
      go_wp2_with fail
      go_meet
      obtain ⟨bn, hfO, hnd, hrg⟩ := hO8
      refine ⟨_, D6, d6, za, la, ca, zb, lb, cb, zc, lc, cc, rfl, rfl, ?_, ?_, ?_, ?_⟩
      first
        | (with_reducible exact hb28.alloc hb28.size _
           exact hb28.size
           exact heap_new rfl
           refine ⟨bn, FldO.keep (fun g hg => Below.heap_alloc _ _ _ (hrg g hg).2) hfO, hnd, fun g hg => ?_⟩
           (have hg1 := hrg g hg; (try simp only [World.size_alloc, World.size_drew] at hg1); simp; omega))
        | ((with_reducible refine hb28.trans (Below.mono (nest9_belowS _ _ _ _ _ _ _ _ _ _ _) ?_))
           (first | (simp only [World.size_alloc, World.size_drew, drewL_heap]; omega) | omega | (simp; done) | (simp; omega))
           (first | (simp only [World.size_alloc, World.size_drew, drewL_heap]; omega) | omega | (simp; done) | (simp; omega))
           exact nest9_rowS hzr8 _ _ _ _ _ _ _ _ _
           refine ⟨bn, FldO.keep (fun g hg => nest9_otherS _ _ _ _ _ _ _ _ _ _ _ g ?_) hfO, hnd, fun g hg => ?_⟩
           (have hg1 := (hrg g hg).1; (try simp only [World.size_alloc, World.size_drew] at hg1); omega)
           (have hg1 := hrg g hg; (try simp only [World.size_alloc, World.size_drew] at hg1); simp; omega))
  case rest =>
    obtain ⟨q8, D3, d3, b31, m31, e31, b32, m32, e32, b33, m33, e33, rfl, rfl, hb23, hq8, hc8, hO3⟩ := hcut
    have hz23 := hb23.size
    have hb3w : Below w.heap.size w wc := hb2w.trans (hb23.mono (by omega))
    have ht3 := (hb23.block _ (by omega)).trans htw2
    have hx3 := (hb23.block _ (by omega)).trans hxw2
    have hq8l := (Array.getElem?_eq_some_iff.1 hc8).1
    have hR3 := hO3.fm
    obtain ⟨W3, hW3⟩ : ∃ W3, W3 = wc := ⟨_, rfl⟩
    rw [← hW3] at hb23 hz23 hb3w ht3 hx3 hc8 hq8l hR3
    clear hO3
    rw [← hW3]
    clear hW3
    obtain ⟨x0, x1, x2, x3, x4, x5, x6, x7, x8⟩ := Nine.box ht3
    go_wp2_with fail
    refine (toTerm_any2 D d L B t _ _ _ _ _ _ _ _ _ W3 (by omega) (Fm.below hb3w hB hf) (by omega)).mono ?_
    rintro e w4 ⟨g41, g42, g43, rfl, hb4, hO4⟩
    have hz4 := hb4.size
    obtain ⟨W4, hW4⟩ : ∃ W, W = w4.alloc (.cells #[.int .i64 t.K, .int .i64 t.N, .string t.S, .string t.Z, .int .i64 t.T.K, .int .i64 t.T.N, .slice (some ⟨g41, 0, none⟩) l1 l1, .slice (some ⟨g42, 0, none⟩) l2 l2, .slice (some ⟨g43, 0, none⟩) l3 l3] 35) := ⟨_, rfl⟩
    have hW4s : W4.heap.size = w4.heap.size + 1 := by rw [hW4]; simp
    have hW4b : Below w4.heap.size w4 W4 := by rw [hW4]; exact (Below.refl _ _).alloc (Nat.le_refl _) _
    have hc10 : W4.heap[w4.heap.size]? = some (.cells #[.int .i64 t.K, .int .i64 t.N, .string t.S, .string t.Z, .int .i64 t.T.K, .int .i64 t.T.N, .slice (some ⟨g41, 0, none⟩) l1 l1, .slice (some ⟨g42, 0, none⟩) l2 l2, .slice (some ⟨g43, 0, none⟩) l3 l3] 35 (0, 0)) := by rw [hW4]; exact heap_new rfl
    have HW4 : Hid (W4 = _) := hW4
    have hb34 : Below W3.heap.size W3 W4 := hb4.trans (hW4b.mono (by omega))
    have hb4w : Below w.heap.size w W4 := hb3w.trans (hb34.mono (by omega))
    have hx4 := (hb34.block _ (by omega)).trans hx3
    have hx4a := (hb4.block _ (by omega)).trans hx3
    clear hW4 x0 x1 x2 x3 x4 x5 x6 x7 x8
    obtain ⟨x0, x1, x2, x3, x4, x5, x6, x7, x8⟩ := Nine.box hx4
    have hlx4 : w.heap.size + 1 < w4.heap.size := by omega
    obtain ⟨v0, v1, v2, v3, v4, v5, v6, v7, v8⟩ := Nine.box hx4a
    go_wp2_with fail
    rw [← HW4.out]
    clear v0 v1 v2 v3 v4 v5 v6 v7 v8
    refine (toTerm_any2 D0 d0 L0 B0 x _ _ _ _ _ _ _ _ _ W4 (by omega) (Fm.below hb4w hB0 hx) (by omega)).mono ?_
    rintro e w5 ⟨g51, g52, g53, rfl, hb5, hO5⟩
    have hz5 := hb5.size
    obtain ⟨W5, hW5⟩ : ∃ W, W = w5.alloc (.cells #[.int .i64 x.K, .int .i64 x.N, .string x.S, .string x.Z, .int .i64 x.T.K, .int .i64 x.T.N, .slice (some ⟨g51, 0, none⟩) m1 m1, .slice (some ⟨g52, 0, none⟩) m2 m2, .slice (some ⟨g53, 0, none⟩) m3 m3] 35) := ⟨_, rfl⟩
    have hW5s : W5.heap.size = w5.heap.size + 1 := by rw [hW5]; simp
    have hW5b : Below w5.heap.size w5 W5 := by rw [hW5]; exact (Below.refl _ _).alloc (Nat.le_refl _) _
    have hc11 : W5.heap[w5.heap.size]? = some (.cells #[.int .i64 x.K, .int .i64 x.N, .string x.S, .string x.Z, .int .i64 x.T.K, .int .i64 x.T.N, .slice (some ⟨g51, 0, none⟩) m1 m1, .slice (some ⟨g52, 0, none⟩) m2 m2, .slice (some ⟨g53, 0, none⟩) m3 m3] 35 (0, 0)) := by rw [hW5]; exact heap_new rfl
    have HW5 : Hid (W5 = _) := hW5
    have hb45 : Below W4.heap.size W4 W5 := hb5.trans (hW5b.mono (by omega))
    have hc10' := (hb45.block _ (by omega)).trans hc10
    have hc10a := (hb5.block _ (by omega)).trans hc10
    have hF4 := Fm.below hb45 (by omega) (hO4.below hW4b (Nat.le_refl _)).fm
    have hF5 := (hO5.below hW5b (Nat.le_refl _)).fm
    have KI := putFor_any D d _ _ D0 d0 _ _ t x _ l1 l1 _ l2 l2 _ l3 l3 _ m1 m1 _ m2 m2 _ m3 m3 s W5 (show w4.heap.size ≤ W5.heap.size by omega) (show w5.heap.size ≤ W5.heap.size by omega) hF4 hF5 (by omega) (by omega)
    rw [show putT (bs s) t x = (R, rb) from Prod.ext HRB.out.1 HRB.out.2] at KI
    clear hW5 x0 x1 x2 x3 x4 x5 x6 x7 x8
    obtain ⟨x0, x1, x2, x3, x4, x5, x6, x7, x8⟩ := Nine.box hc10'
    obtain ⟨y0, y1, y2, y3, y4, y5, y6, y7, y8⟩ := Nine.box hc11
    have hl45 : w4.heap.size < w5.heap.size := by omega
    obtain ⟨v0, v1, v2, v3, v4, v5, v6, v7, v8⟩ := Nine.box hc10a
    go_wp2_with fail
    rw [← HW5.out]
    clear v0 v1 v2 v3 v4 v5 v6 v7 v8 x0 x1 x2 x3 x4 x5 x6 x7 x8 y0 y1 y2 y3 y4 y5 y6 y7 y8
    refine KI.mono ?_
    rintro e w6 ⟨D6, d6, b51, m51, e51, b52, m52, e52, b53, m53, e53, rfl, hb6, hO6⟩
    have hz6 := hb6.size
    obtain ⟨W6, hW6⟩ : ∃ W, W = w6.alloc (.cells #[.int .i64 R.K, .int .i64 R.N, .string R.S, .string R.Z, .int .i64 R.T.K, .int .i64 R.T.N, .slice b51 m51 e51, .slice b52 m52 e52, .slice b53 m53 e53] 35) := ⟨_, rfl⟩
    have hW6s : W6.heap.size = w6.heap.size + 1 := by rw [hW6]; simp
    have hW6b : Below w6.heap.size w6 W6 := by rw [hW6]; exact (Below.refl _ _).alloc (Nat.le_refl _) _
    have hc12 : W6.heap[w6.heap.size]? = some (.cells #[.int .i64 R.K, .int .i64 R.N, .string R.S, .string R.Z, .int .i64 R.T.K, .int .i64 R.T.N, .slice b51 m51 e51, .slice b52 m52 e52, .slice b53 m53 e53] 35 (0, 0)) := by rw [hW6]; exact heap_new rfl
    have HW6 : Hid (W6 = _) := hW6
    have hb56 : Below W5.heap.size W5 W6 := hb6.trans (hW6b.mono (by omega))
    have hb36 : Below W3.heap.size W3 W6 := hb34.trans ((hb45.trans (hb56.mono (by omega))).mono (by omega))
    have hb6w : Below w.heap.size w W6 := hb3w.trans (hb36.mono (by omega))
    clear hW6
    obtain ⟨ms, hms0, hmsn, hmsr⟩ := hO4
    obtain ⟨ns, hns0, hnsn, hnsr⟩ := hO5
    obtain ⟨gs, hgs0, hgsn, hgsr⟩ := hO6
    -- what lies in memory from here on
    obtain ⟨ST, hST⟩ : ∃ ST : World → Prop, ∀ W, ST W ↔ (W6.heap.size ≤ W.heap.size ∧ W.heap[w.heap.size]? = some (.cells #[.int .i64 t.K, .int .i64 t.N, .string t.S, .string t.Z, .int .i64 t.T.K, .int .i64 t.T.N, .slice a1 l1 c1, .slice a2 l2 c2, .slice a3 l3 c3] 27 (0, 0)) ∧ W.heap[w.heap.size + 1]? = some (.cells #[.int .i64 x.K, .int .i64 x.N, .string x.S, .string x.Z, .int .i64 x.T.K, .int .i64 x.T.N, .slice b1 m1 e1, .slice b2 m2 e2, .slice b3 m3 e3] 27 (0, 0)) ∧ W.heap[q8]? = some (.cells #[.int .i64 R.K, .int .i64 R.N, .string R.S, .string R.Z, .int .i64 R.T.K, .int .i64 R.T.N, .slice b31 m31 e31, .slice b32 m32 e32, .slice b33 m33 e33] 35 (0, 0)) ∧ W.heap[w6.heap.size]? = some (.cells #[.int .i64 R.K, .int .i64 R.N, .string R.S, .string R.Z, .int .i64 R.T.K, .int .i64 R.T.N, .slice b51 m51 e51, .slice b52 m52 e52, .slice b53 m53 e53] 35 (0, 0)) ∧ Fm w2.heap.size W3.heap.size W D3 d3 R b31 m31 b32 m32 b33 m33 ∧ Below w.heap.size w W) := ⟨_, fun _ => Iff.rfl⟩
    have HSTk : Hid (∀ W W', ST W → W.heap.size ≤ W'.heap.size → W'.os = W.os → W'.tape = W.tape → W'.output = W.output → (∀ k, k < W6.heap.size → ((k < W3.heap.size ∧ (k < w2.heap.size ∨ w2.heap.size ≤ k)) ∨ k = w6.heap.size) → W'.heap[k]? = W.heap[k]?) → ST W') := fun W W' h hz ho ht hu hk => by
      obtain ⟨h0, h1, h2, h3, h4, h5, h6⟩ := (hST W).1 h
      exact (hST W').2 ⟨by omega, (hk _ (by omega) (by omega)).trans h1, (hk _ (by omega) (by omega)).trans h2, (hk _ (by omega) (by omega)).trans h3, (hk _ (by omega) (by omega)).trans h4, Fm.keep (fun k k1 k2 => hk k (by omega) (by omega)) (Nat.le_refl _) (Nat.le_refl _) h5, ⟨ho.trans h6.os, ht.trans h6.tape, hu.trans h6.output, by have := h6.size; omega, fun k hk' => (hk k (by omega) (by omega)).trans (h6.block k hk')⟩⟩
    have HSTb : Hid (∀ W W', ST W → Below W.heap.size W W' → ST W') := fun W W' h hb => HSTk.out W W' h hb.size hb.os hb.tape hb.output (fun k hk _ => hb.block k (by have := ((hST W).1 h).1; omega))
    have s6 : ST W6 := (hST W6).2 ⟨Nat.le_refl _, (hb36.block _ (by omega)).trans ht3, (hb36.block _ (by omega)).trans hx3, (hb36.block _ (by omega)).trans hc8, hc12, Fm.below hb36 (Nat.le_refl _) hR3, hb6w⟩
    have HSZ : Hid (w.heap.size + 2 ≤ w2.heap.size ∧ w2.heap.size ≤ q8 ∧ q8 < W3.heap.size ∧ W3.heap.size ≤ w4.heap.size ∧ W4.heap.size = w4.heap.size + 1 ∧ W4.heap.size ≤ w5.heap.size ∧ W5.heap.size = w5.heap.size + 1 ∧ W5.heap.size ≤ w6.heap.size ∧ W6.heap.size = w6.heap.size + 1) := ⟨by omega, hq8, hq8l, by omega, by omega, by omega, by omega, by omega, by omega⟩
    have hm6 : FldO W6 D (OwM W6 D d) t (some ⟨g41, 0, none⟩) l1 (some ⟨g42, 0, none⟩) l2 (some ⟨g43, 0, none⟩) l3 ms := hms0.keep fun k hk => (((hW4b.trans ((hb45.trans (hb56.mono (by omega))).mono (by omega))).block k (hmsr k hk).2))
    have hn6 : FldO W6 D0 (OwM W6 D0 d0) x (some ⟨g51, 0, none⟩) m1 (some ⟨g52, 0, none⟩) m2 (some ⟨g53, 0, none⟩) m3 ns := hns0.keep fun k hk => (hW5b.trans (hb56.mono (by omega))).block k (hnsr k hk).2
    have hg6 : FldO W6 D6 (OwM W6 D6 d6) R b51 m51 b52 m52 b53 m53 gs := hgs0.keep fun k hk => hW6b.block k (hgsr k hk).2
    have h10_6 := (hb56.block _ (by omega)).trans hc10'
    have h11_6 := (hb56.block _ (by omega)).trans hc11
    have HM : Hid (ms.Nodup ∧ ∀ b ∈ ms, W3.heap.size ≤ b ∧ b < w4.heap.size) := ⟨hmsn, hmsr⟩
    have HN : Hid (ns.Nodup ∧ ∀ b ∈ ns, W4.heap.size ≤ b ∧ b < w5.heap.size) := ⟨hnsn, hnsr⟩
    have HG : Hid (gs.Nodup ∧ ∀ b ∈ gs, W5.heap.size ≤ b ∧ b < w6.heap.size) := ⟨hgsn, hgsr⟩
    have HST : Hid (∀ W, ST W ↔ _) := hST
    obtain ⟨_, s1, s2, s3, s4, s5, _⟩ := (hST W6).1 s6
    obtain ⟨p0, p1, p2, p3, p4, p5, p6, p7, p8⟩ := Nine.box ((hb6.block _ (by omega)).trans ((hb45.block _ (by omega)).trans ((hb34.block _ (by omega)).trans hc8)))
    obtain ⟨r0, r1, r2, r3, r4, r5, r6, r7, r8⟩ := Nine.box s3
    obtain ⟨f0, f1, f2, f3, f4, f5, f6, f7, f8⟩ := Nine.box s4
    have KE := eqTerm_any (max D6 D3) (max d6 d3) _ _ _ _ R b51 m51 e51 b52 m52 e52 b53 m53 e53 b31 m31 e31 b32 m32 e32 b33 m33 e33 W6 (Nat.le_refl _) (show W3.heap.size ≤ W6.heap.size by omega) ((FmO.fm ⟨gs, hg6, hgsn, fun b hb => ⟨(hgsr b hb).1, by have := (hgsr b hb).2; omega⟩⟩ : Fm W5.heap.size W6.heap.size W6 D6 d6 R b51 m51 b52 m52 b53 m53).deep2L (Nat.le_max_left _ _) (Nat.le_max_left _ _)) (s5.deep2L (Nat.le_max_right _ _) (Nat.le_max_right _ _))
    have hlq : q8 < w6.heap.size := by omega
    clear hST hms0 hmsn hmsr hns0 hnsn hnsr hgs0 hgsn hgsr hc10 hc10' hc10a hc11 hF4 hF5 KI hb4 hb5 hb6 hW4b hW5b hW6b hc8 hc12 hR3 ht3 hx3 hx4 hx4a s1 s2 s3 s4 s5 hb34 hb45 hb56
    go_wp2_with fail
    rw [← HW6.out]
    clear p0 p1 p2 p3 p4 p5 p6 p7 p8
    refine KE.mono ?_
    rintro e w7 ⟨rfl, hb7⟩
    have hwW6 : W6.heap.size ≤ W6.heap.size := Nat.le_refl _
    have hz7 := hb7.size
    clear KE f0 f1 f2 f3 f4 f5 f6 f7 f8 r0 r1 r2 r3 r4 r5 r6 r7 r8
    have s7 := HSTb.out _ _ s6 hb7
    have h10_7 := (hb7.block _ (by omega)).trans h10_6
    have h11_7 := (hb7.block _ (by omega)).trans h11_6
    have hm7 := hm6.keep (w' := w7) fun k hk => hb7.block k (by have := (HM.out.2 k hk).2; omega)
    have hn7 := hn6.keep (w' := w7) fun k hk => hb7.block k (by have := (HN.out.2 k hk).2; omega)
    have hg7 := hg6.keep (w' := w7) fun k hk => hb7.block k (by have := (HG.out.2 k hk).2; omega)
    have hw7 : W6.heap.size ≤ w7.heap.size := ((HST.out _).1 s7).1
    clear s6 h10_6 h11_6 hm6 hn6 hg6 hb7
    obtain ⟨sz7, st7, sx7, sq7, sr7, sR7, sb7⟩ := (HST.out _).1 s7
    have hx16 := (FmO.fm ⟨ms, hm7, HM.out.1, fun b hb => ⟨(HM.out.2 b hb).1, by have := (HM.out.2 b hb).2; omega⟩⟩ : Fm W3.heap.size w7.heap.size w7 D d t (some ⟨g41, 0, none⟩) l1 (some ⟨g42, 0, none⟩) l2 (some ⟨g43, 0, none⟩) l3)
    have hf16 := Fm.below sb7 hB hf
    have hlq16 : w4.heap.size < w7.heap.size := by omega
    have hBW16 : B ≤ w7.heap.size := by omega
    obtain ⟨x0, x1, x2, x3, x4, x5, x6, x7, x8⟩ := Nine.box st7
    obtain ⟨q0, q1, q2, q3, q4, q5, q6, q7, q8x⟩ := Nine.box h10_7
    clear sz7 st7 sx7 sq7 sr7 sR7 sb7
    go_upto_region 16 with fail
    go_cut [65] from 19 (fun c wx => c = .bool false ∧ Below w7.heap.size w7 wx)
    case first =>
      go_region_with (first
        | (go_at_call 7; refine (toTerm_any D d L B t _ _ _ _ _ _ _ _ _ w7.drew hBW16 (Fm.drew hf16) (by omega)).mono ?_; rintro e w8 ⟨g61, g62, g63, rfl, hb8, hs8⟩; have k0 := (bcell hb8 hlq16 0).trans q0; have k1 := (bcell hb8 hlq16 1).trans q1; have k2 := (bcell hb8 hlq16 2).trans q2; have k3 := (bcell hb8 hlq16 3).trans q3; have k4 := (bcell hb8 hlq16 4).trans q4; have k5 := (bcell hb8 hlq16 5).trans q5; have k6 := (bcell hb8 hlq16 6).trans q6; have k7 := (bcell hb8 hlq16 7).trans q7; have k8 := (bcell hb8 hlq16 8).trans q8x; skip)
        | (go_at_call 9; refine (eqTerm_any D d _ _ _ _ t _ _ _ _ _ _ _ _ _ _ _ _ _ _ _ _ _ _ w8 ?_ ?_ (Fm.below hb8 (Nat.le_refl _) (Fm.drew hx16)) hs8).mono ?_; exact hb8.size; exact Nat.le_refl _; rintro e w9 ⟨rfl, hb9⟩))
      all_goals
        go_wp2_with fail
        go_meet
        exact ⟨rfl, ((Below.refl _ _).drew.trans hb8).trans (hb9.mono hb8.size)⟩
    case rest =>
      obtain ⟨rfl, hbc16⟩ := hcut
      obtain ⟨w8x, hW16⟩ : ∃ W, W = wc := ⟨_, rfl⟩
      rw [← hW16] at hbc16 ⊢
      clear hW16 x0 x1 x2 x3 x4 x5 x6 x7 x8 q0 q1 q2 q3 q4 q5 q6 q7 q8x hx16 hf16
      have s8 := HSTb.out _ _ s7 hbc16
      have h10_8 := (hbc16.block _ (by omega)).trans h10_7
      have h11_8 := (hbc16.block _ (by omega)).trans h11_7
      have hm8 := hm7.keep (w' := w8x) fun k hk => hbc16.block k (by have := (HM.out.2 k hk).2; omega)
      have hn8 := hn7.keep (w' := w8x) fun k hk => hbc16.block k (by have := (HN.out.2 k hk).2; omega)
      have hg8 := hg7.keep (w' := w8x) fun k hk => hbc16.block k (by have := (HG.out.2 k hk).2; omega)
      have hw8 : W6.heap.size ≤ w8x.heap.size := ((HST.out _).1 s8).1
      clear s7 h10_7 h11_7 hm7 hn7 hg7 hbc16
      obtain ⟨sz8, st8, sx8, sq8, sr8, sR8, sb8⟩ := (HST.out _).1 s8
      have hx18 := (FmO.fm ⟨ns, hn8, HN.out.1, fun b hb => ⟨(HN.out.2 b hb).1, by have := (HN.out.2 b hb).2; omega⟩⟩ : Fm W4.heap.size w8x.heap.size w8x D0 d0 x (some ⟨g51, 0, none⟩) m1 (some ⟨g52, 0, none⟩) m2 (some ⟨g53, 0, none⟩) m3)
      have hf18 := Fm.below sb8 hB0 hx
      have hlq18 : w5.heap.size < w8x.heap.size := by omega
      have hBW18 : B0 ≤ w8x.heap.size := by omega
      obtain ⟨x0, x1, x2, x3, x4, x5, x6, x7, x8⟩ := Nine.box sx8
      obtain ⟨q0, q1, q2, q3, q4, q5, q6, q7, q8x⟩ := Nine.box h11_8
      clear sz8 st8 sx8 sq8 sr8 sR8 sb8
      go_upto_region 18 with fail
      go_cut [70] from 19 (fun c wx => c = .bool false ∧ Below w8x.heap.size w8x wx)
      case first =>
        go_region_with (first
          | (go_at_call 7; refine (toTerm_any D0 d0 L0 B0 x _ _ _ _ _ _ _ _ _ w8x.drew hBW18 (Fm.drew hf18) (by omega)).mono ?_; rintro e w8 ⟨g61, g62, g63, rfl, hb8, hs8⟩; have k0 := (bcell hb8 hlq18 0).trans q0; have k1 := (bcell hb8 hlq18 1).trans q1; have k2 := (bcell hb8 hlq18 2).trans q2; have k3 := (bcell hb8 hlq18 3).trans q3; have k4 := (bcell hb8 hlq18 4).trans q4; have k5 := (bcell hb8 hlq18 5).trans q5; have k6 := (bcell hb8 hlq18 6).trans q6; have k7 := (bcell hb8 hlq18 7).trans q7; have k8 := (bcell hb8 hlq18 8).trans q8x; skip)
          | (go_at_call 9; refine (eqTerm_any D0 d0 _ _ _ _ x _ _ _ _ _ _ _ _ _ _ _ _ _ _ _ _ _ _ w8 ?_ ?_ (Fm.below hb8 (Nat.le_refl _) (Fm.drew hx18)) hs8).mono ?_; exact hb8.size; exact Nat.le_refl _; rintro e w9 ⟨rfl, hb9⟩))
        all_goals
          go_wp2_with fail
          go_meet
          exact ⟨rfl, ((Below.refl _ _).drew.trans hb8).trans (hb9.mono hb8.size)⟩
      case rest =>
        obtain ⟨rfl, hbc18⟩ := hcut
        obtain ⟨w9x, hW18⟩ : ∃ W, W = wc := ⟨_, rfl⟩
        rw [← hW18] at hbc18 ⊢
        clear hW18 x0 x1 x2 x3 x4 x5 x6 x7 x8 q0 q1 q2 q3 q4 q5 q6 q7 q8x hx18 hf18
        have s9 := HSTb.out _ _ s8 hbc18
        have h10_9 := (hbc18.block _ (by omega)).trans h10_8
        have h11_9 := (hbc18.block _ (by omega)).trans h11_8
        have hm9 := hm8.keep (w' := w9x) fun k hk => hbc18.block k (by have := (HM.out.2 k hk).2; omega)
        have hn9 := hn8.keep (w' := w9x) fun k hk => hbc18.block k (by have := (HN.out.2 k hk).2; omega)
        have hg9 := hg8.keep (w' := w9x) fun k hk => hbc18.block k (by have := (HG.out.2 k hk).2; omega)
        have hw9 : W6.heap.size ≤ w9x.heap.size := ((HST.out _).1 s9).1
        clear s8 h10_8 h11_8 hm8 hn8 hg8 hbc18
        obtain ⟨sz9, st9, sx9, sq9, sr9, sR9, sb9⟩ := (HST.out _).1 s9
        obtain ⟨x0, x1, x2, x3, x4, x5, x6, x7, x8⟩ := Nine.box h10_9
        clear sz9 st9 sx9 sq9 sr9 sR9 sb9
        go_wp2_with fail
        refine (markTermM_from D d t _ _ _ _ _ _ _ _ _ ms _ hm9 HM.out.1 (fun b hb => by have := (HM.out.2 b hb).2; omega) (by omega) 1 (by omega) (by omega)).mono ?_
        rintro e w10 ⟨k10, rfl, hk101, hk102, hc10x, _⟩
        have hz10 := hc10x.size
        have s10 := HSTk.out _ _ s9 hc10x.size hc10x.os hc10x.tape hc10x.output (fun k hk hk2 => hc10x.block k (by omega) (fun e => by have := HM.out.2 k e; omega))
        have h11_10 := (hc10x.block _ (by omega) (fun e => by have := HM.out.2 _ e; omega)).trans h11_9
        have hn10 := hn9.keep (w' := w10) fun k hk => hc10x.block k (by have := (HN.out.2 k hk).2; omega) (fun e => by have h1 := HM.out.2 k e; have h2 := HN.out.2 k hk; omega)
        have hg10 := hg9.keep (w' := w10) fun k hk => hc10x.block k (by have := (HG.out.2 k hk).2; omega) (fun e => by have h1 := HM.out.2 k e; have h2 := HG.out.2 k hk; omega)
        have hw10 : W6.heap.size ≤ w10.heap.size := ((HST.out _).1 s10).1
        clear x0 x1 x2 x3 x4 x5 x6 x7 x8 s9 h10_9 h11_9 hm9 hn9 hg9 hc10x
        obtain ⟨x0, x1, x2, x3, x4, x5, x6, x7, x8⟩ := Nine.box h11_10
        go_wp2_with fail
        refine (markTermM_from D0 d0 x _ _ _ _ _ _ _ _ _ ns _ hn10 HN.out.1 (fun b hb => by have := (HN.out.2 b hb).2; omega) (by omega) k10 (by omega) (by omega)).mono ?_
        rintro e w11 ⟨k11, rfl, hk111, hk112, hc11x, _⟩
        have hz11 := hc11x.size
        have s11 := HSTk.out _ _ s10 hc11x.size hc11x.os hc11x.tape hc11x.output (fun k hk hk2 => hc11x.block k (by omega) (fun e => by have := HN.out.2 k e; omega))
        have hg11 := hg10.keep (w' := w11) fun k hk => hc11x.block k (by have := (HG.out.2 k hk).2; omega) (fun e => by have h1 := HN.out.2 k e; have h2 := HG.out.2 k hk; omega)
        have hw11 : W6.heap.size ≤ w11.heap.size := ((HST.out _).1 s11).1
        have hk11n : ¬ k11 < 0 := by omega
        clear x0 x1 x2 x3 x4 x5 x6 x7 x8 s10 h11_10 hn10 hg10 hc11x
        obtain ⟨sz11, st11, sx11, sq11, sr11, sR11, sb11⟩ := (HST.out _).1 s11
        obtain ⟨r0, r1, r2, r3, r4, r5, r6, r7, r8⟩ := Nine.box sq11
        obtain ⟨f0, f1, f2, f3, f4, f5, f6, f7, f8⟩ := Nine.box sr11
        have KE := eqTerm_any (max D6 D3) (max d6 d3) _ _ _ _ R b51 m51 e51 b52 m52 e52 b53 m53 e53 b31 m31 e31 b32 m32 e32 b33 m33 e33 w11 (Nat.le_refl _) (show W3.heap.size ≤ w11.heap.size by omega) ((FmO.fm ⟨gs, hg11, HG.out.1, fun b hb => ⟨(HG.out.2 b hb).1, by have := (HG.out.2 b hb).2; omega⟩⟩ : Fm W5.heap.size w11.heap.size w11 D6 d6 R b51 m51 b52 m52 b53 m53).deep2L (Nat.le_max_left _ _) (Nat.le_max_left _ _)) (sR11.deep2L (Nat.le_max_right _ _) (Nat.le_max_right _ _))
        clear sz11 st11 sx11 sq11 sr11 sR11 sb11
        go_wp2_with fail
        refine KE.mono ?_
        rintro e w12 ⟨rfl, hb12⟩
        have hz12 := hb12.size
        have s12 := HSTb.out _ _ s11 hb12
        have hg12 := hg11.keep (w' := w12) fun k hk => hb12.block k (by have := (HG.out.2 k hk).2; omega)
        have hw12 : W6.heap.size ≤ w12.heap.size := ((HST.out _).1 s12).1
        clear KE s11 hg11 hb12 f0 f1 f2 f3 f4 f5 f6 f7 f8 r0 r1 r2 r3 r4 r5 r6 r7 r8
        obtain ⟨sz12, st12, sx12, sq12, sr12, sR12, sb12⟩ := (HST.out _).1 s12
        obtain ⟨f0, f1, f2, f3, f4, f5, f6, f7, f8⟩ := Nine.box sr12
        clear sz12 st12 sx12 sq12 sr12 sR12 sb12
        go_wp2_with fail
        refine (markTermM_any D6 d6 R _ _ _ _ _ _ _ _ _ gs _ hg12 HG.out.1 (fun b hb => by have := (HG.out.2 b hb).2; omega) hRc).mono ?_
        rintro e w13 ⟨k13, rfl, hk131, hk132, hc13, hBr13⟩
        have hz13 := hc13.size
        have s13 := HSTk.out _ _ s12 hc13.size hc13.os hc13.tape hc13.output (fun k hk hk2 => hc13.block k (by omega) (fun e => by have := HG.out.2 k e; omega))
        have hw13 : W6.heap.size ≤ w13.heap.size := ((HST.out _).1 s13).1
        have hk13n : ¬ k13 < 0 := by omega
        clear f0 f1 f2 f3 f4 f5 f6 f7 f8 s12 hg12 hc13
        obtain ⟨sz13, st13, sx13, sq13, sr13, sR13, sb13⟩ := (HST.out _).1 s13
        obtain ⟨f0, f1, f2, f3, f4, f5, f6, f7, f8⟩ := Nine.box sr13
        clear sz13 st13 sx13 sq13 sr13 sR13 sb13
        go_wp2_with fail
        refine (heldTermM_any D6 d6 R _ _ _ _ _ _ _ _ _ gs k13 _ hBr13 (fun b hb => by have := (HG.out.2 b hb).2; omega) hk132).mono ?_
        rintro e w14 ⟨rfl, hb14⟩
        have hz14 := hb14.size
        have s14 := HSTb.out _ _ s13 hb14
        have hBr14 := hBr13.keep (w' := w14) fun k hk => hb14.block k (by have := (HG.out.2 k hk).2; omega)
        have hw14 : W6.heap.size ≤ w14.heap.size := ((HST.out _).1 s14).1
        clear f0 f1 f2 f3 f4 f5 f6 f7 f8 s13 hBr13 hb14
        obtain ⟨sz14, st14, sx14, sq14, sr14, sR14, sb14⟩ := (HST.out _).1 s14
        have htw14 := st14
        have hxw14 := sx14
        have hb14w := sb14
        obtain ⟨x0, x1, x2, x3, x4, x5, x6, x7, x8⟩ := Nine.box st14
        obtain ⟨y0, y1, y2, y3, y4, y5, y6, y7, y8⟩ := Nine.box sx14
        clear sz14 st14 sx14 sq14 sr14 sR14 sb14
        have HBX33 : Hid (∀ W, Below w14.heap.size w14 W → W.cell? ⟨w.heap.size, 0, none⟩ = some (.int .i64 t.K) ∧ W.cell? ⟨w.heap.size, 1, none⟩ = some (.int .i64 t.N) ∧ W.cell? ⟨w.heap.size, 2, none⟩ = some (.string t.S) ∧ W.cell? ⟨w.heap.size, 3, none⟩ = some (.string t.Z) ∧ W.cell? ⟨w.heap.size, 4, none⟩ = some (.int .i64 t.T.K) ∧ W.cell? ⟨w.heap.size, 5, none⟩ = some (.int .i64 t.T.N) ∧ W.cell? ⟨w.heap.size, 6, none⟩ = some (.slice a1 l1 c1) ∧ W.cell? ⟨w.heap.size, 7, none⟩ = some (.slice a2 l2 c2) ∧ W.cell? ⟨w.heap.size, 8, none⟩ = some (.slice a3 l3 c3) ∧ W.cell? ⟨w.heap.size + 1, 0, none⟩ = some (.int .i64 x.K) ∧ W.cell? ⟨w.heap.size + 1, 1, none⟩ = some (.int .i64 x.N) ∧ W.cell? ⟨w.heap.size + 1, 2, none⟩ = some (.string x.S) ∧ W.cell? ⟨w.heap.size + 1, 3, none⟩ = some (.string x.Z) ∧ W.cell? ⟨w.heap.size + 1, 4, none⟩ = some (.int .i64 x.T.K) ∧ W.cell? ⟨w.heap.size + 1, 5, none⟩ = some (.int .i64 x.T.N) ∧ W.cell? ⟨w.heap.size + 1, 6, none⟩ = some (.slice b1 m1 e1) ∧ W.cell? ⟨w.heap.size + 1, 7, none⟩ = some (.slice b2 m2 e2) ∧ W.cell? ⟨w.heap.size + 1, 8, none⟩ = some (.slice b3 m3 e3)) := fun W hW => by
          obtain ⟨i0, i1, i2, i3, i4, i5, i6, i7, i8⟩ := Nine.box ((hW.block _ (by omega)).trans htw14)
          obtain ⟨j0, j1, j2, j3, j4, j5, j6, j7, j8⟩ := Nine.box ((hW.block _ (by omega)).trans hxw14)
          exact ⟨i0, i1, i2, i3, i4, i5, i6, i7, i8, j0, j1, j2, j3, j4, j5, j6, j7, j8⟩
        have HTOT : Hid (∀ W, Below w14.heap.size w14 W → Calls Try.prog 7 #[.agg #[.int .i64 t.K, .int .i64 t.N, .string t.S, .string t.Z, .int .i64 t.T.K, .int .i64 t.T.N, .slice a1 l1 c1, .slice a2 l2 c2, .slice a3 l3 c3]] W fun e w' => ∃ g1 g2 g3, e = .returned (.agg #[.int .i64 t.K, .int .i64 t.N, .string t.S, .string t.Z, .int .i64 t.T.K, .int .i64 t.T.N, .slice (some ⟨g1, 0, none⟩) l1 l1, .slice (some ⟨g2, 0, none⟩) l2 l2, .slice (some ⟨g3, 0, none⟩) l3 l3]) ∧ Below W.heap.size W w' ∧ Below w14.heap.size w14 w' ∧ Fm w14.heap.size w'.heap.size w' D d t (some ⟨g1, 0, none⟩) l1 (some ⟨g2, 0, none⟩) l2 (some ⟨g3, 0, none⟩) l3) := fun W hW => by
          have hz := hW.size
          refine (toTerm_any D d L B t _ _ _ _ _ _ _ _ _ W (by omega) (Fm.below (hb14w.trans (hW.mono (by omega))) hB hf) (by omega)).mono ?_
          rintro e w' ⟨g1, g2, g3, rfl, hb, hF⟩
          exact ⟨g1, g2, g3, rfl, hb, hW.trans (hb.mono hz), Fm.keep (fun _ _ _ => rfl) hz (Nat.le_refl _) hF⟩
        have HTOX : Hid (∀ W, Below w14.heap.size w14 W → Calls Try.prog 7 #[.agg #[.int .i64 x.K, .int .i64 x.N, .string x.S, .string x.Z, .int .i64 x.T.K, .int .i64 x.T.N, .slice b1 m1 e1, .slice b2 m2 e2, .slice b3 m3 e3]] W fun e w' => ∃ g1 g2 g3, e = .returned (.agg #[.int .i64 x.K, .int .i64 x.N, .string x.S, .string x.Z, .int .i64 x.T.K, .int .i64 x.T.N, .slice (some ⟨g1, 0, none⟩) m1 m1, .slice (some ⟨g2, 0, none⟩) m2 m2, .slice (some ⟨g3, 0, none⟩) m3 m3]) ∧ Below W.heap.size W w' ∧ Below w14.heap.size w14 w' ∧ Fm w14.heap.size w'.heap.size w' D0 d0 x (some ⟨g1, 0, none⟩) m1 (some ⟨g2, 0, none⟩) m2 (some ⟨g3, 0, none⟩) m3) := fun W hW => by
          have hz := hW.size
          refine (toTerm_any D0 d0 L0 B0 x _ _ _ _ _ _ _ _ _ W (by omega) (Fm.below (hb14w.trans (hW.mono (by omega))) hB0 hx) (by omega)).mono ?_
          rintro e w' ⟨g1, g2, g3, rfl, hb, hF⟩
          exact ⟨g1, g2, g3, rfl, hb, hW.trans (hb.mono hz), Fm.keep (fun _ _ _ => rfl) hz (Nat.le_refl _) hF⟩
        have HPUT33 : Hid (∀ (W : World) (g1 g2 g3 g4 g5 g6 L1 B1 L2 B2 : Nat), Below w14.heap.size w14 W → B1 ≤ W.heap.size → B2 ≤ W.heap.size → Fm L1 B1 W D d t (some ⟨g1, 0, none⟩) l1 (some ⟨g2, 0, none⟩) l2 (some ⟨g3, 0, none⟩) l3 → Fm L2 B2 W D0 d0 x (some ⟨g4, 0, none⟩) m1 (some ⟨g5, 0, none⟩) m2 (some ⟨g6, 0, none⟩) m3 → Calls Try.prog 11 #[.agg #[.int .i64 t.K, .int .i64 t.N, .string t.S, .string t.Z, .int .i64 t.T.K, .int .i64 t.T.N, .slice (some ⟨g1, 0, none⟩) l1 l1, .slice (some ⟨g2, 0, none⟩) l2 l2, .slice (some ⟨g3, 0, none⟩) l3 l3], .string s, .agg #[.int .i64 x.K, .int .i64 x.N, .string x.S, .string x.Z, .int .i64 x.T.K, .int .i64 x.T.N, .slice (some ⟨g4, 0, none⟩) m1 m1, .slice (some ⟨g5, 0, none⟩) m2 m2, .slice (some ⟨g6, 0, none⟩) m3 m3]] W fun e w' => ∃ (D6 d6 : Nat) (za : Option Addr) (la ca : Nat) (zb : Option Addr) (lb cb : Nat) (zc : Option Addr) (lc cc : Nat), e = .returned (.tuple #[.agg #[.int .i64 R.K, .int .i64 R.N, .string R.S, .string R.Z, .int .i64 R.T.K, .int .i64 R.T.N, .slice za la ca, .slice zb lb cb, .slice zc lc cc], .bool rb]) ∧ Below W.heap.size W w' ∧ FmO W.heap.size w'.heap.size w' D6 d6 R za la zb lb zc lc) := fun W g1 g2 g3 g4 g5 g6 L1 B1 L2 B2 hW h1 h2 hF1 hF2 => by
          have K := putFor_any D d L1 B1 D0 d0 L2 B2 t x _ l1 l1 _ l2 l2 _ l3 l3 _ m1 m1 _ m2 m2 _ m3 m3 s W h1 h2 hF1 hF2 (by omega) (by omega)
          rw [show putT (bs s) t x = (R, rb) from Prod.ext HRB.out.1 HRB.out.2] at K
          exact K
        go_upto_region 33 with fail
        go_cut [17, 18] from 19 (fun v b wx => ∃ (q D6 d6 : Nat) (za : Option Addr) (la ca : Nat) (zb : Option Addr) (lb cb : Nat) (zc : Option Addr) (lc cc : Nat), v = .pointer (some ⟨q, 0, none⟩) ∧ b = .bool rb ∧ Below w14.heap.size w14 wx ∧ w14.heap.size ≤ q ∧ wx.heap[q]? = some (.cells #[.int .i64 R.K, .int .i64 R.N, .string R.S, .string R.Z, .int .i64 R.T.K, .int .i64 R.T.N, .slice za la ca, .slice zb lb cb, .slice zc lc cc] 35 (0, 0)) ∧ FmO w14.heap.size wx.heap.size wx D6 d6 R za la zb lb zc lc)
        case first =>
          go_region_held3 (fun W => W.cell? ⟨w.heap.size, 0, none⟩ = some (.int .i64 t.K) ∧ W.cell? ⟨w.heap.size, 1, none⟩ = some (.int .i64 t.N) ∧ W.cell? ⟨w.heap.size, 2, none⟩ = some (.string t.S) ∧ W.cell? ⟨w.heap.size, 3, none⟩ = some (.string t.Z) ∧ W.cell? ⟨w.heap.size, 4, none⟩ = some (.int .i64 t.T.K) ∧ W.cell? ⟨w.heap.size, 5, none⟩ = some (.int .i64 t.T.N) ∧ W.cell? ⟨w.heap.size, 6, none⟩ = some (.slice a1 l1 c1) ∧ W.cell? ⟨w.heap.size, 7, none⟩ = some (.slice a2 l2 c2) ∧ W.cell? ⟨w.heap.size, 8, none⟩ = some (.slice a3 l3 c3) ∧ W.cell? ⟨w.heap.size + 1, 0, none⟩ = some (.int .i64 x.K) ∧ W.cell? ⟨w.heap.size + 1, 1, none⟩ = some (.int .i64 x.N) ∧ W.cell? ⟨w.heap.size + 1, 2, none⟩ = some (.string x.S) ∧ W.cell? ⟨w.heap.size + 1, 3, none⟩ = some (.string x.Z) ∧ W.cell? ⟨w.heap.size + 1, 4, none⟩ = some (.int .i64 x.T.K) ∧ W.cell? ⟨w.heap.size + 1, 5, none⟩ = some (.int .i64 x.T.N) ∧ W.cell? ⟨w.heap.size + 1, 6, none⟩ = some (.slice b1 m1 e1) ∧ W.cell? ⟨w.heap.size + 1, 7, none⟩ = some (.slice b2 m2 e2) ∧ W.cell? ⟨w.heap.size + 1, 8, none⟩ = some (.slice b3 m3 e3))
            (first | (with_reducible refine HBX33.out _ ?_; (iterate 9 (with_reducible refine set_belowL ?_ (by first | (simp only [World.size_alloc, World.size_drew, drewL_heap]; omega) | omega | (simp; done) | (simp; omega)))); with_reducible exact hb28) | with_reducible exact HBX33.out _ hb28 | with_reducible exact HBX33.out _ hb27 | with_reducible exact HBX33.out _ hb26 | (with_reducible refine HBX33.out _ ?_; (repeat (first | with_reducible exact hb28 | with_reducible exact hb27 | with_reducible exact hb26 | with_reducible exact Below.refl _ _ | with_reducible refine Below.drew ?_ | (with_reducible refine Below.alloc ?_ (by first | (simp only [World.size_alloc, World.size_drew, drewL_heap]; omega) | omega | (simp; done) | (simp; omega)) _)))))
            (first
              | (go_at_call 11; (with_reducible refine Calls.mono (HPUT33.out _ g1 g2 g3 g4 g5 g6 w14.heap.size w7.heap.size w14.heap.size w7.heap.size ?_ ?_ ?_ ?_ ?_) ?_); (repeat (first | with_reducible exact Below.refl _ _ | with_reducible exact hb27 | with_reducible refine Below.drew ?_ | (with_reducible refine Below.alloc ?_ (by first | (simp only [World.size_alloc, World.size_drew, drewL_heap]; omega) | omega | (simp; done) | (simp; omega)) _))); (first | (with_reducible exact Nat.le_refl _) | (simp only [World.size_alloc]; omega) | omega); (first | (with_reducible exact Nat.le_refl _) | (simp only [World.size_alloc]; omega) | omega); (first | with_reducible exact ht7 | (with_reducible refine Fm.below ((Below.refl _ _).alloc (Nat.le_refl _) _) (Nat.le_refl _) ht7)); (first | with_reducible exact hx7 | (with_reducible refine Fm.below ((Below.refl _ _).alloc (Nat.le_refl _) _) (Nat.le_refl _) hx7)); rintro e w8 ⟨D6, d6, za, la, ca, zb, lb, cb, zc, lc, cc, rfl, hb8, hO8⟩; have hb28 : Below w14.heap.size w14 w8 := Below.trans (by (repeat (first | with_reducible exact Below.refl _ _ | with_reducible exact hb27 | with_reducible refine Below.drew ?_ | (with_reducible refine Below.alloc ?_ (by first | (simp only [World.size_alloc, World.size_drew, drewL_heap]; omega) | omega | (simp; done) | (simp; omega)) _)))) (hb8.mono (by first | (simp only [World.size_alloc, World.size_drew, drewL_heap]; omega) | omega | (simp; done) | (simp; omega))); have hz28 := hb28.size; (first | (have q8 := hb8.block w7.heap.size (by first | (simp only [World.size_alloc, World.size_drew, drewL_heap]; omega) | omega | (simp; done) | (simp; omega)); have hzr8 : w8.heap[w7.heap.size]? = some (.cells #[.int .i64 0, .int .i64 0, .string ⟨#[]⟩, .string ⟨#[]⟩, .int .i64 0, .int .i64 0, .slice none 0 0, .slice none 0 0, .slice none 0 0] 35 (0, 0)) := q8.trans (by ((try rw [drewL_heap]); (first | exact heap_new (by first | (simp only [World.size_alloc, World.size_drew, drewL_heap]; omega) | omega | (simp; done) | (simp; omega)) | (rw [Below.heap_alloc _ _ _ (by first | (simp only [World.size_alloc, World.size_drew, drewL_heap]; omega) | omega | (simp; done) | (simp; omega))]; exact heap_new (by first | (simp only [World.size_alloc, World.size_drew, drewL_heap]; omega) | omega | (simp; done) | (simp; omega))))))) | (have hql7 := (Array.getElem?_eq_some_iff.1 hzr7).1; have hzr8 := (hb8.block _ (Nat.lt_of_lt_of_le (Array.getElem?_eq_some_iff.1 hzr7).1 (by first | (simp only [World.size_alloc, World.size_drew, drewL_heap]; omega) | omega | (simp; done) | (simp; omega)))).trans hzr7) | skip); (try (have hnn := Nine.box hzr8; have nf := row_free hzr8; obtain ⟨n0, n1, n2, n3, n4, n5, n6, n7, n8⟩ := hnn)))
              | (have hfirst := ht6; go_at_call 7; (with_reducible refine Calls.mono (HTOX.out _ ?_) ?_); (repeat (first | with_reducible exact Below.refl _ _ | with_reducible exact hb26 | with_reducible refine Below.drew ?_ | (with_reducible refine Below.alloc ?_ (by first | (simp only [World.size_alloc, World.size_drew, drewL_heap]; omega) | omega | (simp; done) | (simp; omega)) _))); rintro e w7 ⟨g4, g5, g6, rfl, hb7, hb27, hx7⟩; have hb67 : Below w6.heap.size w6 w7 := Below.trans (by (repeat (first | with_reducible exact Below.refl _ _ | with_reducible refine Below.drew ?_ | (with_reducible refine Below.alloc ?_ (by first | (simp only [World.size_alloc, World.size_drew, drewL_heap]; omega) | omega | (simp; done) | (simp; omega)) _)))) (hb7.mono (by first | (simp only [World.size_alloc, World.size_drew, drewL_heap]; omega) | omega | (simp; done) | (simp; omega))); have hz67 := hb67.size; have hz27 := hb27.size; have ht7 := Fm.keep (fun k _ hk => hb67.block k hk) (Nat.le_refl _) hz67 hfirst; (first | (have q7 := hb7.block w6.heap.size (by first | (simp only [World.size_alloc, World.size_drew, drewL_heap]; omega) | omega | (simp; done) | (simp; omega)); have hzr7 : w7.heap[w6.heap.size]? = some (.cells #[.int .i64 0, .int .i64 0, .string ⟨#[]⟩, .string ⟨#[]⟩, .int .i64 0, .int .i64 0, .slice none 0 0, .slice none 0 0, .slice none 0 0] 35 (0, 0)) := q7.trans (by ((try rw [drewL_heap]); (first | exact heap_new (by first | (simp only [World.size_alloc, World.size_drew, drewL_heap]; omega) | omega | (simp; done) | (simp; omega)) | (rw [Below.heap_alloc _ _ _ (by first | (simp only [World.size_alloc, World.size_drew, drewL_heap]; omega) | omega | (simp; done) | (simp; omega))]; exact heap_new (by first | (simp only [World.size_alloc, World.size_drew, drewL_heap]; omega) | omega | (simp; done) | (simp; omega))))))) | (have hzr7 := (hb67.block _ (Array.getElem?_eq_some_iff.1 hzr6).1).trans hzr6) | skip))
              | (have hfirst := hx6; go_at_call 7; (with_reducible refine Calls.mono (HTOT.out _ ?_) ?_); (repeat (first | with_reducible exact Below.refl _ _ | with_reducible exact hb26 | with_reducible refine Below.drew ?_ | (with_reducible refine Below.alloc ?_ (by first | (simp only [World.size_alloc, World.size_drew, drewL_heap]; omega) | omega | (simp; done) | (simp; omega)) _))); rintro e w7 ⟨g1, g2, g3, rfl, hb7, hb27, ht7⟩; have hb67 : Below w6.heap.size w6 w7 := Below.trans (by (repeat (first | with_reducible exact Below.refl _ _ | with_reducible refine Below.drew ?_ | (with_reducible refine Below.alloc ?_ (by first | (simp only [World.size_alloc, World.size_drew, drewL_heap]; omega) | omega | (simp; done) | (simp; omega)) _)))) (hb7.mono (by first | (simp only [World.size_alloc, World.size_drew, drewL_heap]; omega) | omega | (simp; done) | (simp; omega))); have hz67 := hb67.size; have hz27 := hb27.size; have hx7 := Fm.keep (fun k _ hk => hb67.block k hk) (Nat.le_refl _) hz67 hfirst; (first | (have q7 := hb7.block w6.heap.size (by first | (simp only [World.size_alloc, World.size_drew, drewL_heap]; omega) | omega | (simp; done) | (simp; omega)); have hzr7 : w7.heap[w6.heap.size]? = some (.cells #[.int .i64 0, .int .i64 0, .string ⟨#[]⟩, .string ⟨#[]⟩, .int .i64 0, .int .i64 0, .slice none 0 0, .slice none 0 0, .slice none 0 0] 35 (0, 0)) := q7.trans (by ((try rw [drewL_heap]); (first | exact heap_new (by first | (simp only [World.size_alloc, World.size_drew, drewL_heap]; omega) | omega | (simp; done) | (simp; omega)) | (rw [Below.heap_alloc _ _ _ (by first | (simp only [World.size_alloc, World.size_drew, drewL_heap]; omega) | omega | (simp; done) | (simp; omega))]; exact heap_new (by first | (simp only [World.size_alloc, World.size_drew, drewL_heap]; omega) | omega | (simp; done) | (simp; omega))))))) | (have hzr7 := (hb67.block _ (Array.getElem?_eq_some_iff.1 hzr6).1).trans hzr6) | skip))
              | (go_at_call 7; (with_reducible refine Calls.mono (HTOT.out _ ?_) ?_); (repeat (first | with_reducible exact Below.refl _ _ | with_reducible refine Below.drew ?_ | (with_reducible refine Below.alloc ?_ (by first | (simp only [World.size_alloc, World.size_drew, drewL_heap]; omega) | omega | (simp; done) | (simp; omega)) _))); rintro e w6 ⟨g1, g2, g3, rfl, hb6, hb26, ht6⟩; have hz6 := hb26.size; (first | (have q6 := hb6.block w14.heap.size (by first | (simp only [World.size_alloc, World.size_drew, drewL_heap]; omega) | omega | (simp; done) | (simp; omega)); have hzr6 : w6.heap[w14.heap.size]? = some (.cells #[.int .i64 0, .int .i64 0, .string ⟨#[]⟩, .string ⟨#[]⟩, .int .i64 0, .int .i64 0, .slice none 0 0, .slice none 0 0, .slice none 0 0] 35 (0, 0)) := q6.trans (by ((try rw [drewL_heap]); (first | exact heap_new (by first | (simp only [World.size_alloc, World.size_drew, drewL_heap]; omega) | omega | (simp; done) | (simp; omega)) | (rw [Below.heap_alloc _ _ _ (by first | (simp only [World.size_alloc, World.size_drew, drewL_heap]; omega) | omega | (simp; done) | (simp; omega))]; exact heap_new (by first | (simp only [World.size_alloc, World.size_drew, drewL_heap]; omega) | omega | (simp; done) | (simp; omega))))))) | skip))
              | (go_at_call 7; (with_reducible refine Calls.mono (HTOX.out _ ?_) ?_); (repeat (first | with_reducible exact Below.refl _ _ | with_reducible refine Below.drew ?_ | (with_reducible refine Below.alloc ?_ (by first | (simp only [World.size_alloc, World.size_drew, drewL_heap]; omega) | omega | (simp; done) | (simp; omega)) _))); rintro e w6 ⟨g4, g5, g6, rfl, hb6, hb26, hx6⟩; have hz6 := hb26.size; (first | (have q6 := hb6.block w14.heap.size (by first | (simp only [World.size_alloc, World.size_drew, drewL_heap]; omega) | omega | (simp; done) | (simp; omega)); have hzr6 : w6.heap[w14.heap.size]? = some (.cells #[.int .i64 0, .int .i64 0, .string ⟨#[]⟩, .string ⟨#[]⟩, .int .i64 0, .int .i64 0, .slice none 0 0, .slice none 0 0, .slice none 0 0] 35 (0, 0)) := q6.trans (by ((try rw [drewL_heap]); (first | exact heap_new (by first | (simp only [World.size_alloc, World.size_drew, drewL_heap]; omega) | omega | (simp; done) | (simp; omega)) | (rw [Below.heap_alloc _ _ _ (by first | (simp only [World.size_alloc, World.size_drew, drewL_heap]; omega) | omega | (simp; done) | (simp; omega))]; exact heap_new (by first | (simp only [World.size_alloc, World.size_drew, drewL_heap]; omega) | omega | (simp; done) | (simp; omega))))))) | skip)))
          all_goals
            go_wp2_with fail
            go_meet
            obtain ⟨bn, hfO, hnd, hrg⟩ := hO8
            refine ⟨_, D6, d6, za, la, ca, zb, lb, cb, zc, lc, cc, rfl, rfl, ?_, ?_, ?_, ?_⟩
            first
              | (with_reducible exact hb28.alloc hb28.size _
                 exact hb28.size
                 exact heap_new rfl
                 refine ⟨bn, FldO.keep (fun g hg => Below.heap_alloc _ _ _ (hrg g hg).2) hfO, hnd, fun g hg => ?_⟩
                 (have hg1 := hrg g hg; (try simp only [World.size_alloc, World.size_drew] at hg1); simp; omega))
              | ((with_reducible refine hb28.trans (Below.mono (nest9_belowS _ _ _ _ _ _ _ _ _ _ _) ?_))
                 (first | (simp only [World.size_alloc, World.size_drew, drewL_heap]; omega) | omega | (simp; done) | (simp; omega))
                 (first | (simp only [World.size_alloc, World.size_drew, drewL_heap]; omega) | omega | (simp; done) | (simp; omega))
                 exact nest9_rowS hzr8 _ _ _ _ _ _ _ _ _
                 refine ⟨bn, FldO.keep (fun g hg => nest9_otherS _ _ _ _ _ _ _ _ _ _ _ g ?_) hfO, hnd, fun g hg => ?_⟩
                 (have hg1 := (hrg g hg).1; (try simp only [World.size_alloc, World.size_drew] at hg1); omega)
                 (have hg1 := hrg g hg; (try simp only [World.size_alloc, World.size_drew] at hg1); simp; omega))
        case rest =>
          obtain ⟨q17, D7, d7, ba1, na1, ea1, ba2, na2, ea2, ba3, na3, ea3, rfl, rfl, hbc33, hq17, hc17, hO17⟩ := hcut
          have hzc := hbc33.size
          have s15 := HSTb.out _ _ s14 hbc33
          have hBr15 := hBr14.keep (w' := wc) fun k hk => hbc33.block k (by have := (HG.out.2 k hk).2; omega)
          obtain ⟨sz15, st15, sx15, sq15, sr15, sR15, sb15⟩ := (HST.out _).1 s15
          obtain ⟨r0, r1, r2, r3, r4, r5, r6, r7, r8⟩ := Nine.box sq15
          obtain ⟨f0, f1, f2, f3, f4, f5, f6, f7, f8⟩ := Nine.box hc17
          have KE := eqTerm_any (max D7 D3) (max d7 d3) _ _ _ _ R ba1 na1 ea1 ba2 na2 ea2 ba3 na3 ea3 b31 m31 e31 b32 m32 e32 b33 m33 e33 wc (Nat.le_refl _) (show W3.heap.size ≤ wc.heap.size by omega) (hO17.fm.deep2L (Nat.le_max_left _ _) (Nat.le_max_left _ _)) (sR15.deep2L (Nat.le_max_right _ _) (Nat.le_max_right _ _))
          clear sz15 st15 sx15 sq15 sr15 sR15 sb15 x0 x1 x2 x3 x4 x5 x6 x7 x8 y0 y1 y2 y3 y4 y5 y6 y7 y8
          go_wp2_with fail
          refine KE.mono ?_
          rintro e w16 ⟨rfl, hb16⟩
          have hz16 := hb16.size
          have s16 := HSTb.out _ _ s15 hb16
          have hBr16 := hBr15.keep (w' := w16) fun k hk => hb16.block k (by have := (HG.out.2 k hk).2; have := ((HST.out _).1 s15).1; omega)
          clear KE f0 f1 f2 f3 f4 f5 f6 f7 f8 r0 r1 r2 r3 r4 r5 r6 r7 r8
          obtain ⟨sz16, st16, sx16, sq16, sr16, sR16, sb16⟩ := (HST.out _).1 s16
          obtain ⟨f0, f1, f2, f3, f4, f5, f6, f7, f8⟩ := Nine.box sr16
          have hb16w := sb16
          clear st16 sx16 sq16 sr16 sR16 sb16
          go_wp2_with fail
          refine (heldTermM_any D6 d6 R _ _ _ _ _ _ _ _ _ gs k13 _ hBr16 (fun b hb => by have := (HG.out.2 b hb).2; omega) hk132).mono ?_
          rintro e w17 ⟨rfl, hb17⟩
          go_wp2_with fail
          go_ret
          exact ⟨rfl, hb16w.trans (hb17.mono (by have := hb16w.size; omega))⟩

end Go.Proofs.Ytbdmdgghhefmcaa
