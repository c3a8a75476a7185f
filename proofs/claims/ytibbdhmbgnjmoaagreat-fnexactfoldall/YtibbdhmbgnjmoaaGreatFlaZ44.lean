/-
  What the program's 'SameTerm' comes to where the first term's lists have blocks of their own.
-/
import Derived.Test.YtibbdhmbgnjmoaaGreatFlaAnM
import Derived.Test.YtibbdhmbgnjmoaaGreatFlaZ22
import Derived.Test.YtibbdhmbgnjmoaaGreatFlaZ38
import Derived.Test.YtibbdhmbgnjmoaaGreatFlaZ25
import Derived.Test.YtibbdhmbgnjmoaaGreatFlaZ14
import Derived.Laws.IdiomStrings
namespace Go.Proofs.YtibbdhmbgnjmoaaGreat
open Go.RowKit
set_option linter.unusedVariables false
set_option linter.unusedSimpArgs false

set_option maxHeartbeats 4000000 in
theorem sameTerm_any (D d L B L' B' : Nat) (t t' : Tm) (a1 : Option Addr) (l1 c1 : Nat) (a2 : Option Addr) (l2 c2 : Nat) (a3 : Option Addr) (l3 c3 : Nat) (b1 : Option Addr) (m1 d1 : Nat) (b2 : Option Addr) (m2 d2 : Nat) (b3 : Option Addr) (m3 d3 : Nat) (b : Bool) (w : World) (hB : B ≤ w.heap.size) (hB' : B' ≤ w.heap.size)
    (ho : FmO L B w D d t a1 l1 a2 l2 a3 l3) (hs' : Fm L' B' w D d t' b1 m1 b2 m2 b3 m3) (hb : b = true ↔ t = t') (hc : cntM t ≤ 1048576) :
    Calls Tryz.prog 40 #[.agg #[.int .i64 t.K, .int .i64 t.N, .string t.S, .string t.Z, .int .i64 t.T.K, .int .i64 t.T.N, .slice a1 l1 c1, .slice a2 l2 c2, .slice a3 l3 c3], .agg #[.int .i64 t'.K, .int .i64 t'.N, .string t'.S, .string t'.Z, .int .i64 t'.T.K, .int .i64 t'.T.N, .slice b1 m1 d1, .slice b2 m2 d2, .slice b3 m3 d3]] w fun e w' => e = .returned (.bool b) ∧ Below w.heap.size w w' := by
  have hs := ho.fm
  obtain ⟨X, hX⟩ : ∃ X, X = ((w.alloc (.cells #[.int .i64 t.K, .int .i64 t.N, .string t.S, .string t.Z, .int .i64 t.T.K, .int .i64 t.T.N, .slice a1 l1 c1, .slice a2 l2 c2, .slice a3 l3 c3] 34)).alloc (.cells #[.int .i64 t'.K, .int .i64 t'.N, .string t'.S, .string t'.Z, .int .i64 t'.T.K, .int .i64 t'.T.N, .slice b1 m1 d1, .slice b2 m2 d2, .slice b3 m3 d3] 34)) := ⟨_, rfl⟩
  have hbel : Below w.heap.size w X := by rw [hX]; exact ((Below.refl _ _).alloc (Nat.le_refl _) _).alloc (by simp) _
  have hXs : X.heap.size = w.heap.size + 2 := by rw [hX]; simp
  have hX0 : X.heap[w.heap.size]? = some (.cells #[.int .i64 t.K, .int .i64 t.N, .string t.S, .string t.Z, .int .i64 t.T.K, .int .i64 t.T.N, .slice a1 l1 c1, .slice a2 l2 c2, .slice a3 l3 c3] 34 (0, 0)) := by rw [hX, Below.heap_alloc _ _ _ (by simp)]; exact heap_new rfl
  have hX1 : X.heap[w.heap.size + 1]? = some (.cells #[.int .i64 t'.K, .int .i64 t'.N, .string t'.S, .string t'.Z, .int .i64 t'.T.K, .int .i64 t'.T.N, .slice b1 m1 d1, .slice b2 m2 d2, .slice b3 m3 d3] 34 (0, 0)) := by rw [hX]; exact heap_new (by simp)
  have HX : Hid (X = _) := hX
  have HB : Hid (b = true ↔ _) := hb
  clear hX hb
  go_enter Tryz.func40, Tryz.ntmps40
  go_wp2_with fail
  rw [← HX.out]
  refine (termOk_any D d L B t _ _ _ _ _ _ _ _ _ _ (by omega) (Fm.below hbel hB hs)).mono ?_
  rintro e w1 ⟨rfl, hb1⟩
  have hz1 := hb1.size
  have hbw1 : Below w.heap.size w w1 := hbel.trans (hb1.mono (by omega))
  have y0 := (hb1.block _ (by omega)).trans hX0
  have y1 := (hb1.block _ (by omega)).trans hX1
  obtain ⟨f0, f1, f2, f3, f4, f5, f6, f7, f8⟩ := Nine.box y0
  obtain ⟨g0, g1, g2, g3, g4, g5, g6, g7, g8⟩ := Nine.box y1
  simp only [Nat.zero_add] at f1 f2 f3 f4 f5 f6 f7 f8 g1 g2 g3 g4 g5 g6 g7 g8
  go_wp2_with fail
  refine (termOk_any D d L' B' t' _ _ _ _ _ _ _ _ _ _ (by omega) (Fm.below hbw1 hB' hs')).mono ?_
  rintro e w2 ⟨rfl, hb2⟩
  have hz2 := hb2.size
  have hbw2 : Below w.heap.size w w2 := hbw1.trans (hb2.mono (by omega))
  replace y0 := (hb2.block _ (by omega)).trans y0
  replace y1 := (hb2.block _ (by omega)).trans y1
  clear f0 f1 f2 f3 f4 f5 f6 f7 f8 g0 g1 g2 g3 g4 g5 g6 g7 g8
  obtain ⟨f0, f1, f2, f3, f4, f5, f6, f7, f8⟩ := Nine.box y0
  obtain ⟨g0, g1, g2, g3, g4, g5, g6, g7, g8⟩ := Nine.box y1
  simp only [Nat.zero_add] at f1 f2 f3 f4 f5 f6 f7 f8 g1 g2 g3 g4 g5 g6 g7 g8
  have HE : Hid (t = t' → okM t = okM t') := fun h => by rw [h]
  cases h1 : okM t
  all_goals cases h2 : okM t'
  · clear h1 h2 HE hX0 hX1
    obtain ⟨bs, ⟨p1, p2, p3, hbs, q1, q2, q3, q4, q5⟩, hnd, hrng⟩ := ho
    have hin : ∀ x ∈ bs, x < w.heap.size := fun x hx => Nat.lt_of_lt_of_le (hrng x hx).2 hB
    have hk : ∀ x ∈ bs, w2.heap[x]? = w.heap[x]? := fun x hx => hbw2.block x (hin x hx)
    have HI : Hid (ImOk w2 D d L' B' ⟨t, a1, l1, c1, a2, l2, c2, a3, l3, c3, p1, p2, p3, t', b1, m1, d1, b2, m2, d2, b3, m3, d3⟩) := by
      refine ⟨q1, q2, q3.keep fun x hx => hk x (by rw [hbs]; simp [hx]), q4.keep fun x hx => hk x (by rw [hbs]; simp [hx]), q5.keep fun x hx => hk x (by rw [hbs]; simp [hx]), Fm.below hbw2 hB' hs'⟩
    have HND : Hid ((p1 ++ p2 ++ p3).Nodup) := by show (p1 ++ p2 ++ p3).Nodup; rw [← hbs]; exact hnd
    have HRN : Hid (∀ x ∈ p1 ++ p2 ++ p3, x < w2.heap.size) := fun x hx => Nat.lt_of_lt_of_le (hin x (by rw [hbs]; exact hx)) hbw2.size
    clear hin hk q1 q2 q3 q4 q5 hnd hrng hbs
    go_wp2_with fail
    refine (sameAnyTerm_any D d L' B' ⟨t, a1, l1, c1, a2, l2, c2, a3, l3, c3, p1, p2, p3, t', b1, m1, d1, b2, m2, d2, b3, m3, d3⟩ b _ (by omega) HI.out HND.out HRN.out HB.out hc).mono ?_
    rintro e w3 ⟨rfl, hb3⟩
    go_wp2_with fail
    go_ret
    exact ⟨rfl, hbw2.trans (hb3.mono (by omega))⟩
  · have HF : Hid (b = false) := by
      show _ = _
      rw [Bool.eq_false_iff]; intro h
      have := HE.out (HB.out.1 h)
      rw [h1, h2] at this; cases this
    clear h1 h2
    go_wp2_with fail
    go_ret
    exact ⟨ret_bool HF.out.symm, hbw2⟩
  · have HF : Hid (b = false) := by
      show _ = _
      rw [Bool.eq_false_iff]; intro h
      have := HE.out (HB.out.1 h)
      rw [h1, h2] at this; cases this
    clear h1 h2
    go_wp2_with fail
    go_ret
    exact ⟨ret_bool HF.out.symm, hbw2⟩
  · clear h1 h2 HE
    go_wp2_with fail
    refine (rtM_any d D L B L' B' t t' _ _ _ _ _ _ _ _ _ _ _ _ _ _ _ _ _ _ b _ (by omega) (by omega) (Fm.below hbw2 hB hs) (Fm.below hbw2 hB' hs') HB.out).mono ?_
    rintro e w3 ⟨rfl, hb3⟩
    go_wp2_with fail
    go_ret
    exact ⟨rfl, hbw2.trans (hb3.mono (by omega))⟩

end Go.Proofs.YtibbdhmbgnjmoaaGreat

/-
  What 'FoldAll' comes to, of the program and of the model.
-/
namespace Go.Proofs.YtibbdhmbgnjmoaaGreat
open Go.RowKit
set_option linter.unusedVariables false
set_option linter.unusedSimpArgs false

theorem foldT_ok {t : Tm} (h : okM t = true) : foldT t = foldM t := by unfold foldT; rw [if_pos h]
theorem foldT_idem {t : Tm} (h : okM t = true) : foldT (foldM t) = foldM t := by rw [foldT_ok (okM_fold h), foldM_idem]

set_option maxRecDepth 100000 in
set_option maxHeartbeats 4000000 in
theorem foldAll_any (D d L B : Nat) (t : Tm) (a1 : Option Addr) (l1 c1 : Nat) (a2 : Option Addr) (l2 c2 : Nat) (a3 : Option Addr) (l3 c3 : Nat) (w : World) (hB : B ≤ w.heap.size) (hf : FmO L B w D d t a1 l1 a2 l2 a3 l3) (hc : cntM t ≤ 1048576) :
    Calls Tryz.prog 13 #[.agg #[.int .i64 t.K, .int .i64 t.N, .string t.S, .string t.Z, .int .i64 t.T.K, .int .i64 t.T.N, .slice a1 l1 c1, .slice a2 l2 c2, .slice a3 l3 c3]] w fun e w' => ∃ D' d', NewM w D' d' (foldT t) e w' := by
  obtain ⟨X, hX⟩ : ∃ X, X = (w.alloc (.cells #[.int .i64 t.K, .int .i64 t.N, .string t.S, .string t.Z, .int .i64 t.T.K, .int .i64 t.T.N, .slice a1 l1 c1, .slice a2 l2 c2, .slice a3 l3 c3] 34)).alloc (.cells #[.int .i64 0, .int .i64 0, .string ⟨#[]⟩, .string ⟨#[]⟩, .int .i64 0, .int .i64 0, .slice none 0 0, .slice none 0 0, .slice none 0 0] 34) := ⟨_, rfl⟩
  have hXb : Below w.heap.size w X := by rw [hX]; exact bX_alloc (bX_alloc (Below.refl _ _))
  have hX0 : X.heap[w.heap.size]? = some (.cells #[.int .i64 t.K, .int .i64 t.N, .string t.S, .string t.Z, .int .i64 t.T.K, .int .i64 t.T.N, .slice a1 l1 c1, .slice a2 l2 c2, .slice a3 l3 c3] 34 (0, 0)) := by rw [hX, Below.heap_alloc _ _ _ (by simp)]; exact heap_new rfl
  have hX1 : X.heap[w.heap.size + 1]? = some (.cells #[.int .i64 0, .int .i64 0, .string ⟨#[]⟩, .string ⟨#[]⟩, .int .i64 0, .int .i64 0, .slice none 0 0, .slice none 0 0, .slice none 0 0] 34 (0, 0)) := by rw [hX]; exact heap_new (by simp)
  have hXs : X.heap.size = w.heap.size + 2 := by rw [hX]; simp
  have HX : Hid (X = _) := hX
  clear hX
  cases hok : okM t with
  | false =>
    have e : foldT t = t := by unfold foldT; rw [hok]; rfl
    rw [e]
    have HF : Hid (okM t = false) := hok
    clear hok e
    go_enter Tryz.func13, Tryz.ntmps13
    go_wp2_with fail
    rw [← HX.out]
    refine (termOk_any D d L B t _ _ _ _ _ _ _ _ _ X (by omega) (Fm.below hXb hB hf.fm)).mono ?_
    rintro e w1 ⟨rfl, hb1⟩
    rw [HF.out]
    have hz1 := hb1.size
    have hbw1 : Below w.heap.size w w1 := hXb.trans (hb1.mono hXb.size)
    have y0 := (hb1.block w.heap.size (by omega)).trans hX0
    have y1 := (hb1.block (w.heap.size + 1) (by omega)).trans hX1
    obtain ⟨f0, f1, f2, f3, f4, f5, f6, f7, f8⟩ := Nine.box y0
    go_wp2_with fail
    refine (ownTerm_any D d L B t _ _ _ _ _ _ _ _ _ w1 (by omega) (hf.below hbw1 hB) hc).mono ?_
    rintro e w2 ⟨b1, m1, e1, b2, m2, e2, b3, m3, e3, rfl, hb2, hO2⟩
    have hz2 := hb2.size
    have hbw2 : Below w.heap.size w w2 := hbw1.trans (hb2.mono hbw1.size)
    have y2 := (hb2.block (w.heap.size + 1) (by omega)).trans y1
    clear f0 f1 f2 f3 f4 f5 f6 f7 f8
    obtain ⟨p0, p1, p2, p3, p4, p5, p6, p7, p8⟩ := Nine.box y2
    have pf := row_free y2
    go_wp2_with fail
    refine bodyPost_ret (v := .agg #[.int .i64 t.K, .int .i64 t.N, .string t.S, .string t.Z, .int .i64 t.T.K, .int .i64 t.T.N, .slice b1 m1 e1, .slice b2 m2 e2, .slice b3 m3 e3]) (by simp [results, Tryz.results13, go_sem, p0, p1, p2, p3, p4, p5, p6, p7, p8]) rfl ?_
    exact ⟨D, d, fin_new hO2 (by omega) hbw2⟩
  | true =>
    obtain ⟨R, hR⟩ : ∃ R, foldM t = R := ⟨_, rfl⟩
    have hT : foldT t = R := by rw [foldT_ok hok]; exact hR
    have hI : foldT R = R := by rw [← hR]; exact foldT_idem hok
    have hRc : cntM R ≤ 1048576 := by rw [← hR]; exact Nat.le_trans (foldM_cnt _ t (Nat.le_refl _)) hc
    rw [hT]
    have HF : Hid (okM t = true) := hok
    have HT : Hid (foldT t = R ∧ foldT R = R) := ⟨hT, hI⟩
    clear hok hR hT hI
    go_enter Tryz.func13, Tryz.ntmps13
    go_wp2_with fail
    rw [← HX.out]
    refine (termOk_any D d L B t _ _ _ _ _ _ _ _ _ X (by omega) (Fm.below hXb hB hf.fm)).mono ?_
    rintro e w1 ⟨rfl, hb1⟩
    rw [HF.out]
    have hz1 := hb1.size
    have hbw1 : Below w.heap.size w w1 := hXb.trans (hb1.mono hXb.size)
    have y0 := (hb1.block w.heap.size (by omega)).trans hX0
    have y1 := (hb1.block (w.heap.size + 1) (by omega)).trans hX1
    obtain ⟨f0, f1, f2, f3, f4, f5, f6, f7, f8⟩ := Nine.box y0
    have K1 := fold_any D d L B t a1 l1 c1 a2 l2 c2 a3 l3 c3 w1 (by omega) (hf.below hbw1 hB) hc
    rw [HT.out.1] at K1
    go_wp2_with fail
    refine K1.mono ?_
    rintro e w2 ⟨D2, d2, b1, m1, e1, b2, m2, e2, b3, m3, e3, rfl, hb2, hO2⟩
    have hz2 := hb2.size
    have hbw2 : Below w.heap.size w w2 := hbw1.trans (hb2.mono hbw1.size)
    obtain ⟨Y, hY⟩ : ∃ Y, Y = w2.alloc (.cells #[.int .i64 R.K, .int .i64 R.N, .string R.S, .string R.Z, .int .i64 R.T.K, .int .i64 R.T.N, .slice b1 m1 e1, .slice b2 m2 e2, .slice b3 m3 e3] 34) := ⟨_, rfl⟩
    have hYb : Below w2.heap.size w2 Y := by rw [hY]; exact bX_alloc (Below.refl _ _)
    have hYs : Y.heap.size = w2.heap.size + 1 := by rw [hY]; simp
    have hYn : Y.heap[w2.heap.size]? = some (.cells #[.int .i64 R.K, .int .i64 R.N, .string R.S, .string R.Z, .int .i64 R.T.K, .int .i64 R.T.N, .slice b1 m1 e1, .slice b2 m2 e2, .slice b3 m3 e3] 34 (0, 0)) := by rw [hY]; exact heap_new rfl
    have hbY : Below w.heap.size w Y := hbw2.trans (hYb.mono hbw2.size)
    have yR := (hYb.block (w.heap.size + 1) (by omega)).trans ((hb2.block (w.heap.size + 1) (by omega)).trans y1)
    have hOY : FmO w1.heap.size w2.heap.size Y D2 d2 R b1 m1 b2 m2 b3 m3 := hO2.below hYb (Nat.le_refl _)
    have K2 := fold_any D2 d2 w1.heap.size w2.heap.size R b1 m1 e1 b2 m2 e2 b3 m3 e3 Y (by omega) hOY hRc
    rw [HT.out.2] at K2
    have HK2 : Hid (Calls _ _ _ _ _) := K2
    have HY : Hid (Y = _) := hY
    clear f0 f1 f2 f3 f4 f5 f6 f7 f8 K1 K2 hY y0 y1 hO2
    go_wp2_with fail
    rw [← HY.out]
    go_loopw [12] (fun y wr => y = .int .i64 0 ∧ wr = Y) (fun _ _ => 0)
    case atStart => exact ⟨rfl, rfl⟩
    case round =>
      obtain ⟨rfl, rfl⟩ := hrel
      obtain ⟨f0, f1, f2, f3, f4, f5, f6, f7, f8⟩ := Nine.box hYn
      go_wp2_with fail
      refine HK2.out.mono ?_
      rintro e w4 ⟨D4, d4, x1, n1, i1, x2, n2, i2, x3, n3, i3, rfl, hb4, hO4⟩
      have hz4 := hb4.size
      obtain ⟨Z, hZ⟩ : ∃ Z, Z = w4.alloc (.cells #[.int .i64 R.K, .int .i64 R.N, .string R.S, .string R.Z, .int .i64 R.T.K, .int .i64 R.T.N, .slice x1 n1 i1, .slice x2 n2 i2, .slice x3 n3 i3] 34) := ⟨_, rfl⟩
      have hZb : Below w4.heap.size w4 Z := by rw [hZ]; exact bX_alloc (Below.refl _ _)
      have hZn : Z.heap[w4.heap.size]? = some (.cells #[.int .i64 R.K, .int .i64 R.N, .string R.S, .string R.Z, .int .i64 R.T.K, .int .i64 R.T.N, .slice x1 n1 i1, .slice x2 n2 i2, .slice x3 n3 i3] 34 (0, 0)) := by rw [hZ]; exact heap_new rfl
      have hZs : Z.heap.size = w4.heap.size + 1 := by rw [hZ]; simp
      have hYZ := hb4.trans (hZb.mono hz4)
      have hZw := (hYZ.block w2.heap.size (by omega)).trans hYn
      have hZr := (hYZ.block (w.heap.size + 1) (by omega)).trans yR
      have hOZ : FmO w1.heap.size w2.heap.size Z D2 d2 R b1 m1 b2 m2 b3 m3 := hOY.keep (fun k _ hk => hYZ.block k (by omega)) (Nat.le_refl _) (Nat.le_refl _)
      have K3 := sameTerm_any (max D2 D4) (max d2 d4) _ _ _ _ R R x1 n1 i1 x2 n2 i2 x3 n3 i3 b1 m1 e1 b2 m2 e2 b3 m3 e3 true Z (show w4.heap.size ≤ Z.heap.size by omega) (show w2.heap.size ≤ Z.heap.size by omega) ((hO4.below hZb (Nat.le_refl _)).deep2 (Nat.le_max_right _ _) (Nat.le_max_right _ _)) (Fm.deep2 hOZ.fm (Nat.le_max_left _ _) (Nat.le_max_left _ _)) (by simp) hRc
      have HZ : Hid (Z = _) := hZ
      have HK3 : Hid (Calls _ _ _ _ _) := K3
      have hzlt : w2.heap.size < w4.heap.size := by omega
      obtain ⟨j0, j1, j2, j3, j4, j5, j6, j7, j8⟩ := Nine.box ((hb4.block w2.heap.size (by omega)).trans hYn)
      clear f0 f1 f2 f3 f4 f5 f6 f7 f8 K3 hZ
      obtain ⟨f0, f1, f2, f3, f4, f5, f6, f7, f8⟩ := Nine.box hZw
      obtain ⟨g0, g1, g2, g3, g4, g5, g6, g7, g8⟩ := Nine.box hZn
      go_wp2_with fail
      rw [← HZ.out]
      refine HK3.out.mono ?_
      rintro e w5 ⟨rfl, hb5⟩
      have hz5 := hb5.size
      have y5 := (hb5.block w2.heap.size (by omega)).trans hZw
      have r5 := (hb5.block (w.heap.size + 1) (by omega)).trans hZr
      have hbw5 : Below w.heap.size w w5 := hbY.trans ((hYZ.trans (hb5.mono (by omega))).mono hbY.size)
      have hO5 : FmO (w.heap.size + 2) w5.heap.size w5 D2 d2 R b1 m1 b2 m2 b3 m3 := hOZ.keep (fun k _ hk => hb5.block k (by omega)) (by omega) (by omega)
      clear f0 f1 f2 f3 f4 f5 f6 f7 f8 g0 g1 g2 g3 g4 g5 g6 g7 g8 j0 j1 j2 j3 j4 j5 j6 j7 j8
      obtain ⟨f0, f1, f2, f3, f4, f5, f6, f7, f8⟩ := Nine.box y5
      obtain ⟨p0, p1, p2, p3, p4, p5, p6, p7, p8⟩ := Nine.box r5
      have pf := row_free r5
      go_wp2_with fail
      refine bodyPost_ret (v := .agg #[.int .i64 R.K, .int .i64 R.N, .string R.S, .string R.Z, .int .i64 R.T.K, .int .i64 R.T.N, .slice b1 m1 e1, .slice b2 m2 e2, .slice b3 m3 e3]) (by simp [results, Tryz.results13, go_sem, p0, p1, p2, p3, p4, p5, p6, p7, p8]) rfl ?_
      exact ⟨_, _, fin_new hO5 (Nat.le_refl _) hbw5⟩

end Go.Proofs.YtibbdhmbgnjmoaaGreat

/-
  What the model's 'FoldAll' comes to.
-/
namespace Go.Proofs.YtibbdhmbgnjmoaaGreat
open Go.RowKit
set_option linter.unusedVariables false
set_option linter.unusedSimpArgs false

/-- Nine cells of a box are written. -/
theorem box_nine {w : World} {q : Nat} {x0 x1 x2 x3 x4 x5 x6 x7 x8 : Value} {t : TypeId} {fr : Nat × Nat} (h : w.heap[q]? = some (.cells #[x0, x1, x2, x3, x4, x5, x6, x7, x8] t fr)) (a0 a1 a2 a3 a4 a5 a6 a7 a8 : Value) :
    (((((((((w.setCell ⟨q, 0, none⟩ a0).setCell ⟨q, 1, none⟩ a1).setCell ⟨q, 2, none⟩ a2).setCell ⟨q, 3, none⟩ a3).setCell ⟨q, 4, none⟩ a4).setCell ⟨q, 5, none⟩ a5).setCell ⟨q, 6, none⟩ a6).setCell ⟨q, 7, none⟩ a7).setCell ⟨q, 8, none⟩ a8).heap[q]? = some (.cells #[a0, a1, a2, a3, a4, a5, a6, a7, a8] t fr) := by
  have := row_set (row_set (row_set (row_set (row_set (row_set (row_set (row_set (row_set h 0 a0) 1 a1) 2 a2) 3 a3) 4 a4) 5 a5) 6 a6) 7 a7) 8 a8
  simpa using this

theorem box_nine_other {w : World} {q k : Nat} (hk : k ≠ q) (a0 a1 a2 a3 a4 a5 a6 a7 a8 : Value) :
    (((((((((w.setCell ⟨q, 0, none⟩ a0).setCell ⟨q, 1, none⟩ a1).setCell ⟨q, 2, none⟩ a2).setCell ⟨q, 3, none⟩ a3).setCell ⟨q, 4, none⟩ a4).setCell ⟨q, 5, none⟩ a5).setCell ⟨q, 6, none⟩ a6).setCell ⟨q, 7, none⟩ a7).setCell ⟨q, 8, none⟩ a8).heap[k]? = w.heap[k]? := by
  simp only [row_other _ _ _ hk]

theorem box_nine_below {w x : World} {B q : Nat} (hb : Below B x w) (hq : B ≤ q) (a0 a1 a2 a3 a4 a5 a6 a7 a8 : Value) :
    Below B x (((((((((w.setCell ⟨q, 0, none⟩ a0).setCell ⟨q, 1, none⟩ a1).setCell ⟨q, 2, none⟩ a2).setCell ⟨q, 3, none⟩ a3).setCell ⟨q, 4, none⟩ a4).setCell ⟨q, 5, none⟩ a5).setCell ⟨q, 6, none⟩ a6).setCell ⟨q, 7, none⟩ a7).setCell ⟨q, 8, none⟩ a8) :=
  ((((((((hb.setCell (p := ⟨q, 0, none⟩) hq _).setCell (p := ⟨q, 1, none⟩) hq _).setCell (p := ⟨q, 2, none⟩) hq _).setCell (p := ⟨q, 3, none⟩) hq _).setCell (p := ⟨q, 4, none⟩) hq _).setCell (p := ⟨q, 5, none⟩) hq _).setCell (p := ⟨q, 6, none⟩) hq _).setCell (p := ⟨q, 7, none⟩) hq _).setCell (p := ⟨q, 8, none⟩) hq _

/-- What the model's loop has in memory: q: the box of the term at hand, u. -/
structure FaS (w wr : World) (q D d : Nat) (u : Tm) (b1 : Option Addr) (m1 e1 : Nat) (b2 : Option Addr) (m2 e2 : Nat) (b3 : Option Addr) (m3 e3 : Nat) : Prop where
  bel : Below w.heap.size w wr
  ql : w.heap.size + 2 ≤ q
  box : wr.heap[q]? = some (.cells #[.int .i64 u.K, .int .i64 u.N, .string u.S, .string u.Z, .int .i64 u.T.K, .int .i64 u.T.N, .slice b1 m1 e1, .slice b2 m2 e2, .slice b3 m3 e3] 34 (0, 0))
  res : wr.heap[w.heap.size + 1]? = some (.cells #[.int .i64 0, .int .i64 0, .string ⟨#[]⟩, .string ⟨#[]⟩, .int .i64 0, .int .i64 0, .slice none 0 0, .slice none 0 0, .slice none 0 0] 34 (0, 0))
  f : FmO (w.heap.size + 2) wr.heap.size wr D d u b1 m1 b2 m2 b3 m3

set_option maxRecDepth 100000 in
set_option maxHeartbeats 4000000 in
theorem sFoldAll_any (D d L B : Nat) (t : Tm) (a1 : Option Addr) (l1 c1 : Nat) (a2 : Option Addr) (l2 c2 : Nat) (a3 : Option Addr) (l3 c3 : Nat) (w : World) (hB : B ≤ w.heap.size) (hf : Fm L B w D d t a1 l1 a2 l2 a3 l3) (hc : cntM t ≤ 1048576) :
    Calls Tryz.prog 12 #[.agg #[.int .i64 t.K, .int .i64 t.N, .string t.S, .string t.Z, .int .i64 t.T.K, .int .i64 t.T.N, .slice a1 l1 c1, .slice a2 l2 c2, .slice a3 l3 c3]] w fun e w' => ∃ D' d', NewM w D' d' (foldT t) e w' := by
  obtain ⟨X, hX⟩ : ∃ X, X = (w.alloc (.cells #[.int .i64 t.K, .int .i64 t.N, .string t.S, .string t.Z, .int .i64 t.T.K, .int .i64 t.T.N, .slice a1 l1 c1, .slice a2 l2 c2, .slice a3 l3 c3] 34)).alloc (.cells #[.int .i64 0, .int .i64 0, .string ⟨#[]⟩, .string ⟨#[]⟩, .int .i64 0, .int .i64 0, .slice none 0 0, .slice none 0 0, .slice none 0 0] 34) := ⟨_, rfl⟩
  have hXb : Below w.heap.size w X := by rw [hX]; exact bX_alloc (bX_alloc (Below.refl _ _))
  have hX0 : X.heap[w.heap.size]? = some (.cells #[.int .i64 t.K, .int .i64 t.N, .string t.S, .string t.Z, .int .i64 t.T.K, .int .i64 t.T.N, .slice a1 l1 c1, .slice a2 l2 c2, .slice a3 l3 c3] 34 (0, 0)) := by rw [hX, Below.heap_alloc _ _ _ (by simp)]; exact heap_new rfl
  have hX1 : X.heap[w.heap.size + 1]? = some (.cells #[.int .i64 0, .int .i64 0, .string ⟨#[]⟩, .string ⟨#[]⟩, .int .i64 0, .int .i64 0, .slice none 0 0, .slice none 0 0, .slice none 0 0] 34 (0, 0)) := by rw [hX]; exact heap_new (by simp)
  have hXs : X.heap.size = w.heap.size + 2 := by rw [hX]; simp
  have HX : Hid (X = _) := hX
  clear hX
  obtain ⟨Q, hQ⟩ : ∃ Q, foldT t = Q := ⟨_, rfl⟩
  rw [hQ]
  have HQ : Hid (foldT t = Q) := hQ
  clear hQ
  go_enter Tryz.func12, Tryz.ntmps12
  go_wp2_with fail
  rw [← HX.out]
  refine (lm_any D d L B t _ _ _ _ _ _ _ _ _ X (by omega) (Fm.below hXb hB hf) hc).mono ?_
  rintro e w1 ⟨b1, m1, e1, b2, e2, b3, e3, rfl, hb1, hO1⟩
  have hz1 := hb1.size
  have hbw1 : Below w.heap.size w w1 := hXb.trans (hb1.mono hXb.size)
  have y0 := (hb1.block w.heap.size (by omega)).trans hX0
  have y1 := (hb1.block (w.heap.size + 1) (by omega)).trans hX1
  obtain ⟨Y, hY⟩ : ∃ Y, Y = w1.alloc (.cells #[.int .i64 t.K, .int .i64 t.N, .string t.S, .string t.Z, .int .i64 t.T.K, .int .i64 t.T.N, .slice b1 m1 e1, .slice b2 l2 e2, .slice b3 l3 e3] 34) := ⟨_, rfl⟩
  have hYb : Below w1.heap.size w1 Y := by rw [hY]; exact bX_alloc (Below.refl _ _)
  have hYn : Y.heap[w1.heap.size]? = some (.cells #[.int .i64 t.K, .int .i64 t.N, .string t.S, .string t.Z, .int .i64 t.T.K, .int .i64 t.T.N, .slice b1 m1 e1, .slice b2 l2 e2, .slice b3 l3 e3] 34 (0, 0)) := by rw [hY]; exact heap_new rfl
  have hYs : Y.heap.size = w1.heap.size + 1 := by rw [hY]; simp
  have hbY : Below w.heap.size w Y := hbw1.trans (hYb.mono hbw1.size)
  have hY0 := (hYb.block w.heap.size (by omega)).trans y0
  have hY1 := (hYb.block (w.heap.size + 1) (by omega)).trans y1
  have hOY : FmO X.heap.size w1.heap.size Y (D + 1) d t b1 m1 b2 l2 b3 l3 := hO1.below hYb (Nat.le_refl _)
  have HY : Hid (Y = _) := hY
  obtain ⟨f0, f1, f2, f3, f4, f5, f6, f7, f8⟩ := Nine.box y0
  have hlt1 : w.heap.size < w1.heap.size := by omega
  clear hY hO1
  go_wp2_with fail
  rw [← HY.out]
  clear f0 f1 f2 f3 f4 f5 f6 f7 f8
  refine (sTermOk_any D d L B t _ _ _ _ _ _ _ _ _ Y (by omega) (Fm.below hbY hB hf)).mono ?_
  rintro e w2 ⟨rfl, hb2⟩
  have hz2 := hb2.size
  have hS : FaS w w2 w1.heap.size (D + 1) d t b1 m1 e1 b2 l2 e2 b3 l3 e3 := ⟨hbY.trans (hb2.mono hbY.size), by omega, (hb2.block _ (by omega)).trans hYn, (hb2.block _ (by omega)).trans hY1, hOY.keep (fun k _ hk => hb2.block k (by omega)) (by omega) (by omega)⟩
  clear hXb hX0 hX1 HX hb1 hbw1 y0 y1 hYb hYn hY0 hY1 hOY HY hb2 hbY
  generalize w1.heap.size = q at *
  cases hok : okM t with
  | false =>
    have HE : Hid (t = Q) := by have := HQ.out; unfold foldT at this; rw [hok] at this; exact this
    have HF : Hid (okM t = false) := hok
    clear hok
    obtain ⟨f0, f1, f2, f3, f4, f5, f6, f7, f8⟩ := Nine.box hS.box
    obtain ⟨p0, p1, p2, p3, p4, p5, p6, p7, p8⟩ := Nine.box hS.res
    have pf := row_free hS.res
    go_wp2_with fail
    refine bodyPost_ret (v := .agg #[.int .i64 t.K, .int .i64 t.N, .string t.S, .string t.Z, .int .i64 t.T.K, .int .i64 t.T.N, .slice b1 m1 e1, .slice b2 l2 e2, .slice b3 l3 e3]) (by simp [results, Tryz.results12, go_sem, p0, p1, p2, p3, p4, p5, p6, p7, p8]) rfl ?_
    rw [← HE.out]
    exact ⟨_, _, fin_new hS.f (Nat.le_refl _) hS.bel⟩
  | true =>
    have hT : foldM t = Q := by have := HQ.out; rw [foldT_ok hok] at this; exact this
    have HT : Hid (foldM t = Q ∧ foldM Q = Q ∧ okM t = true ∧ okM Q = true ∧ cntM t ≤ 1048576 ∧ cntM Q ≤ 1048576) := ⟨hT, by rw [← hT]; exact foldM_idem t, hok, by rw [← hT]; exact okM_fold hok, hc, by rw [← hT]; exact Nat.le_trans (foldM_cnt _ t (Nat.le_refl _)) hc⟩
    clear hT hok HQ
    go_wp2_with fail
    go_loopw [4] (fun y wr => ∃ (i : Nat) (u : Tm), y = .int .i64 i ∧ (i = 0 ∧ u = t ∨ i = 1 ∧ u = Q) ∧ ∃ D' d' x1 n1 i1 x2 n2 i2 x3 n3 i3, FaS w wr q D' d' u x1 n1 i1 x2 n2 i2 x3 n3 i3) (fun y _ => 2 - (intOf y).toNat)
    case atStart => exact ⟨0, t, rfl, Or.inl ⟨rfl, rfl⟩, _, _, _, _, _, _, _, _, _, _, _, hS⟩
    case round =>
      obtain ⟨i, u, rfl, hiu, D', d', x1, n1, i1, x2, n2, i2, x3, n3, i3, hI⟩ := hrel
      have hi1 : i ≤ 1 := by rcases hiu with h | h <;> omega
      have hu : foldM u = Q ∧ okM u = true ∧ cntM u ≤ 1048576 := by
        have h := HT.out
        rcases hiu with ⟨_, rfl⟩ | ⟨_, rfl⟩
        · exact ⟨h.1, h.2.2.1, h.2.2.2.2.1⟩
        · exact ⟨h.2.1, h.2.2.2.1, h.2.2.2.2.2⟩
      obtain ⟨m, hm, hm6⟩ := okM_some hu.2.1
      have K1 := sf_any 24 D' d' (w.heap.size + 2) wr.heap.size u x1 n1 i1 x2 n2 i2 x3 n3 i3 m wr (Nat.le_refl _) hI.f.fm hm (by omega) hm6 hu.2.2
      rw [hu.1] at K1
      have HK1 : Hid (Calls _ _ _ _ _) := K1
      have HU : Hid (i = 0 ∧ u = t ∨ i = 1 ∧ u = Q) := hiu
      have hi2 : (i : Int) < 150 := by omega
      have hqr : q < wr.heap.size := (Array.getElem?_eq_some_iff.1 hI.box).1
      obtain ⟨f0, f1, f2, f3, f4, f5, f6, f7, f8⟩ := Nine.box hI.box
      clear K1 hu hm hm6 hiu hS
      go_wp2_with fail
      refine HK1.out.mono ?_
      rintro e w4 ⟨D4, d4, z1, j1, r1, z2, j2, r2, z3, j3, r3, rfl, hb4, hO4⟩
      have hz4 := hb4.size
      obtain ⟨Z, hZ⟩ : ∃ Z, Z = w4.alloc (.cells #[.int .i64 Q.K, .int .i64 Q.N, .string Q.S, .string Q.Z, .int .i64 Q.T.K, .int .i64 Q.T.N, .slice z1 j1 r1, .slice z2 j2 r2, .slice z3 j3 r3] 34) := ⟨_, rfl⟩
      have hZb : Below w4.heap.size w4 Z := by rw [hZ]; exact bX_alloc (Below.refl _ _)
      have hZn : Z.heap[w4.heap.size]? = some (.cells #[.int .i64 Q.K, .int .i64 Q.N, .string Q.S, .string Q.Z, .int .i64 Q.T.K, .int .i64 Q.T.N, .slice z1 j1 r1, .slice z2 j2 r2, .slice z3 j3 r3] 34 (0, 0)) := by rw [hZ]; exact heap_new rfl
      have hZs : Z.heap.size = w4.heap.size + 1 := by rw [hZ]; simp
      have hrZ := hb4.trans (hZb.mono hz4)
      have hZq := (hrZ.block q hqr).trans hI.box
      have hZr := (hrZ.block (w.heap.size + 1) (by have := hI.ql; omega)).trans hI.res
      have hIZ : FmO (w.heap.size + 2) wr.heap.size Z D' d' u x1 n1 x2 n2 x3 n3 := hI.f.keep (fun k _ hk => hrZ.block k hk) (Nat.le_refl _) (Nat.le_refl _)
      have hO4Z : FmO wr.heap.size w4.heap.size Z D4 d4 Q z1 j1 z2 j2 z3 j3 := hO4.below hZb (Nat.le_refl _)
      obtain ⟨b, hbq⟩ : ∃ b : Bool, b = true ↔ Q = u := by
        by_cases e : Q = u
        · exact ⟨true, by simp [e]⟩
        · exact ⟨false, by simp [e]⟩
      have K2 := ssm_any (max d' d4) (max D' D4) _ _ _ _ Q u z1 j1 r1 z2 j2 r2 z3 j3 r3 x1 n1 i1 x2 n2 i2 x3 n3 i3 b Z (show w4.heap.size ≤ Z.heap.size by omega) (show wr.heap.size ≤ Z.heap.size by omega) (Fm.deep2 hO4Z.fm (Nat.le_max_right _ _) (Nat.le_max_right _ _)) (Fm.deep2 hIZ.fm (Nat.le_max_left _ _) (Nat.le_max_left _ _)) hbq
      have HZ : Hid (Z = _) := hZ
      have HK2 : Hid (Calls _ _ _ _ _) := K2
      have HB : Hid (b = true ↔ Q = u) := hbq
      have hq4 : q < w4.heap.size := by omega
      obtain ⟨k0, k1, k2, k3, k4, k5, k6, k7, k8⟩ := Nine.box ((hb4.block q hqr).trans hI.box)
      clear f0 f1 f2 f3 f4 f5 f6 f7 f8 K2 hZ hbq HK1
      obtain ⟨f0, f1, f2, f3, f4, f5, f6, f7, f8⟩ := Nine.box hZq
      obtain ⟨g0, g1, g2, g3, g4, g5, g6, g7, g8⟩ := Nine.box hZn
      go_wp2_with fail
      rw [← HZ.out]
      refine HK2.out.mono ?_
      rintro e w5 ⟨rfl, hb5⟩
      have hz5 := hb5.size
      have hql := hI.ql
      have y5 := (hb5.block q (by omega)).trans hZq
      have r5 := (hb5.block (w.heap.size + 1) (by omega)).trans hZr
      have v5 := (hb5.block w4.heap.size (by omega)).trans hZn
      have hbw5 : Below w.heap.size w w5 := hI.bel.trans ((hrZ.trans (hb5.mono (by omega))).mono hI.bel.size)
      have hI5 : FmO (w.heap.size + 2) w5.heap.size w5 D' d' u x1 n1 x2 n2 x3 n3 := hIZ.keep (fun k _ hk => hb5.block k (by omega)) (by omega) (by omega)
      have hO5 : FmO wr.heap.size w4.heap.size w5 D4 d4 Q z1 j1 z2 j2 z3 j3 := hO4Z.keep (fun k _ hk => hb5.block k (by omega)) (by omega) (by omega)
      clear f0 f1 f2 f3 f4 f5 f6 f7 f8 g0 g1 g2 g3 g4 g5 g6 g7 g8 k0 k1 k2 k3 k4 k5 k6 k7 k8
      obtain ⟨f0, f1, f2, f3, f4, f5, f6, f7, f8⟩ := Nine.box y5
      cases b with
      | true =>
        have HE : Hid (Q = u) := HB.out.1 rfl
        obtain ⟨p0, p1, p2, p3, p4, p5, p6, p7, p8⟩ := Nine.box r5
        have pf := row_free r5
        go_wp2_with fail
        refine bodyPost_ret (v := .agg #[.int .i64 u.K, .int .i64 u.N, .string u.S, .string u.Z, .int .i64 u.T.K, .int .i64 u.T.N, .slice x1 n1 i1, .slice x2 n2 i2, .slice x3 n3 i3]) (by simp [results, Tryz.results12, go_sem, p0, p1, p2, p3, p4, p5, p6, p7, p8]) rfl ?_
        rw [HE.out]
        exact ⟨_, _, fin_new hI5 (Nat.le_refl _) hbw5⟩
      | false =>
        have hi0 : i = 0 := by
          rcases HU.out with ⟨h, _⟩ | ⟨_, h⟩
          · exact h
          · have := HB.out.2 h.symm
            cases this
        obtain ⟨g0, g1, g2, g3, g4, g5, g6, g7, g8⟩ := Nine.box v5
        have qf := row_free y5
        have hnext : FaS w (((((((((w5.setCell ⟨q, 0, none⟩ (.int .i64 Q.K)).setCell ⟨q, 1, none⟩ (.int .i64 Q.N)).setCell ⟨q, 2, none⟩ (.string Q.S)).setCell ⟨q, 3, none⟩ (.string Q.Z)).setCell ⟨q, 4, none⟩ (.int .i64 Q.T.K)).setCell ⟨q, 5, none⟩ (.int .i64 Q.T.N)).setCell ⟨q, 6, none⟩ (.slice z1 j1 r1)).setCell ⟨q, 7, none⟩ (.slice z2 j2 r2)).setCell ⟨q, 8, none⟩ (.slice z3 j3 r3)) q D4 d4 Q z1 j1 r1 z2 j2 r2 z3 j3 r3 :=
          ⟨box_nine_below hbw5 (by omega) _ _ _ _ _ _ _ _ _, hql, box_nine y5 _ _ _ _ _ _ _ _ _, (box_nine_other (by omega) _ _ _ _ _ _ _ _ _).trans r5, hO5.keep (fun k hk1 hk2 => box_nine_other (by omega) _ _ _ _ _ _ _ _ _) (by omega) (by simp; omega)⟩
        have HN : Hid (FaS _ _ _ _ _ _ _ _ _ _ _ _ _ _ _) := hnext
        clear hnext hI5 hO5 hO4Z hIZ
        go_wp2_with fail
        go_roundw
        case rel => exact ⟨1, Q, rfl, Or.inr ⟨rfl, rfl⟩, _, _, _, _, _, _, _, _, _, _, _, HN.out⟩
        case measure => simp [intOf]; omega

end Go.Proofs.YtibbdhmbgnjmoaaGreat

/-
  Rows of names: held against each other; marked; and whether they still bear their marks.
-/
namespace Go.Proofs.YtibbdhmbgnjmoaaGreat
open Go.RowKit
set_option linter.unusedVariables false
set_option linter.unusedSimpArgs false

theorem tk_inj {a b : List UInt8} (h : tk a = tk b) : a = b := by
  unfold tk at h
  injection h with h
  have := congrArg (fun s : ByteArray => s.data.toList) h
  simpa using this
theorem tk_list (a : List UInt8) : (⟨a.toArray⟩ : ByteArray).toList = a := by rw [ByteArray.toList_eq]

theorem below_drewN {B : Nat} {w wr : World} (h : Below B w wr) (n : Nat) : Below B w (wr.drewN n) := ⟨h.os, h.tape, h.output, h.size, h.block⟩

/-- Digits of n ahead of acc. -/
def dg : Nat → Nat → List UInt8 → List UInt8
  | 0, _, acc => acc
  | f + 1, n, acc => if n = 0 then acc else dg f (n / 10) (UInt8.ofNat (48 + n % 10) :: acc)
theorem dg_zero (f : Nat) (acc : List UInt8) : dg f 0 acc = acc := by cases f <;> simp [dg]
theorem dg_step (f n : Nat) (acc : List UInt8) (h : 0 < n) (hf : n < f) : dg f n acc = dg (f - 1) (n / 10) (UInt8.ofNat (48 + n % 10) :: acc) := by
  cases f with
  | zero => omega
  | succ f => simp [dg]; intro e; omega

/-- The text of a mark. -/
def mt (k : Nat) : List UInt8 := if k = 0 then [109, 48] else 109 :: dg (k + 1) k []

theorem conv_byte (w : World) (g : Nat) (b : UInt8) (x : Int) (hx : x = (b.toNat : Int)) (hg : g = w.heap.size) : (convert 108 9 (.slice (some ⟨g, 0, none⟩) 1 1)).run Tryz.prog (w.alloc (.cells #[.int .u8 x] 5)) = .ok (.string ⟨#[b]⟩) (w.alloc (.cells #[.int .u8 x] 5)) := by
  refine run_convert_bytes_back _ _ _ _ ⟨g, 0, none⟩ 1 [b] Tryz.underlying108 Tryz.underlying5 Tryz.underlying9 ?_
  intro j hj
  have hj0 : j = 0 := by simpa using hj
  subst hj0
  show (w.alloc _).cell? ⟨g, 0, none⟩ = _
  rw [row_cell (heap_new hg), hx]
  rfl

theorem str_cons (b : UInt8) (a : List UInt8) : (⟨#[b]⟩ : ByteArray) ++ ⟨a.toArray⟩ = ⟨(b :: a).toArray⟩ := by
  apply ByteArray.ext
  simp

set_option maxRecDepth 100000 in
set_option maxHeartbeats 1000000 in
theorem markText_any (k : Nat) (hk : k ≤ 4611686018427387904) (w : World) : Calls Tryz.prog 63 #[.int .i64 k] w fun e w' => e = .returned (tk (mt k)) ∧ Below w.heap.size w w' := by
  by_cases h0 : k = 0
  · subst h0
    go_enter Tryz.func63, Tryz.ntmps63
    go_wp2_with fail
    go_ret
    exact ⟨rfl, Below.refl _ _⟩
  · have hb : ¬ (k : Int) ≤ 0 := by omega
    have HM : Hid (mt k = 109 :: dg (k + 1) k []) := by show _ = _; simp [mt, h0]
    clear h0
    go_enter Tryz.func63, Tryz.ntmps63
    go_wp2_with fail
    go_loopw [0, 3] (fun kk o wr => ∃ (n f : Nat) (acc : List UInt8), kk = .int .i64 n ∧ o = .string ⟨acc.toArray⟩ ∧ n < f ∧ n + acc.length ≤ 4611686018427387904 ∧ Below w.heap.size w wr ∧ Hid (dg f n acc = dg (k + 1) k [])) (fun kk _ _ => (intOf kk).toNat)
    case atStart => exact ⟨k, k + 1, [], rfl, rfl, by omega, by simpa using hk, Below.refl _ _, rfl⟩
    case round =>
      obtain ⟨n, f, acc, rfl, rfl, hf, hl, hbr, HD⟩ := hrel
      by_cases hn : 0 < n
      · obtain ⟨b, hbv⟩ : ∃ b : UInt8, b = UInt8.ofNat (48 + n % 10) := ⟨_, rfl⟩
        have hx : 48 + (n : Int) % 10 = ((b.toNat : Nat) : Int) := by
          have : b.toNat = 48 + n % 10 := by rw [hbv]; simp; omega
          rw [this]; omega
        have hcv := conv_byte wr wr.heap.size b (48 + (n : Int) % 10) hx rfl
        have HD2 : Hid (dg (f - 1) (n / 10) (b :: acc) = dg (k + 1) k []) := by show _ = _; rw [← HD.out, dg_step f n acc hn hf, hbv]
        have hdv : n / 10 < n := by omega
        have hla : acc.length ≤ 4611686018427387904 := by omega
        clear hbv hx
        go_wp2_with fail
        go_roundw
        case rel => exact ⟨n / 10, f - 1, b :: acc, by go_num, by rw [str_cons], by omega, by simp only [List.length_cons]; omega, hbr.alloc (by have := hbr.size; omega) _, HD2⟩
        case measure => simp [intOf]; omega
      · have hn0 : n = 0 := by omega
        subst hn0
        rw [dg_zero] at HD
        have hla : acc.length ≤ 4611686018427387904 := by omega
        go_wp2_with fail
        go_ret
        exact ⟨by rw [HM.out, ← HD.out]; exact congrArg Ending.returned (congrArg Value.string (str_cons 109 acc)), hbr⟩

end Go.Proofs.YtibbdhmbgnjmoaaGreat
