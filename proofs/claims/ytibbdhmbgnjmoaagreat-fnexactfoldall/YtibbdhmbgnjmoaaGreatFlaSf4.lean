/-
  The model's 'l14Fold': the copy, and its parts folded one after the other.
-/
import Derived.Test.YtibbdhmbgnjmoaaGreatFlaZ34
import Derived.Test.YtibbdhmbgnjmoaaGreatFlaZ35
import Derived.Test.YtibbdhmbgnjmoaaGreatFlaLf2
import Derived.Test.YtibbdhmbgnjmoaaGreatFlaFd7
import Derived.Deep.Cut
import Derived.Deep.CutRange
namespace Go.Proofs.YtibbdhmbgnjmoaaGreat
open Go.RowKit
set_option linter.unusedVariables false
set_option linter.unusedSimpArgs false

theorem toks_lit2 {base : Nat} {w : World} {g : Nat} (hg : w.heap[g]? = some (.cells #[] 9 (0, 0))) (hb : base ≤ g) : Toks base w (.slice (some ⟨g, 0, none⟩) 0 0) [] :=
  ⟨rfl, Or.inr ⟨g, 0, #[], rfl, hb, hg, by simp, by unfold maxLen; simp, by simp, by simp⟩⟩

def SaidSf (l : Nat) : Prop := ∀ (D d L B : Nat) (t : Tm) (a1 : Option Addr) (l1 c1 : Nat) (a2 : Option Addr) (l2 c2 : Nat) (a3 : Option Addr) (l3 c3 : Nat) (m : Nat) (w : World), B ≤ w.heap.size → Fm L B w D d t a1 l1 a2 l2 a3 l3 → nodesM l t = some m → l ≤ 24 → m ≤ 150 → cntM t ≤ 1048576 →
    Calls Tryz.prog 19 #[.agg #[.int .i64 t.K, .int .i64 t.N, .string t.S, .string t.Z, .int .i64 t.T.K, .int .i64 t.T.N, .slice a1 l1 c1, .slice a2 l2 c2, .slice a3 l3 c3]] w fun e w' => ∃ D' d', NewM w D' d' (foldM t) e w'

/-- What the walk over the copy's parts has in memory: q the copy's block. -/
structure LfS (w wr : World) (q : Nat) (D d : Nat) (t : Tm) (cs zs : Array Value) (b1 : Option Addr) (m1 e1 : Nat) (b2 : Option Addr) (m2 e2 : Nat) (b3 : Option Addr) (m3 e3 : Nat) (i : Nat) : Prop where
  bel : Below w.heap.size w wr
  box : wr.heap[w.heap.size]? = some (.cells cs 34 (0, 0))
  res : wr.heap[w.heap.size + 1]? = some (.cells zs 34 (0, 0))
  cpy : wr.heap[q]? = some (.cells #[.int .i64 t.K, .int .i64 t.N, .string t.S, .string t.Z, .int .i64 t.T.K, .int .i64 t.T.N, .slice b1 m1 e1, .slice b2 m2 e2, .slice b3 m3 e3] 34 (0, 0))
  ql : w.heap.size + 2 ≤ q
  f : FmP (fun b => b ≠ w.heap.size ∧ b ≠ w.heap.size + 1 ∧ b ≠ q) w.heap.size wr.heap.size wr D (d + 1) (mixM t i) b1 m1 b2 m2 b3 m3

theorem lfs_next {w wr w2 : World} {q D' d' D2 d2 : Nat} {t : Tm} {cs zs : Array Value} {b1 : Option Addr} {m1 e1 : Nat} {b2 : Option Addr} {m2 e2 : Nat} {g m3 e3 i : Nat} (hI : LfS w wr q D' d' t cs zs b1 m1 e1 b2 m2 e2 (some ⟨g, 0, none⟩) m3 e3 i) (hi : i < t.A.length) (hg : w.heap.size ≤ g) (hgne : g ≠ w.heap.size ∧ g ≠ w.heap.size + 1 ∧ g ≠ q) (hb : Below wr.heap.size wr w2) {x : Tm} (hx : x = foldM t.A[i]) {z1 z2 z3 : Option Addr} {j1 j2 j3 r1 r2 r3 : Nat} (ho : FmO wr.heap.size w2.heap.size w2 D2 d2 x z1 j1 z2 j2 z3 j3) :
    ∃ D3 d3, LfS w (((((((((w2.setCell ⟨g, i * 9, none⟩ (.int .i64 x.K)).setCell ⟨g, i * 9 + 1, none⟩ (.int .i64 x.N)).setCell ⟨g, i * 9 + 2, none⟩ (.string x.S)).setCell ⟨g, i * 9 + 3, none⟩ (.string x.Z)).setCell ⟨g, i * 9 + 4, none⟩ (.int .i64 x.T.K)).setCell ⟨g, i * 9 + 5, none⟩ (.int .i64 x.T.N)).setCell ⟨g, i * 9 + 6, none⟩ (.slice z1 j1 r1)).setCell ⟨g, i * 9 + 7, none⟩ (.slice z2 j2 r2)).setCell ⟨g, i * 9 + 8, none⟩ (.slice z3 j3 r3)) q D3 d3 t cs zs b1 m1 e1 b2 m2 e2 (some ⟨g, 0, none⟩) m3 e3 (i + 1) := by
  have hch : (((((((((w2.setCell ⟨g, i * 9, none⟩ (.int .i64 x.K)).setCell ⟨g, i * 9 + 1, none⟩ (.int .i64 x.N)).setCell ⟨g, i * 9 + 2, none⟩ (.string x.S)).setCell ⟨g, i * 9 + 3, none⟩ (.string x.Z)).setCell ⟨g, i * 9 + 4, none⟩ (.int .i64 x.T.K)).setCell ⟨g, i * 9 + 5, none⟩ (.int .i64 x.T.N)).setCell ⟨g, i * 9 + 6, none⟩ (.slice z1 j1 r1)).setCell ⟨g, i * 9 + 7, none⟩ (.slice z2 j2 r2)).setCell ⟨g, i * 9 + 8, none⟩ (.slice z3 j3 r3)) = (set9 w2 g (i * 9) (.int .i64 x.K) (.int .i64 x.N) (.string x.S) (.string x.Z) (.int .i64 x.T.K) (.int .i64 x.T.N) (.slice z1 j1 r1) (.slice z2 j2 r2) (.slice z3 j3 r3)) := rfl
  rw [hch]
  have hqr : q < wr.heap.size := (Array.getElem?_eq_some_iff.1 hI.cpy).1
  have hsr := hI.bel.size
  have hql := hI.ql
  have hz := hb.size
  have hlm : i < (mixM t i).A.length := by rw [mix_len t i (by omega)]; exact hi
  have h1 : FmP (fun b => b ≠ w.heap.size ∧ b ≠ w.heap.size + 1 ∧ b ≠ q) w.heap.size wr.heap.size wr (max D' D2) (max d' d2 + 1) (mixM t i) b1 m1 b2 m2 (some ⟨g, 0, none⟩) m3 := hI.f.deep2 (Nat.le_max_left _ _) (by have := Nat.le_max_left d' d2; omega)
  have h2 := fmp_put (B := w2.heap.size) (w1 := w2) (i1 := r1) (i2 := r2) (i3 := r3) h1 (fun k hk _ => hb.block k hk) hz hsr (ho.deep2 (Nat.le_max_right _ _) (Nat.le_max_right _ _)) (fun k hk _ => by refine ⟨?_, ?_, ?_⟩ <;> omega) i hlm
  have hm : ({ mixM t i with A := (mixM t i).A.set i x } : Tm) = mixM t (i + 1) := by rw [hx, mix_set t i hi]; rfl
  rw [hm] at h2
  refine ⟨max D' D2, max d' d2, set9_below (hI.bel.trans (hb.mono hsr)) hg, (set9_other _ (fun e => hgne.1 e.symm)).trans ((hb.block _ (by omega)).trans hI.box), (set9_other _ (fun e => hgne.2.1 e.symm)).trans ((hb.block _ (by omega)).trans hI.res), (set9_other _ (fun e => hgne.2.2 e.symm)).trans ((hb.block _ hqr).trans hI.cpy), hql, ?_⟩
  rw [set9_size]
  exact h2

/-- What is answered out of the copy, laid into the result's block. -/
theorem fin_out {w w3 : World} {q B3 D d : Nat} {R : Tm} {b1 b2 b3 : Option Addr} {m1 m2 m3 e1 e2 e3 : Nat} (hf : FmP (fun b => b ≠ w.heap.size ∧ b ≠ w.heap.size + 1 ∧ b ≠ q) w.heap.size B3 w3 D d R b1 m1 b2 m2 b3 m3) (hB : B3 ≤ w3.heap.size) (hb : Below w.heap.size w w3) {v0 v1 v2 v3 v4 v5 v6 v7 v8 : Value} :
    ∃ D' d', NewM w D' d' R (.returned (.agg #[.int .i64 R.K, .int .i64 R.N, .string R.S, .string R.Z, .int .i64 R.T.K, .int .i64 R.T.N, .slice b1 m1 e1, .slice b2 m2 e2, .slice b3 m3 e3])) (((((((((w3.setCell ⟨w.heap.size + 1, 0, none⟩ v0).setCell ⟨w.heap.size + 1, 1, none⟩ v1).setCell ⟨w.heap.size + 1, 2, none⟩ v2).setCell ⟨w.heap.size + 1, 3, none⟩ v3).setCell ⟨w.heap.size + 1, 4, none⟩ v4).setCell ⟨w.heap.size + 1, 5, none⟩ v5).setCell ⟨w.heap.size + 1, 6, none⟩ v6).setCell ⟨w.heap.size + 1, 7, none⟩ v7).setCell ⟨w.heap.size + 1, 8, none⟩ v8) := by
  have hfp : FmP (fun b => b ≠ w.heap.size + 1) w.heap.size B3 w3 D d R b1 m1 b2 m2 b3 m3 := by
    obtain ⟨bs, q1, q2, q3⟩ := hf
    exact ⟨bs, q1, q2, fun b hb => ⟨(q3 b hb).1, (q3 b hb).2.2.1⟩⟩
  obtain ⟨h1, h2⟩ := finF (B0 := w.heap.size) (v0 := v0) (v1 := v1) (v2 := v2) (v3 := v3) (v4 := v4) (v5 := v5) (v6 := v6) (v7 := v7) (v8 := v8) hfp hb (Nat.le_succ _) hB
  exact ⟨D, d, b1, m1, e1, b2, m2, e2, b3, m3, e3, rfl, h1, h2⟩

theorem new_drew {w W : World} {R : Tm} {e : Ending} (h : ∃ D' d', NewM w D' d' R e W) : ∃ D' d', NewM w D' d' R e W.drew := by
  obtain ⟨D', d', b1, m1, e1, b2, m2, e2, b3, m3, e3, h1, h2, h3⟩ := h
  exact ⟨D', d', b1, m1, e1, b2, m2, e2, b3, m3, e3, h1, h2.drew, h3.keep (fun _ _ _ => rfl) (Nat.le_refl _) (Nat.le_refl _)⟩

set_option maxRecDepth 100000 in
set_option maxHeartbeats 8000000 in
theorem sf_loop (l : Nat) (IH : SaidSf l) (D d L B : Nat) (t : Tm) (a1 : Option Addr) (l1 c1 : Nat) (a2 : Option Addr) (l2 c2 : Nat) (a3 : Option Addr) (l3 c3 : Nat) (m : Nat) (w : World) (hB : B ≤ w.heap.size) (hf : Fm L B w D d t a1 l1 a2 l2 a3 l3) (hm : nodesM (l + 1) t = some m) (hl24 : l + 1 ≤ 24) (hm150 : m ≤ 150) (hc : cntM t ≤ 1048576) :
    Calls Tryz.prog 19 #[.agg #[.int .i64 t.K, .int .i64 t.N, .string t.S, .string t.Z, .int .i64 t.T.K, .int .i64 t.T.N, .slice a1 l1 c1, .slice a2 l2 c2, .slice a3 l3 c3]] w fun e w' => ∃ D' d', NewM w D' d' (foldM t) e w' := by
  obtain ⟨X, hX⟩ : ∃ X, X = (w.alloc (.cells #[.int .i64 t.K, .int .i64 t.N, .string t.S, .string t.Z, .int .i64 t.T.K, .int .i64 t.T.N, .slice a1 l1 c1, .slice a2 l2 c2, .slice a3 l3 c3] 34)).alloc (.cells #[.int .i64 0, .int .i64 0, .string ⟨#[]⟩, .string ⟨#[]⟩, .int .i64 0, .int .i64 0, .slice none 0 0, .slice none 0 0, .slice none 0 0] 34) := ⟨_, rfl⟩
  have hXb : Below w.heap.size w X := by rw [hX]; exact bX_alloc (bX_alloc (Below.refl _ _))
  have hX0 : X.heap[w.heap.size]? = some (.cells #[.int .i64 t.K, .int .i64 t.N, .string t.S, .string t.Z, .int .i64 t.T.K, .int .i64 t.T.N, .slice a1 l1 c1, .slice a2 l2 c2, .slice a3 l3 c3] 34 (0, 0)) := by rw [hX, Below.heap_alloc _ _ _ (by simp)]; exact heap_new rfl
  have hX1 : X.heap[w.heap.size + 1]? = some (.cells #[.int .i64 0, .int .i64 0, .string ⟨#[]⟩, .string ⟨#[]⟩, .int .i64 0, .int .i64 0, .slice none 0 0, .slice none 0 0, .slice none 0 0] 34 (0, 0)) := by rw [hX]; exact heap_new (by simp)
  have hXs : X.heap.size = w.heap.size + 2 := by rw [hX]; simp
  have HX : Hid (X = _) := hX
  obtain ⟨R, hR⟩ : ∃ R, foldM t = R := ⟨_, rfl⟩
  rw [hR]
  have HR : Hid (foldM t = R) := hR
  have HL : Hid (l3 = t.A.length) := hf.m.len.1
  clear hX hR
  go_enter Tryz.func19, Tryz.ntmps19
  go_wp2_with fail
  rw [← HX.out]
  refine (lm_any D d L B t _ _ _ _ _ _ _ _ _ X (by omega) (Fm.below hXb hB hf) hc).mono ?_
  rintro e w1 ⟨b1, m1, e1, b2, e2, b3, e3, rfl, hb1, ho⟩
  have hz1 := hb1.size
  obtain ⟨Y, hY⟩ : ∃ Y, Y = w1.alloc (.cells #[.int .i64 t.K, .int .i64 t.N, .string t.S, .string t.Z, .int .i64 t.T.K, .int .i64 t.T.N, .slice b1 m1 e1, .slice b2 l2 e2, .slice b3 l3 e3] 34) := ⟨_, rfl⟩
  have hYb : Below w1.heap.size w1 Y := by rw [hY]; exact bX_alloc (Below.refl _ _)
  have hYs : Y.heap.size = w1.heap.size + 1 := by rw [hY]; simp
  have hbw1 : Below w.heap.size w w1 := hXb.trans (hb1.mono hXb.size)
  have h0 : Hid (LfS w Y w1.heap.size (D + 1) d t #[.int .i64 t.K, .int .i64 t.N, .string t.S, .string t.Z, .int .i64 t.T.K, .int .i64 t.T.N, .slice a1 l1 c1, .slice a2 l2 c2, .slice a3 l3 c3] #[.int .i64 0, .int .i64 0, .string ⟨#[]⟩, .string ⟨#[]⟩, .int .i64 0, .int .i64 0, .slice none 0 0, .slice none 0 0, .slice none 0 0] b1 m1 e1 b2 l2 e2 b3 l3 e3 0) := by
    refine ⟨hbw1.trans (hYb.mono hbw1.size), (hYb.block _ (by omega)).trans ((hb1.block _ (by omega)).trans hX0), (hYb.block _ (by omega)).trans ((hb1.block _ (by omega)).trans hX1), by rw [hY]; exact heap_new rfl, by omega, ?_⟩
    rw [mix_zero]
    obtain ⟨bs, q1, q2, q3⟩ := ho.deep2 (D' := D + 1) (d' := d + 1) (by omega) (by omega)
    exact ⟨bs, FldO.keep (fun b hb => hYb.block b (q3 b hb).2) q1, q2, fun b hb => by have := q3 b hb; exact ⟨⟨by omega, by omega⟩, by omega, by omega, by omega⟩⟩
  have HY : Hid (Y = _) := hY
  clear hY
  go_wp2_with fail
  rw [← HY.out]
  obtain ⟨hnode, hparts⟩ := nodesM_get hm
  clear hb1 ho hYb hYs hbw1 hX0 hX1 HX hXb hXs hz1
  have HQ : Hid (w1.heap.size = w1.heap.size) := rfl
  generalize w1.heap.size = q at *
  have hl3 : l3 ≤ 9223372036854775807 := hf.m.len.2
  go_loopw [4] (fun y wr => ∃ i : Nat, y = .int .i64 i ∧ i ≤ l3 ∧ ∃ D' d', LfS w wr q D' d' t #[.int .i64 t.K, .int .i64 t.N, .string t.S, .string t.Z, .int .i64 t.T.K, .int .i64 t.T.N, .slice a1 l1 c1, .slice a2 l2 c2, .slice a3 l3 c3] #[.int .i64 0, .int .i64 0, .string ⟨#[]⟩, .string ⟨#[]⟩, .int .i64 0, .int .i64 0, .slice none 0 0, .slice none 0 0, .slice none 0 0] b1 m1 e1 b2 l2 e2 b3 l3 e3 i) (fun y _ => l3 - (intOf y).toNat)
  case atStart => exact ⟨0, rfl, by omega, _, _, h0.out⟩
  case round =>
    obtain ⟨i, rfl, hi, D', d', hI⟩ := hrel
    have hql := hI.ql
    have hqr : q < wr.heap.size := (Array.getElem?_eq_some_iff.1 hI.cpy).1
    by_cases hlt : i < l3
    · have hlt' : i < t.A.length := by have := HL.out; omega
      have hlm : i < (mixM t i).A.length := by rw [mix_len t i (by omega)]; exact hlt'
      obtain ⟨g, rfl, hgL, hgB, x1, n1, i1, x2, n2, i2, x3, n3, i3, h9, hfp⟩ := fmo_part hI.f i hlm
      have hgne : g ≠ w.heap.size ∧ g ≠ w.heap.size + 1 ∧ g ≠ q := by
        obtain ⟨bs, ⟨p1, p2, p3, rfl, _, _, _, _, hA⟩, _, hbd⟩ := hI.f
        rcases hA with ⟨_, hA, _⟩ | ⟨g', cs, bss, hg', hl, hmm, hg, hcc, hbl, rfl, hE⟩
        · rw [hA] at hlm; simp at hlm
        · cases hg'
          exact (hbd g (by simp)).2
      obtain ⟨cs, hgc, hgs⟩ : ∃ cs, wr.heap[g]? = some (.cells cs 34 (0, 0)) ∧ (i + 1) * 9 ≤ cs.size := by
        obtain ⟨bs, ⟨p1, p2, p3, rfl, _, _, _, _, hA⟩, _, hbd⟩ := hI.f
        rcases hA with ⟨_, hA, _⟩ | ⟨g', cs, bss, hg', hl, hmm, hg, hcc, hbl, rfl, hE⟩
        · rw [hA] at hlm; simp at hlm
        · cases hg'
          exact ⟨cs, hg, by omega⟩
      rw [mix_get t i hlt' hlm] at h9 hfp
      have hcp := cntM_part hlt'
      obtain ⟨k, hk1, hk2⟩ := hparts i hlt'
      have c8 := row_cell hI.cpy 8
      obtain ⟨y0, y1, y2, y3, y4, y5, y6, y7, y8⟩ := h9
      have HC : Hid (∀ W : World, Below wr.heap.size wr W → Calls Tryz.prog 19 #[.agg #[.int .i64 t.A[i].K, .int .i64 t.A[i].N, .string t.A[i].S, .string t.A[i].Z, .int .i64 t.A[i].T.K, .int .i64 t.A[i].T.N, .slice x1 n1 i1, .slice x2 n2 i2, .slice x3 n3 i3]] W fun e w' => ∃ D2 d2, NewM W D2 d2 (foldM t.A[i]) e w') := fun W hW =>
        IH D' (d' + 1) w.heap.size wr.heap.size t.A[i] x1 n1 i1 x2 n2 i2 x3 n3 i3 k W hW.size (Fm.keep (fun b _ hb => hW.block b hb) (Nat.le_refl _) (Nat.le_refl _) hfp.fmo.fm) hk1 (by omega) (by omega) (by omega)
      have hiI : (0 : Int) ≤ (i : Int) := by omega
      have hil : (i : Int) < (l3 : Int) := by omega
      have gf := row_free hgc
      clear hfp
      go_wp2_with fail
      go_region_law (go_simp; go_at_call 19; refine (HC.out _ (Below.refl _ _).drew).mono ?_; rintro e w2 ⟨D2, d2, z1, j1, r1, z2, j2, r2, z3, j3, r3, rfl, hb2, ho2⟩; have c8' := (bcell hb2 hqr 8).trans c8; have u0 := (bcell hb2 hgB _).trans y0; have u1 := (bcell hb2 hgB _).trans y1; have u2 := (bcell hb2 hgB _).trans y2; have u3 := (bcell hb2 hgB _).trans y3; have u4 := (bcell hb2 hgB _).trans y4; have u5 := (bcell hb2 hgB _).trans y5; have u6 := (bcell hb2 hgB _).trans y6; have u7 := (bcell hb2 hgB _).trans y7; have u8 := (bcell hb2 hgB _).trans y8; have uf := row_free ((hb2.block g hgB).trans hgc))
      all_goals
        have hnx := lfs_next (r1 := r1) (r2 := r2) (r3 := r3) hI hlt' hgL hgne (((Below.refl _ _).drew).trans (hb2.mono (Nat.le_refl _))) rfl ho2
        go_wp2_with fail
        go_roundw
        case rel => exact ⟨i + 1, by go_num, by omega, hnx⟩
        case measure => simp [intOf]; omega
    · obtain rfl : i = l3 := by omega
      obtain ⟨mu, hmu, hmul, _⟩ := fold_nodes (l + 1) t m hm
      have hu : FmP (fun b => b ≠ w.heap.size ∧ b ≠ w.heap.size + 1 ∧ b ≠ q) w.heap.size wr.heap.size wr D' (d' + 1) (upM t) b1 m1 b2 l2 b3 i := by
        have := hI.f
        rw [HL.out, mix_all, ← HL.out] at this
        exact this
      have hR2 : fold1 (upM t) = R := by rw [← foldM_eq]; exact HR.out
      have hbw := hI.bel
      obtain ⟨f0, f1, f2, f3, f4, f5, f6, f7, f8⟩ := Nine.box hI.box
      obtain ⟨p0, p1, p2, p3, p4, p5, p6, p7, p8⟩ := Nine.box hI.res
      have pf := row_free hI.res
      obtain ⟨g0, g1, g2, g3, g4, g5, g6, g7, g8⟩ := Nine.box hI.cpy
      obtain ⟨hun, hup⟩ := nodesM_get hmu
      have huk := nodeM_kinds hun
      by_cases k15 : t.K = 15
      · have hlen : (upM t).A.length = 2 := by have := huk.2.2; rw [show (upM t).K = 15 from k15] at this; simp [shP] at this; omega
        have hfd : fold1 (upM t) = fdOp (upM t) := by unfold fold1; rw [if_pos (show (upM t).K = 15 from k15)]
        have hpn : ∀ j (hj : j < (upM t).A.length), nodeM (upM t).A[j] = true := fun j hj => by
          obtain ⟨a, h1, _⟩ := hup j hj
          cases l with
          | zero => simp [nodesM] at h1
          | succ l => exact (nodesM_get h1).1
        have hrg := nodeM_range hun
        rw [show (upM t).K = 15 from k15] at hrg
        simp [shL, shM] at hrg
        have HC := l14Op_any (fun b => b ≠ w.heap.size ∧ b ≠ w.heap.size + 1 ∧ b ≠ q) D' (d' + 1) w.heap.size wr.heap.size (upM t) b1 m1 e1 b2 l2 e2 b3 i e3 wr (Nat.le_refl _) hu hlen hrg
          (fun h0 => by rw [pa_eq (by omega)] at h0 ⊢; have := nodeM_range (hpn 0 (by omega)); rw [h0] at this; simpa [shL, shM] using this)
          (fun h0 => by rw [pa_eq (by omega)] at h0 ⊢; have := nodeM_range (hpn 1 (by omega)); rw [h0] at this; simpa [shL, shM] using this)
        rw [← hfd, hR2] at HC
        have HCL : Hid (Calls _ _ _ _ _) := HC
        have hres := hI.res
        have HK : Hid (t.K = 15) := k15
        have hkb : (t.K == 15) = true := by simp [k15]
        clear HC hfd hR2 hun hup huk hrg hpn hmu hu k15 hparts
        go_wp2_with fail
        refine HCL.out.mono ?_
        rintro e w3 ⟨x1, n1, i1, x2, n2, i2, x3, n3, i3, rfl, hb3, hfp⟩
        have hbw3 : Below w.heap.size w w3 := hbw.trans (hb3.mono hbw.size)
        have y1 := (hb3.block (w.heap.size + 1) (by omega)).trans hres
        clear p0 p1 p2 p3 p4 p5 p6 p7 p8 pf
        obtain ⟨p0, p1, p2, p3, p4, p5, p6, p7, p8⟩ := Nine.box y1
        have pf := row_free y1
        go_wp2_with fail
        refine bodyPost_ret (v := .agg #[.int .i64 R.K, .int .i64 R.N, .string R.S, .string R.Z, .int .i64 R.T.K, .int .i64 R.T.N, .slice x1 n1 i1, .slice x2 n2 i2, .slice x3 n3 i3]) (by simp [results, Tryz.results19, go_sem, p0, p1, p2, p3, p4, p5, p6, p7, p8]) rfl ?_
        exact fin_out hfp hb3.size hbw3
      by_cases k8 : t.K = 8
      · have hfd : fold1 (upM t) = fdIf (upM t) := by unfold fold1; rw [if_neg (show ¬ (upM t).K = 15 from k15), if_pos (show (upM t).K = 8 from k8)]
        have hlen : (upM t).A.length = 3 := by have := huk.2.2; rw [show (upM t).K = 8 from k8] at this; simp [shP] at this; omega
        have hli : i = 3 := by have := HL.out; simp [upM] at hlen; omega
        subst hli
        obtain ⟨gx, hgx, hgL, hgB, x0a, n0a, s0a, x0b, n0b, s0b, x0c, n0c, s0c, h90, hfp0⟩ := fmo_part hu 0 (by omega)
        subst hgx
        obtain ⟨gx1, hgx1, _, _, x1a, n1a, s1a, x1b, n1b, s1b, x1c, n1c, s1c, h91, hfp1⟩ := fmo_part hu 1 (by omega)
        cases hgx1
        obtain ⟨gx2, hgx2, _, _, x2a, n2a, s2a, x2b, n2b, s2b, x2c, n2c, s2c, h92, hfp2⟩ := fmo_part hu 2 (by omega)
        cases hgx2
        have hp0 : pa (upM t) 0 = (upM t).A[0] := pa_eq (by omega)
        have hp1 : pa (upM t) 1 = (upM t).A[1] := pa_eq (by omega)
        have hp2 : pa (upM t) 2 = (upM t).A[2] := pa_eq (by omega)
        have hr0 : (upM t).A[0].K = 2 → (upM t).A[0].N = 0 ∨ (upM t).A[0].N = 1 := fun h0 => by
          obtain ⟨a, h1, _⟩ := hup 0 (by omega)
          cases l with
          | zero => simp [nodesM] at h1
          | succ l => have := nodeM_range (nodesM_get h1).1; rw [h0] at this; simp [shL, shM] at this; omega
        unfold fdIf at hfd
        rw [hfd, hp0, hp1, hp2] at hR2
        have kb15 : (t.K == 15) = false := by simp [k15]
        have kb8 : (t.K == 8) = true := by simp [k8]
        generalize (upM t).A[0] = u0 at *
        generalize (upM t).A[1] = u1 at *
        generalize (upM t).A[2] = u2 at *
        clear hfd hp0 hp1 hp2 hun hup huk hmu hparts k15 k8
        have HR2 : Hid (_ = R) := hR2
        clear hR2
        rw [Nat.zero_mul] at h90
        rw [Nat.one_mul] at h91
        rw [show 2 * 9 = 18 from rfl] at h92
        obtain ⟨q0, q1, q2, q3, q4, q5, q6, q7, q8⟩ := h90
        obtain ⟨o0, o1, o2, o3, o4, o5, o6, o7, o8⟩ := h91
        obtain ⟨d0, d1, d2, d3, d4, d5, d6, d7, d8⟩ := h92
        simp only [Nat.zero_add] at q1 q2 q3 q4 q5 q6 q7 q8
        by_cases hk : u0.K = 2
        · have hkb : (u0.K == 2) = true := by simp [hk]
          have hn := hr0 hk
          have HK : Hid (u0.K = 2) := hk
          clear hk hr0
          rcases hn with hn | hn
          · have HN : Hid (u0.N = 0) := hn
            rw [hn] at q1
            clear hn
            go_wp2_with fail
            clear q2 q3 q4 q5 q6 q7 q8 f0 f1 f2 f3 f4 f5 f6 f7 f8 g0 g1 g2 g3 g4 g5 g6 g7 o0 o1 o2 o3 o4 o5 o6 o7 o8
            go_region
            all_goals
              go_wp2_with fail
              refine bodyPost_ret (v := .agg #[.int .i64 u2.K, .int .i64 u2.N, .string u2.S, .string u2.Z, .int .i64 u2.T.K, .int .i64 u2.T.N, .slice x2a n2a s2a, .slice x2b n2b s2b, .slice x2c n2c s2c]) (by simp [results, Tryz.results19, go_sem, p0, p1, p2, p3, p4, p5, p6, p7, p8]) rfl ?_
              rw [← HR2.out, if_pos HK.out, if_neg (by rw [HN.out]; decide)]
              exact new_drew (fin_out hfp2 (Nat.le_refl _) hbw)
          · have HN : Hid (u0.N = 1) := hn
            rw [hn] at q1
            clear hn
            go_wp2_with fail
            clear q2 q3 q4 q5 q6 q7 q8 f0 f1 f2 f3 f4 f5 f6 f7 f8 g0 g1 g2 g3 g4 g5 g6 g7 d0 d1 d2 d3 d4 d5 d6 d7 d8
            go_region
            all_goals
              go_wp2_with fail
              refine bodyPost_ret (v := .agg #[.int .i64 u1.K, .int .i64 u1.N, .string u1.S, .string u1.Z, .int .i64 u1.T.K, .int .i64 u1.T.N, .slice x1a n1a s1a, .slice x1b n1b s1b, .slice x1c n1c s1c]) (by simp [results, Tryz.results19, go_sem, p0, p1, p2, p3, p4, p5, p6, p7, p8]) rfl ?_
              rw [← HR2.out, if_pos HK.out, if_pos HN.out]
              exact new_drew (fin_out hfp1 (Nat.le_refl _) hbw)
        · have hkb : (u0.K == 2) = false := by simp [hk]
          go_wp2_with fail
          refine bodyPost_ret (v := .agg #[.int .i64 t.K, .int .i64 t.N, .string t.S, .string t.Z, .int .i64 t.T.K, .int .i64 t.T.N, .slice b1 m1 e1, .slice b2 l2 e2, .slice (some ⟨gx, 0, none⟩) 3 e3]) (by simp [results, Tryz.results19, go_sem, p0, p1, p2, p3, p4, p5, p6, p7, p8]) rfl ?_
          rw [← HR2.out, if_neg hk]
          exact fin_out (R := upM t) hu (Nat.le_refl _) hbw
      by_cases k10 : t.K = 10
      · have hfd : fold1 (upM t) = fdFst (upM t) := by unfold fold1; rw [if_neg (show ¬ (upM t).K = 15 from k15), if_neg (show ¬ (upM t).K = 8 from k8), if_pos (show (upM t).K = 10 from k10)]
        have hlen : (upM t).A.length = 1 := by have := huk.2.2; rw [show (upM t).K = 10 from k10] at this; simp [shP] at this; omega
        have hli : i = 1 := by have := HL.out; simp [upM] at hlen; omega
        subst hli
        obtain ⟨gx, hgx, hgL, hgB, x0a, n0a, s0a, x0b, n0b, s0b, x0c, n0c, s0c, h90, hfp0⟩ := fmo_part hu 0 (by omega)
        subst hgx
        have hp0 : pa (upM t) 0 = (upM t).A[0] := pa_eq (by omega)
        have h2 : (upM t).A[0].K = 9 → (upM t).A[0].A.length = 2 := fun h0 => by
          obtain ⟨a, h1, _⟩ := hup 0 (by omega)
          cases l with
          | zero => simp [nodesM] at h1
          | succ l => have := (nodeM_kinds (nodesM_get h1).1).2.2; rw [h0] at this; simp [shP] at this; omega
        unfold fdFst at hfd
        rw [hfd, hp0] at hR2
        have hres := hI.res
        have hcpy := hI.cpy
        generalize (upM t).A[0] = u0 at *
        rw [k10] at f0
        clear hfd hp0 hun hup huk hmu hparts
        have h90' := h90
        rw [Nat.zero_mul] at h90
        obtain ⟨q0, q1, q2, q3, q4, q5, q6, q7, q8⟩ := h90
        simp only [Nat.zero_add] at q1 q2 q3 q4 q5 q6 q7 q8
        by_cases hk : u0.K = 9
        · have hkb : (u0.K == 9) = true := by simp [hk]
          have hl2 := h2 hk
          have HK : Hid (u0.K = 9) := hk
          obtain ⟨k0, hx, hkL, hkB, ya, na, ja, yb, nb, jb, yc, nc, jc, h9a, hfa⟩ := fmo_part hfp0 0 (by omega)
          subst hx
          obtain ⟨k1, hx1, _, _, sa, oa, ia, sb, ob, ib, sc, oc, ic, h9b, hfb⟩ := fmo_part hfp0 1 (by omega)
          cases hx1
          have hm2 : n0c = 2 := by have := hfp0.fmo.fm.m.len.1; omega
          subst hm2
          have hq0 : pa u0 0 = u0.A[0] := pa_eq (by omega)
          have hq1 : pa u0 1 = u0.A[1] := pa_eq (by omega)
          rw [hq0, hq1] at hR2
          have HR2 : Hid (_ = R) := hR2
          clear hk h2 hq0 hq1 hR2 k15 k8 k10
          generalize u0.A[0] = n0 at *
          generalize u0.A[1] = n1 at *
          have hc1 := h9b
          rw [Nat.one_mul] at hc1
          obtain ⟨s0, s1, s2, s3, s4, s5, s6, s7, s8⟩ := hc1
          go_wp2_with fail
          refine (sPure_any D' (d' + 1) w.heap.size wr.heap.size n1 _ _ _ _ _ _ _ _ _ wr (Nat.le_refl _) hfb.fmo.fm).mono ?_
          rintro e w3 ⟨rfl, hb3⟩
          have hbw3 : Below w.heap.size w w3 := hbw.trans (hb3.mono hbw.size)
          have z1 := (hb3.block (w.heap.size + 1) (by omega)).trans hres
          have zc := (hb3.block q hqr).trans hcpy
          clear f0 f1 f2 f3 f4 f5 f6 f7 f8 p0 p1 p2 p3 p4 p5 p6 p7 p8 pf g0 g1 g2 g3 g4 g5 g6 g7 g8 q0 q1 q2 q3 q4 q5 q6 q7 q8 s0 s1 s2 s3 s4 s5 s6 s7 s8
          obtain ⟨p0, p1, p2, p3, p4, p5, p6, p7, p8⟩ := Nine.box z1
          have pf := row_free z1
          obtain ⟨g0, g1, g2, g3, g4, g5, g6, g7, g8⟩ := Nine.box zc
          have E := h90'.below hb3 hgB
          rw [Nat.zero_mul] at E
          obtain ⟨q0, q1, q2, q3, q4, q5, q6, q7, q8⟩ := E
          simp only [Nat.zero_add] at q1 q2 q3 q4 q5 q6 q7 q8
          have E := h9a.below hb3 hkB
          rw [Nat.zero_mul] at E
          obtain ⟨s0, s1, s2, s3, s4, s5, s6, s7, s8⟩ := E
          simp only [Nat.zero_add] at s1 s2 s3 s4 s5 s6 s7 s8
          cases hp : pureM n1
          · go_wp2_with fail
            refine bodyPost_ret (v := .agg #[.int .i64 t.K, .int .i64 t.N, .string t.S, .string t.Z, .int .i64 t.T.K, .int .i64 t.T.N, .slice b1 m1 e1, .slice b2 l2 e2, .slice (some ⟨gx, 0, none⟩) 1 e3]) (by simp [results, Tryz.results19, go_sem, p0, p1, p2, p3, p4, p5, p6, p7, p8]) rfl ?_
            rw [← HR2.out, hp, if_neg (fun h => absurd h.2 (by decide))]
            exact fin_out (R := upM t) (hu.keep (fun k _ hk _ => hb3.block k hk) (Nat.le_refl _) (Nat.le_refl _)) hb3.size hbw3
          · go_wp2_with fail
            refine bodyPost_ret (v := .agg #[.int .i64 n0.K, .int .i64 n0.N, .string n0.S, .string n0.Z, .int .i64 n0.T.K, .int .i64 n0.T.N, .slice ya na ja, .slice yb nb jb, .slice yc nc jc]) (by simp [results, Tryz.results19, go_sem, p0, p1, p2, p3, p4, p5, p6, p7, p8]) rfl ?_
            rw [← HR2.out, hp, if_pos ⟨HK.out, rfl⟩]
            exact fin_out (hfa.keep (fun k _ hk _ => hb3.block k hk) (Nat.le_refl _) (Nat.le_refl _)) hb3.size hbw3
        · have hkb : (u0.K == 9) = false := by simp [hk]
          have HR2 : Hid (_ = R) := hR2
          clear hR2 k15 k8 k10
          go_wp2_with fail
          refine bodyPost_ret (v := .agg #[.int .i64 t.K, .int .i64 t.N, .string t.S, .string t.Z, .int .i64 t.T.K, .int .i64 t.T.N, .slice b1 m1 e1, .slice b2 l2 e2, .slice (some ⟨gx, 0, none⟩) 1 e3]) (by simp [results, Tryz.results19, go_sem, p0, p1, p2, p3, p4, p5, p6, p7, p8]) rfl ?_
          rw [← HR2.out, if_neg (fun h => hk h.1)]
          exact fin_out (R := upM t) hu (Nat.le_refl _) hbw
      by_cases k11 : t.K = 11
      · have hfd : fold1 (upM t) = fdSnd (upM t) := by unfold fold1; rw [if_neg (show ¬ (upM t).K = 15 from k15), if_neg (show ¬ (upM t).K = 8 from k8), if_neg (show ¬ (upM t).K = 10 from k10), if_pos (show (upM t).K = 11 from k11)]
        have hlen : (upM t).A.length = 1 := by have := huk.2.2; rw [show (upM t).K = 11 from k11] at this; simp [shP] at this; omega
        have hli : i = 1 := by have := HL.out; simp [upM] at hlen; omega
        subst hli
        obtain ⟨gx, hgx, hgL, hgB, x0a, n0a, s0a, x0b, n0b, s0b, x0c, n0c, s0c, h90, hfp0⟩ := fmo_part hu 0 (by omega)
        subst hgx
        have hp0 : pa (upM t) 0 = (upM t).A[0] := pa_eq (by omega)
        have h2 : (upM t).A[0].K = 9 → (upM t).A[0].A.length = 2 := fun h0 => by
          obtain ⟨a, h1, _⟩ := hup 0 (by omega)
          cases l with
          | zero => simp [nodesM] at h1
          | succ l => have := (nodeM_kinds (nodesM_get h1).1).2.2; rw [h0] at this; simp [shP] at this; omega
        unfold fdSnd at hfd
        rw [hfd, hp0] at hR2
        have hres := hI.res
        have hcpy := hI.cpy
        generalize (upM t).A[0] = u0 at *
        rw [k11] at f0
        clear hfd hp0 hun hup huk hmu hparts
        have h90' := h90
        rw [Nat.zero_mul] at h90
        obtain ⟨q0, q1, q2, q3, q4, q5, q6, q7, q8⟩ := h90
        simp only [Nat.zero_add] at q1 q2 q3 q4 q5 q6 q7 q8
        by_cases hk : u0.K = 9
        · have hkb : (u0.K == 9) = true := by simp [hk]
          have hl2 := h2 hk
          have HK : Hid (u0.K = 9) := hk
          obtain ⟨k0, hx, hkL, hkB, ya, na, ja, yb, nb, jb, yc, nc, jc, h9a, hfa⟩ := fmo_part hfp0 0 (by omega)
          subst hx
          obtain ⟨k1, hx1, _, _, sa, oa, ia, sb, ob, ib, sc, oc, ic, h9b, hfb⟩ := fmo_part hfp0 1 (by omega)
          cases hx1
          have hm2 : n0c = 2 := by have := hfp0.fmo.fm.m.len.1; omega
          subst hm2
          have hq0 : pa u0 0 = u0.A[0] := pa_eq (by omega)
          have hq1 : pa u0 1 = u0.A[1] := pa_eq (by omega)
          rw [hq0, hq1] at hR2
          have HR2 : Hid (_ = R) := hR2
          clear hk h2 hq0 hq1 hR2 k15 k8 k10 k11
          generalize u0.A[0] = n0 at *
          generalize u0.A[1] = n1 at *
          have hc1 := h9a
          rw [Nat.zero_mul] at hc1
          obtain ⟨s0, s1, s2, s3, s4, s5, s6, s7, s8⟩ := hc1
          simp only [Nat.zero_add] at s1 s2 s3 s4 s5 s6 s7 s8
          go_wp2_with fail
          refine (sPure_any D' (d' + 1) w.heap.size wr.heap.size n0 _ _ _ _ _ _ _ _ _ wr (Nat.le_refl _) hfa.fmo.fm).mono ?_
          rintro e w3 ⟨rfl, hb3⟩
          have hbw3 : Below w.heap.size w w3 := hbw.trans (hb3.mono hbw.size)
          have z1 := (hb3.block (w.heap.size + 1) (by omega)).trans hres
          have zc := (hb3.block q hqr).trans hcpy
          clear f0 f1 f2 f3 f4 f5 f6 f7 f8 p0 p1 p2 p3 p4 p5 p6 p7 p8 pf g0 g1 g2 g3 g4 g5 g6 g7 g8 q0 q1 q2 q3 q4 q5 q6 q7 q8 s0 s1 s2 s3 s4 s5 s6 s7 s8
          obtain ⟨p0, p1, p2, p3, p4, p5, p6, p7, p8⟩ := Nine.box z1
          have pf := row_free z1
          obtain ⟨g0, g1, g2, g3, g4, g5, g6, g7, g8⟩ := Nine.box zc
          have E := h90'.below hb3 hgB
          rw [Nat.zero_mul] at E
          obtain ⟨q0, q1, q2, q3, q4, q5, q6, q7, q8⟩ := E
          simp only [Nat.zero_add] at q1 q2 q3 q4 q5 q6 q7 q8
          have E := h9b.below hb3 hkB
          rw [Nat.one_mul] at E
          obtain ⟨s0, s1, s2, s3, s4, s5, s6, s7, s8⟩ := E
          cases hp : pureM n0
          · go_wp2_with fail
            refine bodyPost_ret (v := .agg #[.int .i64 t.K, .int .i64 t.N, .string t.S, .string t.Z, .int .i64 t.T.K, .int .i64 t.T.N, .slice b1 m1 e1, .slice b2 l2 e2, .slice (some ⟨gx, 0, none⟩) 1 e3]) (by simp [results, Tryz.results19, go_sem, p0, p1, p2, p3, p4, p5, p6, p7, p8]) rfl ?_
            rw [← HR2.out, hp, if_neg (fun h => absurd h.2 (by decide))]
            exact fin_out (R := upM t) (hu.keep (fun k _ hk _ => hb3.block k hk) (Nat.le_refl _) (Nat.le_refl _)) hb3.size hbw3
          · go_wp2_with fail
            refine bodyPost_ret (v := .agg #[.int .i64 n1.K, .int .i64 n1.N, .string n1.S, .string n1.Z, .int .i64 n1.T.K, .int .i64 n1.T.N, .slice sa oa ia, .slice sb ob ib, .slice sc oc ic]) (by simp [results, Tryz.results19, go_sem, p0, p1, p2, p3, p4, p5, p6, p7, p8]) rfl ?_
            rw [← HR2.out, hp, if_pos ⟨HK.out, rfl⟩]
            exact fin_out (hfb.keep (fun k _ hk _ => hb3.block k hk) (Nat.le_refl _) (Nat.le_refl _)) hb3.size hbw3
        · have hkb : (u0.K == 9) = false := by simp [hk]
          have HR2 : Hid (_ = R) := hR2
          clear hR2 k15 k8 k10 k11
          go_wp2_with fail
          refine bodyPost_ret (v := .agg #[.int .i64 t.K, .int .i64 t.N, .string t.S, .string t.Z, .int .i64 t.T.K, .int .i64 t.T.N, .slice b1 m1 e1, .slice b2 l2 e2, .slice (some ⟨gx, 0, none⟩) 1 e3]) (by simp [results, Tryz.results19, go_sem, p0, p1, p2, p3, p4, p5, p6, p7, p8]) rfl ?_
          rw [← HR2.out, if_neg (fun h => hk h.1)]
          exact fin_out (R := upM t) hu (Nat.le_refl _) hbw
      by_cases k14 : t.K = 14
      · have hfd : fold1 (upM t) = fdCase (upM t) := by unfold fold1; rw [if_neg (show ¬ (upM t).K = 15 from k15), if_neg (show ¬ (upM t).K = 8 from k8), if_neg (show ¬ (upM t).K = 10 from k10), if_neg (show ¬ (upM t).K = 11 from k11), if_pos (show (upM t).K = 14 from k14)]
        have hlen : (upM t).A.length = 3 := by have := huk.2.2; rw [show (upM t).K = 14 from k14] at this; simp [shP] at this; omega
        have hli : i = 3 := by have := HL.out; simp [upM] at hlen; omega
        subst hli
        obtain ⟨gx, hgx, hgL, hgB, x0a, n0a, s0a, x0b, n0b, s0b, x0c, n0c, s0c, h90, hfp0⟩ := fmo_part hu 0 (by omega)
        subst hgx
        obtain ⟨gx1, hgx1, _, _, x1a, n1a, s1a, x1b, n1b, s1b, x1c, n1c, s1c, h91, hfp1⟩ := fmo_part hu 1 (by omega)
        cases hgx1
        have hp0 : pa (upM t) 0 = (upM t).A[0] := pa_eq (by omega)
        have hp1 : pa (upM t) 1 = (upM t).A[1] := pa_eq (by omega)
        unfold fdCase at hfd
        rw [hfd, hp0, hp1] at hR2
        have kb15 : (t.K == 15) = false := by simp [k15]
        have kb8 : (t.K == 8) = false := by simp [k8]
        have kb10 : (t.K == 10) = false := by simp [k10]
        have kb11 : (t.K == 11) = false := by simp [k11]
        have kb14 : (t.K == 14) = true := by simp [k14]
        generalize (upM t).A[0] = u0 at *
        generalize (upM t).A[1] = u1 at *
        clear hfd hp0 hp1 hun hup huk hmu hparts k15 k8 k10 k11 k14
        have HR2 : Hid (_ = R) := hR2
        clear hR2
        rw [Nat.zero_mul] at h90
        rw [Nat.one_mul] at h91
        obtain ⟨q0, q1, q2, q3, q4, q5, q6, q7, q8⟩ := h90
        obtain ⟨o0, o1, o2, o3, o4, o5, o6, o7, o8⟩ := h91
        simp only [Nat.zero_add] at q1 q2 q3 q4 q5 q6 q7 q8
        by_cases hk : u0.K = 12
        · have hkb : (u0.K == 12) = true := by simp [hk]
          have HK : Hid (u0.K = 12) := hk
          clear hk
          go_wp2_with fail
          refine bodyPost_ret (v := .agg #[.int .i64 u1.K, .int .i64 u1.N, .string u1.S, .string u1.Z, .int .i64 u1.T.K, .int .i64 u1.T.N, .slice x1a n1a s1a, .slice x1b n1b s1b, .slice x1c n1c s1c]) (by simp [results, Tryz.results19, go_sem, p0, p1, p2, p3, p4, p5, p6, p7, p8]) rfl ?_
          rw [← HR2.out, if_pos HK.out]
          exact fin_out hfp1 (Nat.le_refl _) hbw
        · have hkb : (u0.K == 12) = false := by simp [hk]
          go_wp2_with fail
          refine bodyPost_ret (v := .agg #[.int .i64 t.K, .int .i64 t.N, .string t.S, .string t.Z, .int .i64 t.T.K, .int .i64 t.T.N, .slice b1 m1 e1, .slice b2 l2 e2, .slice (some ⟨gx, 0, none⟩) 3 e3]) (by simp [results, Tryz.results19, go_sem, p0, p1, p2, p3, p4, p5, p6, p7, p8]) rfl ?_
          rw [← HR2.out, if_neg hk]
          exact fin_out (R := upM t) hu (Nat.le_refl _) hbw
      by_cases k6 : t.K = 6
      · have hfd : fold1 (upM t) = fdLet (upM t) := by unfold fold1; rw [if_neg (show ¬ (upM t).K = 15 from k15), if_neg (show ¬ (upM t).K = 8 from k8), if_neg (show ¬ (upM t).K = 10 from k10), if_neg (show ¬ (upM t).K = 11 from k11), if_neg (show ¬ (upM t).K = 14 from k14), if_pos (show (upM t).K = 6 from k6)]
        have hlen : (upM t).A.length = 2 := by have := huk.2.2; rw [show (upM t).K = 6 from k6] at this; simp [shP] at this; omega
        have hli : i = 2 := by have := HL.out; simp [upM] at hlen; omega
        subst hli
        obtain ⟨gx, hgx, hgL, hgB, x0a, n0a, s0a, x0b, n0b, s0b, x0c, n0c, s0c, h90, hfp0⟩ := fmo_part hu 0 (by omega)
        subst hgx
        obtain ⟨gx1, hgx1, _, _, x1a, n1a, s1a, x1b, n1b, s1b, x1c, n1c, s1c, h91, hfp1⟩ := fmo_part hu 1 (by omega)
        cases hgx1
        have hp0 : pa (upM t) 0 = (upM t).A[0] := pa_eq (by omega)
        have hp1 : pa (upM t) 1 = (upM t).A[1] := pa_eq (by omega)
        obtain ⟨m1x, hm1x, hm1l⟩ : ∃ m1x, nodesM 24 (upM t).A[1] = some m1x ∧ m1x ≤ 150 := by
          obtain ⟨a, h1, h3⟩ := hup 1 (by omega)
          have h4 := nodesM_le (24 - l) l _ a h1
          rw [show l + (24 - l) = 24 by omega] at h4
          exact ⟨a, h4, by omega⟩
        unfold fdLet at hfd
        rw [hfd, hp0, hp1] at hR2
        have kb15 : (t.K == 15) = false := by simp [k15]
        have kb8 : (t.K == 8) = false := by simp [k8]
        have kb10 : (t.K == 10) = false := by simp [k10]
        have kb11 : (t.K == 11) = false := by simp [k11]
        have kb14 : (t.K == 14) = false := by simp [k14]
        have kb6 : (t.K == 6) = true := by simp [k6]
        have hres := hI.res
        have hcpy := hI.cpy
        have hbox := hI.box
        generalize (upM t).A[0] = u0 at *
        generalize (upM t).A[1] = u1 at *
        clear hfd hp0 hp1 hun hup huk hmu hparts k15 k8 k10 k11 k14 k6
        have HR2 : Hid (_ = R) := hR2
        clear hR2
        have h90' := h90
        have h91' := h91
        rw [Nat.zero_mul] at h90
        rw [Nat.one_mul] at h91
        obtain ⟨q0, q1, q2, q3, q4, q5, q6, q7, q8⟩ := h90
        simp only [Nat.zero_add] at q1 q2 q3 q4 q5 q6 q7 q8
        obtain ⟨o0, o1, o2, o3, o4, o5, o6, o7, o8⟩ := h91
        have hlt0 : w.heap.size < wr.heap.size := by omega
        have HK0 : Hid (∀ w' : World, Below wr.heap.size wr w' → Calls Tryz.prog 45 #[.agg #[.int .i64 u0.K, .int .i64 u0.N, .string u0.S, .string u0.Z, .int .i64 u0.T.K, .int .i64 u0.T.N, .slice x0a n0a s0a, .slice x0b n0b s0b, .slice x0c n0c s0c]] w' fun e w'' => e = .returned (.bool (pureM u0)) ∧ Below wr.heap.size wr w'') := fun w' hC =>
          (sPure_any D' (d' + 1) w.heap.size wr.heap.size u0 _ _ _ _ _ _ _ _ _ w' hC.size (Fm.keep (fun k _ hk => hC.block k hk) (Nat.le_refl _) (Nat.le_refl _) hfp0.fmo.fm)).mono fun e w'' ⟨h1, h2⟩ => ⟨h1, hC.trans (h2.mono hC.size)⟩
        by_cases hn : t.N = 0
        · have hnb : (t.N == 0) = true := by simp [hn]
          have HN : Hid (t.N = 0) := hn
          clear hn
          cases hp : pureM u0
          · have HP : Hid (pureM u0 = false) := hp
            rw [hp] at HK0
            clear hp
            go_wp2_with fail
            refine wp_region_below (by kernel_rfl) (by kernel_rfl) ?_
            repeat (first | go_big_quiet_skip | (go_big_quiet_want; unfold Oper.quiet; apply Exists.intro; refine ⟨fun w' hC => ?_, ?_⟩; (have F1 := (bcell hC hlt0 1).trans f1; have G8 := (bcell hC hqr 8).trans g8; have k0 := (bcell hC hgB 0).trans q0; have k1 := (bcell hC hgB 1).trans q1; have k2 := (bcell hC hgB 2).trans q2; have k3 := (bcell hC hgB 3).trans q3; have k4 := (bcell hC hgB 4).trans q4; have k5 := (bcell hC hgB 5).trans q5; have k6 := (bcell hC hgB 6).trans q6; have k7 := (bcell hC hgB 7).trans q7; have k8 := (bcell hC hgB 8).trans q8; unfold Oper.quietAt; go_simp; first | exact rfl | exact ⟨rfl, rfl⟩ | (go_at_call 45; exact HK0.out _ hC)); go_big_quiet_on; simp only [Act.put, List.setIfInBounds_toArray, List.set_cons_zero, List.set_cons_succ]))
            refine wpQuiet_nil ?_
            intro w3 hb3
            have hbw3 : Below w.heap.size w w3 := hbw.trans (hb3.mono hbw.size)
            have z1 := (hb3.block (w.heap.size + 1) (by omega)).trans hres
            have zc := (hb3.block q hqr).trans hcpy
            clear f0 f1 f2 f3 f4 f5 f6 f7 f8 p0 p1 p2 p3 p4 p5 p6 p7 p8 pf g0 g1 g2 g3 g4 g5 g6 g7 g8 q0 q1 q2 q3 q4 q5 q6 q7 q8
            obtain ⟨p0, p1, p2, p3, p4, p5, p6, p7, p8⟩ := Nine.box z1
            have pf := row_free z1
            obtain ⟨g0, g1, g2, g3, g4, g5, g6, g7, g8⟩ := Nine.box zc
            go_wp2_with fail
            refine bodyPost_ret (v := .agg #[.int .i64 t.K, .int .i64 t.N, .string t.S, .string t.Z, .int .i64 t.T.K, .int .i64 t.T.N, .slice b1 m1 e1, .slice b2 l2 e2, .slice (some ⟨gx, 0, none⟩) 2 e3]) (by simp [results, Tryz.results19, go_sem, p0, p1, p2, p3, p4, p5, p6, p7, p8]) rfl ?_
            rw [← HR2.out, if_neg (fun h => by rw [HP.out] at h; exact absurd h.2.1 (by decide))]
            exact fin_out (R := upM t) (hu.keep (fun k _ hk _ => hb3.block k hk) (Nat.le_refl _) (Nat.le_refl _)) hb3.size hbw3
          · have HP : Hid (pureM u0 = true) := hp
            rw [hp] at HK0
            clear hp
            have HK2 : Hid (∀ (w' : World) (ga gb : Nat), Below wr.heap.size wr w' → w'.heap[ga]? = some (.cells #[] 9 (0, 0)) → w'.heap[gb]? = some (.cells #[] 9 (0, 0)) → wr.heap.size ≤ ga → wr.heap.size ≤ gb → ga ≠ gb → Calls Tryz.prog 47 #[.agg #[.int .i64 u1.K, .int .i64 u1.N, .string u1.S, .string u1.Z, .int .i64 u1.T.K, .int .i64 u1.T.N, .slice x1a n1a s1a, .slice x1b n1b s1b, .slice x1c n1c s1c], .slice (some ⟨ga, 0, none⟩) 0 0, .slice (some ⟨gb, 0, none⟩) 0 0] w' fun e w'' => ∃ v, e = .returned v ∧ Below wr.heap.size wr w'' ∧ Toks wr.heap.size w'' v (freeW 24 u1 [] [])) := fun w' ga gb hC hga hgb hla hlb hne =>
              (lf_any 24 D' (d' + 1) w.heap.size wr.heap.size wr.heap.size u1 _ _ _ _ _ _ _ _ _ _ _ [] [] m1x w' (Nat.le_refl _) hC.size (Fm.keep (fun k _ hk => hC.block k hk) (Nat.le_refl _) (Nat.le_refl _) hfp1.fmo.fm) hm1x (toks_lit2 hga hla) (toks_lit2 hgb hlb) (fun g hg e => by simp [Value.ownBlock] at hg e; omega) (by simp) (by simp; omega)).mono fun e w'' ⟨v, h1, h2, h3⟩ => ⟨v, h1, hC.trans ((h2.below (toks_lit2 hgb hlb) hC.size).mono (Nat.le_refl _)), h3⟩
            have HFL : Hid ((freeW 24 u1 [] []).length ≤ 1000) := by have h1 := freeW_len 24 u1 m1x [] [] hm1x; show _ ≤ _; simp only [List.length_nil] at h1; omega
            have HS : Hid (∀ W : World, Below wr.heap.size wr W → W.cell? ⟨w.heap.size, 1, none⟩ = some (.int .i64 t.N) ∧ W.cell? ⟨w.heap.size, 2, none⟩ = some (.string t.S) ∧ W.cell? ⟨q, 8, none⟩ = some (.slice (some ⟨gx, 0, none⟩) 2 e3) ∧ W.cell? ⟨gx, 0, none⟩ = some (.int .i64 u0.K) ∧ W.cell? ⟨gx, 1, none⟩ = some (.int .i64 u0.N) ∧ W.cell? ⟨gx, 2, none⟩ = some (.string u0.S) ∧ W.cell? ⟨gx, 3, none⟩ = some (.string u0.Z) ∧ W.cell? ⟨gx, 4, none⟩ = some (.int .i64 u0.T.K) ∧ W.cell? ⟨gx, 5, none⟩ = some (.int .i64 u0.T.N) ∧ W.cell? ⟨gx, 6, none⟩ = some (.slice x0a n0a s0a) ∧ W.cell? ⟨gx, 7, none⟩ = some (.slice x0b n0b s0b) ∧ W.cell? ⟨gx, 8, none⟩ = some (.slice x0c n0c s0c) ∧ W.cell? ⟨gx, 9, none⟩ = some (.int .i64 u1.K) ∧ W.cell? ⟨gx, 9 + 1, none⟩ = some (.int .i64 u1.N) ∧ W.cell? ⟨gx, 9 + 2, none⟩ = some (.string u1.S) ∧ W.cell? ⟨gx, 9 + 3, none⟩ = some (.string u1.Z) ∧ W.cell? ⟨gx, 9 + 4, none⟩ = some (.int .i64 u1.T.K) ∧ W.cell? ⟨gx, 9 + 5, none⟩ = some (.int .i64 u1.T.N) ∧ W.cell? ⟨gx, 9 + 6, none⟩ = some (.slice x1a n1a s1a) ∧ W.cell? ⟨gx, 9 + 7, none⟩ = some (.slice x1b n1b s1b) ∧ W.cell? ⟨gx, 9 + 8, none⟩ = some (.slice x1c n1c s1c)) := fun W hC => ⟨(bcell hC hlt0 1).trans f1, (bcell hC hlt0 2).trans f2, (bcell hC hqr 8).trans g8, (bcell hC hgB 0).trans q0, (bcell hC hgB 1).trans q1, (bcell hC hgB 2).trans q2, (bcell hC hgB 3).trans q3, (bcell hC hgB 4).trans q4, (bcell hC hgB 5).trans q5, (bcell hC hgB 6).trans q6, (bcell hC hgB 7).trans q7, (bcell hC hgB 8).trans q8, (bcell hC hgB 9).trans o0, (bcell hC hgB (9 + 1)).trans o1, (bcell hC hgB (9 + 2)).trans o2, (bcell hC hgB (9 + 3)).trans o3, (bcell hC hgB (9 + 4)).trans o4, (bcell hC hgB (9 + 5)).trans o5, (bcell hC hgB (9 + 6)).trans o6, (bcell hC hgB (9 + 7)).trans o7, (bcell hC hgB (9 + 8)).trans o8⟩
            clear p0 p1 p2 p3 p4 p5 p6 p7 p8 pf g0 g1 g2 g3 g4 g5 g6 g7
            go_wp2_with fail
            go_region_held3 (fun w' => w'.cell? ⟨w.heap.size, 1, none⟩ = some (.int .i64 t.N) ∧ w'.cell? ⟨w.heap.size, 2, none⟩ = some (.string t.S) ∧ w'.cell? ⟨q, 8, none⟩ = some (.slice (some ⟨gx, 0, none⟩) 2 e3) ∧ w'.cell? ⟨gx, 0, none⟩ = some (.int .i64 u0.K) ∧ w'.cell? ⟨gx, 1, none⟩ = some (.int .i64 u0.N) ∧ w'.cell? ⟨gx, 2, none⟩ = some (.string u0.S) ∧ w'.cell? ⟨gx, 3, none⟩ = some (.string u0.Z) ∧ w'.cell? ⟨gx, 4, none⟩ = some (.int .i64 u0.T.K) ∧ w'.cell? ⟨gx, 5, none⟩ = some (.int .i64 u0.T.N) ∧ w'.cell? ⟨gx, 6, none⟩ = some (.slice x0a n0a s0a) ∧ w'.cell? ⟨gx, 7, none⟩ = some (.slice x0b n0b s0b) ∧ w'.cell? ⟨gx, 8, none⟩ = some (.slice x0c n0c s0c) ∧ w'.cell? ⟨gx, 9, none⟩ = some (.int .i64 u1.K) ∧ w'.cell? ⟨gx, 9 + 1, none⟩ = some (.int .i64 u1.N) ∧ w'.cell? ⟨gx, 9 + 2, none⟩ = some (.string u1.S) ∧ w'.cell? ⟨gx, 9 + 3, none⟩ = some (.string u1.Z) ∧ w'.cell? ⟨gx, 9 + 4, none⟩ = some (.int .i64 u1.T.K) ∧ w'.cell? ⟨gx, 9 + 5, none⟩ = some (.int .i64 u1.T.N) ∧ w'.cell? ⟨gx, 9 + 6, none⟩ = some (.slice x1a n1a s1a) ∧ w'.cell? ⟨gx, 9 + 7, none⟩ = some (.slice x1b n1b s1b) ∧ w'.cell? ⟨gx, 9 + 8, none⟩ = some (.slice x1c n1c s1c)) ((refine HS.out _ ?_; repeat (first | with_reducible exact hb2 | with_reducible exact hbp | with_reducible exact Below.refl _ _ | with_reducible refine bX_drew ?_ | with_reducible refine bX_alloc ?_))) (first
              | (go_simp; go_at_call 46; refine (l2Has_any _ _ t.S _ hT2 (by have := HFL.out; omega)).mono ?_; rintro e w3 ⟨rfl, rfl⟩)
              | (go_simp; go_at_call 47; refine (HK2.out _ _ _ (by repeat (first | with_reducible exact hb2 | with_reducible exact hbp | with_reducible exact Below.refl _ _ | with_reducible refine bX_drew ?_ | with_reducible refine bX_alloc ?_)) (by first | (refine heap_new ?_; simp; done) | exact (Below.heap_alloc _ _ _ (by simp)).trans (heap_new rfl)) (by first | (refine heap_new ?_; simp; done) | exact (Below.heap_alloc _ _ _ (by simp)).trans (heap_new rfl)) (by have := hbp.size; simp; omega) (by have := hbp.size; simp; omega) (by simp)).mono ?_; rintro e w2 ⟨vf, rfl, hb2, hT2⟩)
              | (go_simp; go_at_call 45; refine (HK0.out _ (by repeat (first | with_reducible exact hb2 | with_reducible exact hbp | with_reducible exact Below.refl _ _ | with_reducible refine bX_drew ?_ | with_reducible refine bX_alloc ?_))).mono ?_; rintro e wp ⟨rfl, hbp⟩))
            all_goals
              have hbw3 := hbw.trans (hb2.mono hbw.size)
              have z1 := (hb2.block (w.heap.size + 1) (by omega)).trans hres
              have zc := (hb2.block q hqr).trans hcpy
              have E := h91'.below hb2 hgB
              rw [Nat.one_mul] at E
              clear HS f0 f1 f2 f3 f4 f5 f6 f7 f8 g8 q0 q1 q2 q3 q4 q5 q6 q7 q8 o0 o1 o2 o3 o4 o5 o6 o7 o8
              obtain ⟨p0, p1, p2, p3, p4, p5, p6, p7, p8⟩ := Nine.box z1
              have pf := row_free z1
              obtain ⟨g0, g1, g2, g3, g4, g5, g6, g7, g8⟩ := Nine.box zc
              obtain ⟨o0, o1, o2, o3, o4, o5, o6, o7, o8⟩ := E
              cases hm : decide (bs t.S ∈ freeW 24 u1 [] [])
              · have HM : Hid (¬ bs t.S ∈ freeW 24 u1 [] []) := by show ¬ _; simpa using hm
                go_wp2_with fail
                refine bodyPost_ret (v := .agg #[.int .i64 u1.K, .int .i64 u1.N, .string u1.S, .string u1.Z, .int .i64 u1.T.K, .int .i64 u1.T.N, .slice x1a n1a s1a, .slice x1b n1b s1b, .slice x1c n1c s1c]) (by simp [results, Tryz.results19, go_sem, p0, p1, p2, p3, p4, p5, p6, p7, p8]) rfl ?_
                rw [← HR2.out, if_pos ⟨HN.out, HP.out, HM.out⟩]
                exact fin_out (hfp1.keep (fun k _ hk _ => hb2.block k hk) (Nat.le_refl _) (Nat.le_refl _)) hb2.size hbw3
              · have HM : Hid (bs t.S ∈ freeW 24 u1 [] []) := by show _ ∈ _; simpa using hm
                go_wp2_with fail
                refine bodyPost_ret (v := .agg #[.int .i64 t.K, .int .i64 t.N, .string t.S, .string t.Z, .int .i64 t.T.K, .int .i64 t.T.N, .slice b1 m1 e1, .slice b2 l2 e2, .slice (some ⟨gx, 0, none⟩) 2 e3]) (by simp [results, Tryz.results19, go_sem, p0, p1, p2, p3, p4, p5, p6, p7, p8]) rfl ?_
                rw [← HR2.out, if_neg (fun h => h.2.2 HM.out)]
                exact fin_out (R := upM t) (hu.keep (fun k _ hk _ => hb2.block k hk) (Nat.le_refl _) (Nat.le_refl _)) hb2.size hbw3
        · have hnb : (t.N == 0) = false := by simp [hn]
          have HN : Hid (¬ t.N = 0) := hn
          clear hn HK0
          go_wp2_with fail
          refine wp_region_below (by kernel_rfl) (by kernel_rfl) ?_
          repeat (first | go_big_quiet_skip | (go_big_quiet_want; unfold Oper.quiet; apply Exists.intro; refine ⟨fun w' hC => ?_, ?_⟩; (have F1 := (bcell hC hlt0 1).trans f1; have G8 := (bcell hC hqr 8).trans g8; have k0 := (bcell hC hgB 0).trans q0; have k1 := (bcell hC hgB 1).trans q1; have k2 := (bcell hC hgB 2).trans q2; have k3 := (bcell hC hgB 3).trans q3; have k4 := (bcell hC hgB 4).trans q4; have k5 := (bcell hC hgB 5).trans q5; have k6 := (bcell hC hgB 6).trans q6; have k7 := (bcell hC hgB 7).trans q7; have k8 := (bcell hC hgB 8).trans q8; unfold Oper.quietAt; go_simp; first | exact rfl | exact ⟨rfl, rfl⟩ ); go_big_quiet_on; simp only [Act.put, List.setIfInBounds_toArray, List.set_cons_zero, List.set_cons_succ]))
          refine wpQuiet_nil ?_
          intro w3 hb3
          have hbw3 : Below w.heap.size w w3 := hbw.trans (hb3.mono hbw.size)
          have z1 := (hb3.block (w.heap.size + 1) (by omega)).trans hres
          have zc := (hb3.block q hqr).trans hcpy
          clear f0 f1 f2 f3 f4 f5 f6 f7 f8 p0 p1 p2 p3 p4 p5 p6 p7 p8 pf g0 g1 g2 g3 g4 g5 g6 g7 g8 q0 q1 q2 q3 q4 q5 q6 q7 q8
          obtain ⟨p0, p1, p2, p3, p4, p5, p6, p7, p8⟩ := Nine.box z1
          have pf := row_free z1
          obtain ⟨g0, g1, g2, g3, g4, g5, g6, g7, g8⟩ := Nine.box zc
          go_wp2_with fail
          refine bodyPost_ret (v := .agg #[.int .i64 t.K, .int .i64 t.N, .string t.S, .string t.Z, .int .i64 t.T.K, .int .i64 t.T.N, .slice b1 m1 e1, .slice b2 l2 e2, .slice (some ⟨gx, 0, none⟩) 2 e3]) (by simp [results, Tryz.results19, go_sem, p0, p1, p2, p3, p4, p5, p6, p7, p8]) rfl ?_
          rw [← HR2.out, if_neg (fun h => HN.out h.1)]
          exact fin_out (R := upM t) (hu.keep (fun k _ hk _ => hb3.block k hk) (Nat.le_refl _) (Nat.le_refl _)) hb3.size hbw3
      by_cases k17 : t.K = 17
      · have hfd : fold1 (upM t) = fdTry (upM t) := by unfold fold1; rw [if_neg (show ¬ (upM t).K = 15 from k15), if_neg (show ¬ (upM t).K = 8 from k8), if_neg (show ¬ (upM t).K = 10 from k10), if_neg (show ¬ (upM t).K = 11 from k11), if_neg (show ¬ (upM t).K = 14 from k14), if_neg (show ¬ (upM t).K = 6 from k6), if_pos (show (upM t).K = 17 from k17)]
        have hlen : (upM t).A.length = 2 := by have := huk.2.2; rw [show (upM t).K = 17 from k17] at this; simp [shP] at this; omega
        have hli : i = 2 := by have := HL.out; simp [upM] at hlen; omega
        subst hli
        obtain ⟨gx, hgx, hgL, hgB, x0a, n0a, s0a, x0b, n0b, s0b, x0c, n0c, s0c, h90, hfp0⟩ := fmo_part hu 0 (by omega)
        subst hgx
        have hp0 : pa (upM t) 0 = (upM t).A[0] := pa_eq (by omega)
        unfold fdTry at hfd
        rw [hfd, hp0] at hR2
        have kb15 : (t.K == 15) = false := by simp [k15]
        have kb8 : (t.K == 8) = false := by simp [k8]
        have kb10 : (t.K == 10) = false := by simp [k10]
        have kb11 : (t.K == 11) = false := by simp [k11]
        have kb14 : (t.K == 14) = false := by simp [k14]
        have kb6 : (t.K == 6) = false := by simp [k6]
        have kb17 : (t.K == 17) = true := by simp [k17]
        have hres := hI.res
        have hcpy := hI.cpy
        generalize (upM t).A[0] = u0 at *
        clear hfd hp0 hun hup huk hmu hparts k15 k8 k10 k11 k14 k6 k17
        have HR2 : Hid (_ = R) := hR2
        clear hR2
        have h90' := h90
        rw [Nat.zero_mul] at h90
        obtain ⟨q0, q1, q2, q3, q4, q5, q6, q7, q8⟩ := h90
        simp only [Nat.zero_add] at q1 q2 q3 q4 q5 q6 q7 q8
        go_wp2_with fail
        refine (sPure_any D' (d' + 1) w.heap.size wr.heap.size u0 _ _ _ _ _ _ _ _ _ wr (Nat.le_refl _) hfp0.fmo.fm).mono ?_
        rintro e w3 ⟨rfl, hb3⟩
        have hbw3 : Below w.heap.size w w3 := hbw.trans (hb3.mono hbw.size)
        have z1 := (hb3.block (w.heap.size + 1) (by omega)).trans hres
        have zc := (hb3.block q hqr).trans hcpy
        clear f0 f1 f2 f3 f4 f5 f6 f7 f8 p0 p1 p2 p3 p4 p5 p6 p7 p8 pf g0 g1 g2 g3 g4 g5 g6 g7 g8 q0 q1 q2 q3 q4 q5 q6 q7 q8
        obtain ⟨p0, p1, p2, p3, p4, p5, p6, p7, p8⟩ := Nine.box z1
        have pf := row_free z1
        obtain ⟨g0, g1, g2, g3, g4, g5, g6, g7, g8⟩ := Nine.box zc
        have E := h90'.below hb3 hgB
        rw [Nat.zero_mul] at E
        obtain ⟨q0, q1, q2, q3, q4, q5, q6, q7, q8⟩ := E
        simp only [Nat.zero_add] at q1 q2 q3 q4 q5 q6 q7 q8
        cases hp : pureM u0
        · go_wp2_with fail
          refine bodyPost_ret (v := .agg #[.int .i64 t.K, .int .i64 t.N, .string t.S, .string t.Z, .int .i64 t.T.K, .int .i64 t.T.N, .slice b1 m1 e1, .slice b2 l2 e2, .slice (some ⟨gx, 0, none⟩) 2 e3]) (by simp [results, Tryz.results19, go_sem, p0, p1, p2, p3, p4, p5, p6, p7, p8]) rfl ?_
          rw [← HR2.out, hp, if_neg (by decide)]
          exact fin_out (R := upM t) (hu.keep (fun k _ hk _ => hb3.block k hk) (Nat.le_refl _) (Nat.le_refl _)) hb3.size hbw3
        · go_wp2_with fail
          refine bodyPost_ret (v := .agg #[.int .i64 u0.K, .int .i64 u0.N, .string u0.S, .string u0.Z, .int .i64 u0.T.K, .int .i64 u0.T.N, .slice x0a n0a s0a, .slice x0b n0b s0b, .slice x0c n0c s0c]) (by simp [results, Tryz.results19, go_sem, p0, p1, p2, p3, p4, p5, p6, p7, p8]) rfl ?_
          rw [← HR2.out, hp, if_pos rfl]
          exact fin_out (hfp0.keep (fun k _ hk _ => hb3.block k hk) (Nat.le_refl _) (Nat.le_refl _)) hb3.size hbw3
      · have hfd : fold1 (upM t) = upM t := by unfold fold1; rw [if_neg (show ¬ (upM t).K = 15 from k15), if_neg (show ¬ (upM t).K = 8 from k8), if_neg (show ¬ (upM t).K = 10 from k10), if_neg (show ¬ (upM t).K = 11 from k11), if_neg (show ¬ (upM t).K = 14 from k14), if_neg (show ¬ (upM t).K = 6 from k6), if_neg (show ¬ (upM t).K = 17 from k17)]
        rw [hfd] at hR2
        subst hR2
        have kb15 : (t.K == 15) = false := by simp [k15]
        have kb8 : (t.K == 8) = false := by simp [k8]
        have kb10 : (t.K == 10) = false := by simp [k10]
        have kb11 : (t.K == 11) = false := by simp [k11]
        have kb14 : (t.K == 14) = false := by simp [k14]
        have kb6 : (t.K == 6) = false := by simp [k6]
        have kb17 : (t.K == 17) = false := by simp [k17]
        clear hfd hun hup huk hmu hparts k15 k8 k10 k11 k14 k6 k17
        go_wp2_with fail
        refine bodyPost_ret (v := .agg #[.int .i64 t.K, .int .i64 t.N, .string t.S, .string t.Z, .int .i64 t.T.K, .int .i64 t.T.N, .slice b1 m1 e1, .slice b2 l2 e2, .slice b3 i e3]) (by simp [results, Tryz.results19, go_sem, p0, p1, p2, p3, p4, p5, p6, p7, p8]) rfl ?_
        exact fin_out (R := upM t) hu (Nat.le_refl _) hbw

end Go.Proofs.YtibbdhmbgnjmoaaGreat
