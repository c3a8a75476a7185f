/-
  What the model's 'PutFor' comes to.
-/
import Derived.Test.YtbdmdgghhefmcaaPfoZ37
import Derived.Test.YtbdmdgghhefmcaaPfoLkM
import Derived.Test.YtbdmdgghhefmcaaPfoLf2
import Derived.Deep.CutBlock
import Derived.Deep.RegionHeld3
namespace Go.Proofs.Ytbdmdgghhefmcaa
open Go.RowKit
set_option linter.unusedVariables false
set_option linter.unusedSimpArgs false

theorem set_below3 {n q o : Nat} {v : Value} {w w' : World} (h : Below n w w') (hq : n ≤ q) : Below n w (w'.setCell ⟨q, o, none⟩ v) := ⟨h.os, h.tape, h.output, by simp; exact h.size, fun k hk => (row_other _ _ _ (by omega)).trans (h.block k hk)⟩
theorem drew_heap3 (W : World) : W.drew.heap = W.heap := rfl
theorem toks_lit3 {base : Nat} {w : World} {g : Nat} (hg : w.heap[g]? = some (.cells #[] 9 (0, 0))) (hb : base ≤ g) : Toks base w (.slice (some ⟨g, 0, none⟩) 0 0) [] :=
  ⟨rfl, Or.inr ⟨g, 0, #[], rfl, hb, hg, by simp, by unfold maxLen; simp, by simp, by simp⟩⟩

set_option maxRecDepth 100000 in
set_option maxHeartbeats 16000000 in
theorem sPutFor_of (SP : ∀ l, SaidSp l) (D d L B D0 d0 L0 B0 : Nat) (t x : Tm) (a1 : Option Addr) (l1 c1 : Nat) (a2 : Option Addr) (l2 c2 : Nat) (a3 : Option Addr) (l3 c3 : Nat) (b1 : Option Addr) (m1 e1 : Nat) (b2 : Option Addr) (m2 e2 : Nat) (b3 : Option Addr) (m3 e3 : Nat) (s : ByteArray) (w : World) (hB : B ≤ w.heap.size) (hB0 : B0 ≤ w.heap.size)
    (hf : Fm L B w D d t a1 l1 a2 l2 a3 l3) (hx : Fm L0 B0 w D0 d0 x b1 m1 b2 m2 b3 m3) (hct : cntM t ≤ 1048576) (hcx : cntM x ≤ 1048576) :
    Calls Try.prog 10 #[.agg #[.int .i64 t.K, .int .i64 t.N, .string t.S, .string t.Z, .int .i64 t.T.K, .int .i64 t.T.N, .slice a1 l1 c1, .slice a2 l2 c2, .slice a3 l3 c3], .string s, .agg #[.int .i64 x.K, .int .i64 x.N, .string x.S, .string x.Z, .int .i64 x.T.K, .int .i64 x.T.N, .slice b1 m1 e1, .slice b2 m2 e2, .slice b3 m3 e3]] w fun e w' => PutE w w' e (putT (bs s) t x) := by
  obtain ⟨X, hX⟩ : ∃ X, X = ((w.alloc (.cells #[.int .i64 t.K, .int .i64 t.N, .string t.S, .string t.Z, .int .i64 t.T.K, .int .i64 t.T.N, .slice a1 l1 c1, .slice a2 l2 c2, .slice a3 l3 c3] 35)).alloc (.cells #[.int .i64 x.K, .int .i64 x.N, .string x.S, .string x.Z, .int .i64 x.T.K, .int .i64 x.T.N, .slice b1 m1 e1, .slice b2 m2 e2, .slice b3 m3 e3] 35)).alloc (.cells #[.int .i64 0, .int .i64 0, .string ⟨#[]⟩, .string ⟨#[]⟩, .int .i64 0, .int .i64 0, .slice none 0 0, .slice none 0 0, .slice none 0 0] 35) := ⟨_, rfl⟩
  have hXs : X.heap.size = w.heap.size + 3 := by rw [hX]; simp
  have hXb : Below w.heap.size w X := by rw [hX]; exact (((Below.refl _ _).alloc (Nat.le_refl _) _).alloc (by simp) _).alloc (by simp; omega) _
  have hX0 : X.heap[w.heap.size]? = some (.cells #[.int .i64 t.K, .int .i64 t.N, .string t.S, .string t.Z, .int .i64 t.T.K, .int .i64 t.T.N, .slice a1 l1 c1, .slice a2 l2 c2, .slice a3 l3 c3] 35 (0, 0)) := by rw [hX, Below.heap_alloc _ _ _ (by simp; omega), Below.heap_alloc _ _ _ (by simp)]; exact heap_new rfl
  have hX1 : X.heap[w.heap.size + 1]? = some (.cells #[.int .i64 x.K, .int .i64 x.N, .string x.S, .string x.Z, .int .i64 x.T.K, .int .i64 x.T.N, .slice b1 m1 e1, .slice b2 m2 e2, .slice b3 m3 e3] 35 (0, 0)) := by rw [hX, Below.heap_alloc _ _ _ (by simp)]; exact heap_new (by simp)
  have hX2 : X.heap[w.heap.size + 2]? = some (.cells #[.int .i64 0, .int .i64 0, .string ⟨#[]⟩, .string ⟨#[]⟩, .int .i64 0, .int .i64 0, .slice none 0 0, .slice none 0 0, .slice none 0 0] 35 (0, 0)) := by rw [hX]; exact heap_new (by simp)
  have HX : Hid (X = _) := hX
  clear hX
  have hBX : B ≤ X.heap.size := by omega
  obtain ⟨x0, x1, x2, x3, x4, x5, x6, x7, x8⟩ := Nine.box hX0
  have K1 := sTermOk_any D d L B t a1 l1 c1 a2 l2 c2 a3 l3 c3 X hBX (Fm.below hXb hB hf)
  have HNO : Hid (∀ W, Below X.heap.size X W → ¬ (okM t = true ∧ okM x = true ∧ putOk (freeT x) (usesP (bs s) 24 t) = true ∧ okM (putF t (usesP (bs s) 24 t) x) = true) → PutE w (((((((((W.setCell ⟨w.heap.size + 2, 0, none⟩ (.int .i64 0)).setCell ⟨w.heap.size + 2, 1, none⟩ (.int .i64 0)).setCell ⟨w.heap.size + 2, 2, none⟩ (.string ⟨#[]⟩)).setCell ⟨w.heap.size + 2, 3, none⟩ (.string ⟨#[]⟩)).setCell ⟨w.heap.size + 2, 4, none⟩ (.int .i64 0)).setCell ⟨w.heap.size + 2, 5, none⟩ (.int .i64 0)).setCell ⟨w.heap.size + 2, 6, none⟩ (.slice none 0 0)).setCell ⟨w.heap.size + 2, 7, none⟩ (.slice none 0 0)).setCell ⟨w.heap.size + 2, 8, none⟩ (.slice none 0 0)) (.returned (.tuple #[.agg #[.int .i64 0, .int .i64 0, .string ⟨#[]⟩, .string ⟨#[]⟩, .int .i64 0, .int .i64 0, .slice none 0 0, .slice none 0 0, .slice none 0 0], .bool false])) (putT (bs s) t x)) := fun W hW hno => by
    rw [putT_no hno]
    exact put_none (hXb.trans (hW.mono (by omega))) (by omega) ((hW.block _ (by omega)).trans hX2)
  cases hot : okM t with
  | false =>
    have HF : Hid (okM t = false) := hot
    rw [HF.out] at K1
    clear hot
    go_enter Try.func10, Try.ntmps10
    go_upto_region 1 with fail
    rw [← HX.out]
    go_wp2_with fail
    refine K1.mono ?_
    rintro e w1 ⟨rfl, hb1⟩
    have rr := (hb1.block (w.heap.size + 2) (by omega)).trans hX2
    obtain ⟨y0, y1, y2, y3, y4, y5, y6, y7, y8⟩ := Nine.box rr
    have yf := row_free rr
    go_wp2_with fail
    (try simp only [Exit.inBlock, Exit.then]); refine bodyPost_ret (v := .tuple #[.agg #[.int .i64 0, .int .i64 0, .string ⟨#[]⟩, .string ⟨#[]⟩, .int .i64 0, .int .i64 0, .slice none 0 0, .slice none 0 0, .slice none 0 0], .bool false]) (by simp [results, Try.results10, go_sem, y0, y1, y2, y3, y4, y5, y6, y7, y8]) rfl ?_
    exact HNO.out w1 hb1 (fun h => by have := h.1; rw [HF.out] at this; cases this)

  | true =>
    have HT : Hid (okM t = true) := hot
    rw [HT.out] at K1
    clear hot
    go_enter Try.func10, Try.ntmps10
    go_upto_region 1 with fail
    rw [← HX.out]
    go_wp2_with fail
    refine K1.mono ?_
    rintro e w1 ⟨rfl, hb1⟩
    have z1 := hb1.size
    have p1 := (hb1.block w.heap.size (by omega)).trans hX0
    have q1 := (hb1.block (w.heap.size + 1) (by omega)).trans hX1
    have hbw1 : Below w.heap.size w w1 := hXb.trans (hb1.mono (by omega))
    have K2 := sTermOk_any D0 d0 L0 B0 x b1 m1 e1 b2 m2 e2 b3 m3 e3 w1 (by omega) (Fm.below hbw1 hB0 hx)
    clear x0 x1 x2 x3 x4 x5 x6 x7 x8
    obtain ⟨x0, x1, x2, x3, x4, x5, x6, x7, x8⟩ := Nine.box q1
    cases hov : okM x with
    | false =>
      have HF : Hid (okM x = false) := hov
      rw [HF.out] at K2
      clear hov
      go_wp2_with fail
      refine K2.mono ?_
      rintro e w2 ⟨rfl, hb2⟩
      have hb2X : Below X.heap.size X w2 := hb1.trans (hb2.mono z1)
      have rr := (hb2X.block (w.heap.size + 2) (by omega)).trans hX2
      obtain ⟨y0, y1, y2, y3, y4, y5, y6, y7, y8⟩ := Nine.box rr
      have yf := row_free rr
      go_wp2_with fail
      (try simp only [Exit.inBlock, Exit.then]); refine bodyPost_ret (v := .tuple #[.agg #[.int .i64 0, .int .i64 0, .string ⟨#[]⟩, .string ⟨#[]⟩, .int .i64 0, .int .i64 0, .slice none 0 0, .slice none 0 0, .slice none 0 0], .bool false]) (by simp [results, Try.results10, go_sem, y0, y1, y2, y3, y4, y5, y6, y7, y8]) rfl ?_
      exact HNO.out w2 hb2X (fun h => by have := h.2.1; rw [HF.out] at this; cases this)

    | true =>
      have HTX : Hid (okM x = true) := hov
      rw [HTX.out] at K2
      obtain ⟨m, hm, hm6⟩ := okM_some HT.out
      obtain ⟨mx, hmx, hmx6⟩ := okM_some HTX.out
      clear hov
      go_wp2_with fail
      refine K2.mono ?_
      rintro e w2 ⟨rfl, hb2⟩
      have z2 := hb2.size
      have hb2X : Below X.heap.size X w2 := hb1.trans (hb2.mono z1)
      have hbw2 : Below w.heap.size w w2 := hbw1.trans (hb2.mono (by omega))
      have p2 := (hb2.block w.heap.size (by omega)).trans p1
      have q2 := (hb2.block (w.heap.size + 1) (by omega)).trans q1
      have hl0 : w.heap.size < w2.heap.size := by omega
      have hl1 : w.heap.size + 1 < w2.heap.size := by omega
      obtain ⟨F, hF⟩ : ∃ F, freeW 24 x [] [] = F := ⟨_, rfl⟩
      have HFT : Hid (freeT x = F) := by show _ = _; rw [← hF]; simp [freeT, HTX.out]
      have hFl : F.length ≤ 100000 := by
        have h1 := freeW_len 24 x mx [] [] hmx
        rw [hF] at h1
        simp only [List.length_nil] at h1
        omega
      have HFREE : Hid (∀ (W : World) (va vb : Value), Below w2.heap.size w2 W → Toks w2.heap.size W va [] → Toks w2.heap.size W vb [] → (∀ g, va.ownBlock = some g → vb.ownBlock ≠ some g) → Calls Try.prog 28 #[.agg #[.int .i64 x.K, .int .i64 x.N, .string x.S, .string x.Z, .int .i64 x.T.K, .int .i64 x.T.N, .slice b1 m1 e1, .slice b2 m2 e2, .slice b3 m3 e3], va, vb] W fun e w' => ∃ fo fc, e = .returned (.slice fo F.length fc) ∧ Below w2.heap.size w2 w' ∧ (∀ k, k < W.heap.size → vb.ownBlock ≠ some k → w'.heap[k]? = W.heap[k]?) ∧ Toks w2.heap.size w' (.slice fo F.length fc) F) := fun W va vb hW hTa hTb hap => by
        have hz := hW.size
        refine (lf_any 24 D0 d0 L0 B0 w2.heap.size x b1 m1 e1 b2 m2 e2 b3 m3 e3 va vb [] [] mx W (by omega) hz (Fm.below (hbw2.trans (hW.mono (by omega))) hB0 hx) hmx hTa hTb hap (by simp) (by simp; omega)).mono ?_
        rintro e w' ⟨v', rfl, hk, hT⟩
        rw [hF] at hT
        obtain ⟨fo, fc, rfl⟩ := toks_form hT
        exact ⟨fo, fc, rfl, hW.trans (hk.below hTb hz), hk.block, hT⟩
      obtain ⟨qs, hqs⟩ : ∃ qs, usesP (bs s) 24 t = qs := ⟨_, rfl⟩
      obtain ⟨P, hP⟩ : ∃ P, (spR F x qs t).1 = P := ⟨_, rfl⟩
      obtain ⟨ok, hokP⟩ : ∃ ok, (spR F x qs t).2 = ok := ⟨_, rfl⟩
      have HPUT : Hid (∀ (W : World) (fo : Option Addr) (fc : Nat), Below w2.heap.size w2 W → Toks w2.heap.size W (.slice fo F.length fc) F → Calls Try.prog 27 #[.agg #[.int .i64 t.K, .int .i64 t.N, .string t.S, .string t.Z, .int .i64 t.T.K, .int .i64 t.T.N, .slice a1 l1 c1, .slice a2 l2 c2, .slice a3 l3 c3], .string s, .agg #[.int .i64 x.K, .int .i64 x.N, .string x.S, .string x.Z, .int .i64 x.T.K, .int .i64 x.T.N, .slice b1 m1 e1, .slice b2 m2 e2, .slice b3 m3 e3], .slice fo F.length fc] W fun e w' => ∃ (D6 d6 : Nat) (za : Option Addr) (la ca : Nat) (zb : Option Addr) (lb cb : Nat) (zc : Option Addr) (lc cc : Nat), e = .returned (.tuple #[.agg #[.int .i64 P.K, .int .i64 P.N, .string P.S, .string P.Z, .int .i64 P.T.K, .int .i64 P.T.N, .slice za la ca, .slice zb lb cb, .slice zc lc cc], .bool ok]) ∧ Below W.heap.size W w' ∧ FmO W.heap.size w'.heap.size w' D6 d6 P za la zb lb zc lc) := fun W fo fc hW hT => by
        have hz := hW.size
        have hbW : Below w.heap.size w W := hbw2.trans (hW.mono (by omega))
        have K := SP 24 D d L B D0 d0 L0 B0 w2.heap.size t x a1 l1 c1 a2 l2 c2 a3 l3 c3 b1 m1 e1 b2 m2 e2 b3 m3 e3 m s F fo F.length fc W (by omega) (by omega) (Fm.below hbW hB hf) (Fm.below hbW hB0 hx) hm (by omega) hct hcx hT hFl
        rw [hqs, show spR F x qs t = (P, ok) from Prod.ext hP hokP] at K
        exact K
      have HQS : Hid (usesP (bs s) 24 t = qs) := hqs
      have HP : Hid ((spR F x qs t).1 = P ∧ (spR F x qs t).2 = ok) := ⟨hP, hokP⟩
      obtain ⟨nF, hnF⟩ : ∃ nF, F.length = nF := ⟨_, rfl⟩
      rw [hnF] at HFREE HPUT
      clear hqs hP hokP hF hnF x0 x1 x2 x3 x4 x5 x6 x7 x8
      have HBX : Hid (∀ W, Below w2.heap.size w2 W → W.cell? ⟨w.heap.size, 0, none⟩ = some (.int .i64 t.K) ∧ W.cell? ⟨w.heap.size, 1, none⟩ = some (.int .i64 t.N) ∧ W.cell? ⟨w.heap.size, 2, none⟩ = some (.string t.S) ∧ W.cell? ⟨w.heap.size, 3, none⟩ = some (.string t.Z) ∧ W.cell? ⟨w.heap.size, 4, none⟩ = some (.int .i64 t.T.K) ∧ W.cell? ⟨w.heap.size, 5, none⟩ = some (.int .i64 t.T.N) ∧ W.cell? ⟨w.heap.size, 6, none⟩ = some (.slice a1 l1 c1) ∧ W.cell? ⟨w.heap.size, 7, none⟩ = some (.slice a2 l2 c2) ∧ W.cell? ⟨w.heap.size, 8, none⟩ = some (.slice a3 l3 c3) ∧ W.cell? ⟨w.heap.size + 1, 0, none⟩ = some (.int .i64 x.K) ∧ W.cell? ⟨w.heap.size + 1, 1, none⟩ = some (.int .i64 x.N) ∧ W.cell? ⟨w.heap.size + 1, 2, none⟩ = some (.string x.S) ∧ W.cell? ⟨w.heap.size + 1, 3, none⟩ = some (.string x.Z) ∧ W.cell? ⟨w.heap.size + 1, 4, none⟩ = some (.int .i64 x.T.K) ∧ W.cell? ⟨w.heap.size + 1, 5, none⟩ = some (.int .i64 x.T.N) ∧ W.cell? ⟨w.heap.size + 1, 6, none⟩ = some (.slice b1 m1 e1) ∧ W.cell? ⟨w.heap.size + 1, 7, none⟩ = some (.slice b2 m2 e2) ∧ W.cell? ⟨w.heap.size + 1, 8, none⟩ = some (.slice b3 m3 e3)) := fun W hW => by
        obtain ⟨i0, i1, i2, i3, i4, i5, i6, i7, i8⟩ := Nine.box ((hW.block _ hl0).trans p2)
        obtain ⟨j0, j1, j2, j3, j4, j5, j6, j7, j8⟩ := Nine.box ((hW.block _ hl1).trans q2)
        exact ⟨i0, i1, i2, i3, i4, i5, i6, i7, i8, j0, j1, j2, j3, j4, j5, j6, j7, j8⟩
      obtain ⟨x0, x1, x2, x3, x4, x5, x6, x7, x8⟩ := Nine.box p2
      obtain ⟨j0, j1, j2, j3, j4, j5, j6, j7, j8⟩ := Nine.box q2
      go_upto_region 3 with fail
      go_cut [8, 9] from 10 (fun v b wx => ∃ (q D6 d6 : Nat) (za : Option Addr) (la ca : Nat) (zb : Option Addr) (lb cb : Nat) (zc : Option Addr) (lc cc : Nat), v = .pointer (some ⟨q, 0, none⟩) ∧ b = .bool ok ∧ Below w2.heap.size w2 wx ∧ w2.heap.size ≤ q ∧ wx.heap[q]? = some (.cells #[.int .i64 P.K, .int .i64 P.N, .string P.S, .string P.Z, .int .i64 P.T.K, .int .i64 P.T.N, .slice za la ca, .slice zb lb cb, .slice zc lc cc] 35 (0, 0)) ∧ FmO w2.heap.size wx.heap.size wx D6 d6 P za la zb lb zc lc)
      case first =>
        go_region_held3 (fun W => W.cell? ⟨w.heap.size, 0, none⟩ = some (.int .i64 t.K) ∧ W.cell? ⟨w.heap.size, 1, none⟩ = some (.int .i64 t.N) ∧ W.cell? ⟨w.heap.size, 2, none⟩ = some (.string t.S) ∧ W.cell? ⟨w.heap.size, 3, none⟩ = some (.string t.Z) ∧ W.cell? ⟨w.heap.size, 4, none⟩ = some (.int .i64 t.T.K) ∧ W.cell? ⟨w.heap.size, 5, none⟩ = some (.int .i64 t.T.N) ∧ W.cell? ⟨w.heap.size, 6, none⟩ = some (.slice a1 l1 c1) ∧ W.cell? ⟨w.heap.size, 7, none⟩ = some (.slice a2 l2 c2) ∧ W.cell? ⟨w.heap.size, 8, none⟩ = some (.slice a3 l3 c3) ∧ W.cell? ⟨w.heap.size + 1, 0, none⟩ = some (.int .i64 x.K) ∧ W.cell? ⟨w.heap.size + 1, 1, none⟩ = some (.int .i64 x.N) ∧ W.cell? ⟨w.heap.size + 1, 2, none⟩ = some (.string x.S) ∧ W.cell? ⟨w.heap.size + 1, 3, none⟩ = some (.string x.Z) ∧ W.cell? ⟨w.heap.size + 1, 4, none⟩ = some (.int .i64 x.T.K) ∧ W.cell? ⟨w.heap.size + 1, 5, none⟩ = some (.int .i64 x.T.N) ∧ W.cell? ⟨w.heap.size + 1, 6, none⟩ = some (.slice b1 m1 e1) ∧ W.cell? ⟨w.heap.size + 1, 7, none⟩ = some (.slice b2 m2 e2) ∧ W.cell? ⟨w.heap.size + 1, 8, none⟩ = some (.slice b3 m3 e3))
          (first | (with_reducible refine HBX.out _ ?_; (iterate 9 (with_reducible refine set_below3 ?_ (by first | omega | (simp; done) | (simp; omega)))); with_reducible exact hb27) | with_reducible exact HBX.out _ hb27 | with_reducible exact HBX.out _ hb6 | with_reducible exact HBX.out _ (Below.refl _ _) | (with_reducible refine HBX.out _ ?_; (repeat (first | with_reducible exact hb27 | with_reducible exact hb6 | with_reducible exact Below.refl _ _ | with_reducible refine Below.drew ?_ | (with_reducible refine Below.alloc ?_ (by first | omega | (simp; done) | (simp; omega)) _) | (with_reducible refine set_below3 ?_ (by first | omega | (simp; done) | (simp; omega)))))))
          (first
            | (go_at_call 27; (with_reducible refine Calls.mono (HPUT.out _ _ _ ?_ ?_) ?_); (repeat (first | with_reducible exact Below.refl _ _ | with_reducible exact hb6 | with_reducible refine Below.drew ?_ | (with_reducible refine Below.alloc ?_ (by first | omega | (simp; done) | (simp; omega)) _))); (first | with_reducible exact hT6 | exact toks_bel hT6 ((Below.refl _ _).alloc (Nat.le_refl _) _)); rintro e w7 ⟨D6, d6, za, la, ca, zb, lb, cb, zc, lc, cc, rfl, hb7, hO7⟩; have hz7 := hb7.size; have hb27 : Below w2.heap.size w2 w7 := Below.trans (by (repeat (first | with_reducible exact Below.refl _ _ | with_reducible exact hb6 | with_reducible refine Below.drew ?_ | (with_reducible refine Below.alloc ?_ (by first | omega | (simp; done) | (simp; omega)) _)))) (hb7.mono (by first | omega | (simp; done) | (simp; omega))); (first | (have q7 := hb7.block w6.heap.size (by first | omega | (simp; done) | (simp; omega)); have hzr7 : w7.heap[w6.heap.size]? = some (.cells #[.int .i64 0, .int .i64 0, .string ⟨#[]⟩, .string ⟨#[]⟩, .int .i64 0, .int .i64 0, .slice none 0 0, .slice none 0 0, .slice none 0 0] 35 (0, 0)) := q7.trans (by ((try rw [drew_heap3]); (first | exact heap_new (by first | omega | (simp; done) | (simp; omega)) | (rw [Below.heap_alloc _ _ _ (by first | omega | (simp; done) | (simp; omega))]; exact heap_new (by first | omega | (simp; done) | (simp; omega))) | (rw [Below.heap_alloc _ _ _ (by first | omega | (simp; done) | (simp; omega)), Below.heap_alloc _ _ _ (by first | omega | (simp; done) | (simp; omega))]; exact heap_new (by first | omega | (simp; done) | (simp; omega))))))) | (have hql6 := (Array.getElem?_eq_some_iff.1 hzr).1; have hzr7 := ((hb7.block _ hql6)).trans hzr) | skip); (try (have hnn := Nine.box hzr7; have nf := row_free hzr7; obtain ⟨n0, n1, n2, n3, n4, n5, n6, n7, n8⟩ := hnn)))
            | (go_at_call 28; (with_reducible refine Calls.mono (HFREE.out _ _ _ ?_ ?_ ?_ ?_) ?_); (repeat (first | with_reducible exact Below.refl _ _ | with_reducible exact hW0 | with_reducible refine Below.drew ?_ | (with_reducible refine Below.alloc ?_ (by first | omega | (simp; done) | (simp; omega)) _))); exact toks_lit3 (by ((try rw [drew_heap3]); (first | exact heap_new (by first | omega | (simp; done) | (simp; omega)) | (rw [Below.heap_alloc _ _ _ (by first | omega | (simp; done) | (simp; omega))]; exact heap_new (by first | omega | (simp; done) | (simp; omega))) | (rw [Below.heap_alloc _ _ _ (by first | omega | (simp; done) | (simp; omega)), Below.heap_alloc _ _ _ (by first | omega | (simp; done) | (simp; omega))]; exact heap_new (by first | omega | (simp; done) | (simp; omega)))))) (by first | omega | (simp; done) | (simp; omega)); exact toks_lit3 (by ((try rw [drew_heap3]); (first | exact heap_new (by first | omega | (simp; done) | (simp; omega)) | (rw [Below.heap_alloc _ _ _ (by first | omega | (simp; done) | (simp; omega))]; exact heap_new (by first | omega | (simp; done) | (simp; omega))) | (rw [Below.heap_alloc _ _ _ (by first | omega | (simp; done) | (simp; omega)), Below.heap_alloc _ _ _ (by first | omega | (simp; done) | (simp; omega))]; exact heap_new (by first | omega | (simp; done) | (simp; omega)))))) (by first | omega | (simp; done) | (simp; omega)); (intro g hg e; (first | (simp [Value.ownBlock] at hg e; done) | (simp [Value.ownBlock] at hg e; omega))); rintro e w6 ⟨fo, fc, rfl, hb6, hk6, hT6⟩; have hz6 := hb6.size; have hl06 : w.heap.size < w6.heap.size := (by omega); have hl16 : w.heap.size + 1 < w6.heap.size := (by omega); (first | (have hzr : w6.heap[w2.heap.size]? = some (.cells #[.int .i64 0, .int .i64 0, .string ⟨#[]⟩, .string ⟨#[]⟩, .int .i64 0, .int .i64 0, .slice none 0 0, .slice none 0 0, .slice none 0 0] 35 (0, 0)) := (hk6 (w2.heap.size) (by first | omega | (simp; done) | (simp; omega)) (by intro h; (first | (simp [Value.ownBlock] at h; done) | (simp [Value.ownBlock] at h; omega)))).trans (by ((try rw [drew_heap3]); (first | exact heap_new (by first | omega | (simp; done) | (simp; omega)) | (rw [Below.heap_alloc _ _ _ (by first | omega | (simp; done) | (simp; omega))]; exact heap_new (by first | omega | (simp; done) | (simp; omega))) | (rw [Below.heap_alloc _ _ _ (by first | omega | (simp; done) | (simp; omega)), Below.heap_alloc _ _ _ (by first | omega | (simp; done) | (simp; omega))]; exact heap_new (by first | omega | (simp; done) | (simp; omega))))))) | (have hzr : w6.heap[w2.heap.size + 1]? = some (.cells #[.int .i64 0, .int .i64 0, .string ⟨#[]⟩, .string ⟨#[]⟩, .int .i64 0, .int .i64 0, .slice none 0 0, .slice none 0 0, .slice none 0 0] 35 (0, 0)) := (hk6 (w2.heap.size + 1) (by first | omega | (simp; done) | (simp; omega)) (by intro h; (first | (simp [Value.ownBlock] at h; done) | (simp [Value.ownBlock] at h; omega)))).trans (by ((try rw [drew_heap3]); (first | exact heap_new (by first | omega | (simp; done) | (simp; omega)) | (rw [Below.heap_alloc _ _ _ (by first | omega | (simp; done) | (simp; omega))]; exact heap_new (by first | omega | (simp; done) | (simp; omega))) | (rw [Below.heap_alloc _ _ _ (by first | omega | (simp; done) | (simp; omega)), Below.heap_alloc _ _ _ (by first | omega | (simp; done) | (simp; omega))]; exact heap_new (by first | omega | (simp; done) | (simp; omega))))))) | (have hzr : w6.heap[w2.heap.size + 2]? = some (.cells #[.int .i64 0, .int .i64 0, .string ⟨#[]⟩, .string ⟨#[]⟩, .int .i64 0, .int .i64 0, .slice none 0 0, .slice none 0 0, .slice none 0 0] 35 (0, 0)) := (hk6 (w2.heap.size + 2) (by first | omega | (simp; done) | (simp; omega)) (by intro h; (first | (simp [Value.ownBlock] at h; done) | (simp [Value.ownBlock] at h; omega)))).trans (by ((try rw [drew_heap3]); (first | exact heap_new (by first | omega | (simp; done) | (simp; omega)) | (rw [Below.heap_alloc _ _ _ (by first | omega | (simp; done) | (simp; omega))]; exact heap_new (by first | omega | (simp; done) | (simp; omega))) | (rw [Below.heap_alloc _ _ _ (by first | omega | (simp; done) | (simp; omega)), Below.heap_alloc _ _ _ (by first | omega | (simp; done) | (simp; omega))]; exact heap_new (by first | omega | (simp; done) | (simp; omega))))))) | skip)))
        all_goals
          go_wp2_with fail
          go_meet
          obtain ⟨bn, hfO, hnd, hrg⟩ := hO7
          refine ⟨_, D6, d6, za, la, ca, zb, lb, cb, zc, lc, cc, rfl, rfl, ?_, ?_, ?_, ?_⟩
          first
            | (with_reducible exact hb27.alloc hb27.size _
               exact hb27.size
               exact heap_new rfl
               refine ⟨bn, FldO.keep (fun g hg => Below.heap_alloc _ _ _ (hrg g hg).2) hfO, hnd, fun g hg => ?_⟩
               (have hg1 := hrg g hg; (try simp only [World.size_alloc, World.size_drew] at hg1); simp; omega))
            | ((with_reducible refine hb27.trans (Below.mono (nest9_belowS _ _ _ _ _ _ _ _ _ _ _) ?_))
               (first | omega | (simp; done) | (simp; omega))
               (first | omega | (simp; done) | (simp; omega))
               exact nest9_rowS hzr7 _ _ _ _ _ _ _ _ _
               refine ⟨bn, FldO.keep (fun g hg => nest9_otherS _ _ _ _ _ _ _ _ _ _ _ g ?_) hfO, hnd, fun g hg => ?_⟩
               (have hg1 := (hrg g hg).1; (try simp only [World.size_alloc, World.size_drew] at hg1); omega)
               (have hg1 := hrg g hg; (try simp only [World.size_alloc, World.size_drew] at hg1); simp; omega))
      case rest =>
        obtain ⟨q6, D6, d6, za, la, ca, zb, lb, cb, zc, lc, cc, rfl, rfl, hb2c, hq6, hc0, hO⟩ := hcut
        have hzc := hb2c.size
        have hbXc : Below X.heap.size X wc := hb2X.trans (hb2c.mono (by omega))
        have hq6l := (Array.getElem?_eq_some_iff.1 hc0).1
        have hF0 : Hid (FmO w2.heap.size wc.heap.size wc D6 d6 P za la zb lb zc lc) := hO
        have hOf := hO.fm
        have hPI : ok = true → P = putF t qs x ∧ putOk F qs = true := fun h => by
          have h1 := HP.out.1
          have h2 := HP.out.2
          cases hq : putOk F qs with
          | false => rw [spR_no hq, h] at h2; cases h2
          | true => rw [spR_yes hq] at h1; exact ⟨h1.symm, rfl⟩
        have hPN : ok = false → putOk F qs = false := fun h => by
          have h2 := HP.out.2
          cases hq : putOk F qs with
          | false => rfl
          | true => rw [spR_yes hq, h] at h2; cases h2
        clear hO x0 x1 x2 x3 x4 x5 x6 x7 x8 j0 j1 j2 j3 j4 j5 j6 j7 j8
        obtain ⟨a0, a1', a2', a3', a4, a5, a6, a7, a8⟩ := Nine.box hc0
        cases ok with
        | false =>
          have HN : Hid (putOk F qs = false) := hPN rfl
          clear hPI hPN
          have rr := (hbXc.block (w.heap.size + 2) (by omega)).trans hX2
          obtain ⟨y0, y1, y2, y3, y4, y5, y6, y7, y8⟩ := Nine.box rr
          have yf := row_free rr
          go_wp2_with fail
          (try simp only [Exit.inBlock, Exit.then]); refine bodyPost_ret (v := .tuple #[.agg #[.int .i64 0, .int .i64 0, .string ⟨#[]⟩, .string ⟨#[]⟩, .int .i64 0, .int .i64 0, .slice none 0 0, .slice none 0 0, .slice none 0 0], .bool false]) (by simp [results, Try.results10, go_sem, y0, y1, y2, y3, y4, y5, y6, y7, y8]) rfl ?_
          exact HNO.out wc hbXc (fun h => by have h3 := h.2.2.1; rw [HQS.out, HFT.out, HN.out] at h3; cases h3)
        | true =>
          obtain ⟨hPe, hpo⟩ := hPI rfl
          have HPE : Hid (P = putF t qs x ∧ putOk F qs = true) := ⟨hPe, hpo⟩
          clear hPI hPN hPe hpo
          have K4 := sTermOk_any D6 d6 w2.heap.size wc.heap.size P za la ca zb lb cb zc lc cc wc (Nat.le_refl _) hOf
          cases hoP : okM P with
          | false =>
            have HO : Hid (okM P = false) := hoP
            rw [HO.out] at K4
            clear hoP
            go_wp2_with fail
            refine K4.mono ?_
            rintro e w7 ⟨rfl, hb7⟩
            have hb7X : Below X.heap.size X w7 := hbXc.trans (hb7.mono (by omega))
            have rr := (hb7X.block (w.heap.size + 2) (by omega)).trans hX2
            obtain ⟨y0, y1, y2, y3, y4, y5, y6, y7, y8⟩ := Nine.box rr
            have yf := row_free rr
            go_wp2_with fail
            (try simp only [Exit.inBlock, Exit.then]); refine bodyPost_ret (v := .tuple #[.agg #[.int .i64 0, .int .i64 0, .string ⟨#[]⟩, .string ⟨#[]⟩, .int .i64 0, .int .i64 0, .slice none 0 0, .slice none 0 0, .slice none 0 0], .bool false]) (by simp [results, Try.results10, go_sem, y0, y1, y2, y3, y4, y5, y6, y7, y8]) rfl ?_
            exact HNO.out w7 hb7X (fun h => by have h3 := h.2.2.2; rw [HQS.out, ← HPE.out.1, HO.out] at h3; cases h3)
          | true =>
            have HO : Hid (okM P = true) := hoP
            rw [HO.out] at K4
            clear hoP
            go_wp2_with fail
            refine K4.mono ?_
            rintro e w7 ⟨rfl, hb7⟩
            have hz7 := hb7.size
            have hb7X : Below X.heap.size X w7 := hbXc.trans (hb7.mono (by omega))
            have rr := (hb7X.block (w.heap.size + 2) (by omega)).trans hX2
            obtain ⟨y0, y1, y2, y3, y4, y5, y6, y7, y8⟩ := Nine.box rr
            have yf := row_free rr
            have hc7 := (hb7.block q6 hq6l).trans hc0
            clear a0 a1' a2' a3' a4 a5 a6 a7 a8
            obtain ⟨a0, a1', a2', a3', a4, a5, a6, a7, a8⟩ := Nine.box hc7
            have HFIN : Hid (∀ W', W' = set9 w7 (w.heap.size + 2) 0 (.int .i64 P.K) (.int .i64 P.N) (.string P.S) (.string P.Z) (.int .i64 P.T.K) (.int .i64 P.T.N) (.slice za la ca) (.slice zb lb cb) (.slice zc lc cc) → PutE w W' (.returned (.tuple #[.agg #[.int .i64 P.K, .int .i64 P.N, .string P.S, .string P.Z, .int .i64 P.T.K, .int .i64 P.T.N, .slice za la ca, .slice zb lb cb, .slice zc lc cc], .bool true])) (putT (bs s) t x)) := fun W' hW' => by
              rw [putT_yes ⟨HT.out, HTX.out, by rw [HQS.out, HFT.out]; exact HPE.out.2, by rw [HQS.out, ← HPE.out.1]; exact HO.out⟩, HQS.out, ← HPE.out.1]
              have hWb : Below w.heap.size w W' := by rw [hW']; exact set9_below (hXb.trans (hb7X.mono (by omega))) (by omega)
              have hWs : W'.heap.size = w7.heap.size := by rw [hW']; exact set9_size _ _ _ _ _ _ _ _ _ _ _ _
              have hWo : ∀ g, g ≠ w.heap.size + 2 → W'.heap[g]? = w7.heap[g]? := fun g hg => by rw [hW']; exact set9_other g hg
              obtain ⟨bn, hfO, hnd, hrg⟩ := hF0.out
              refine ⟨D6, d6, za, la, ca, zb, lb, cb, zc, lc, cc, rfl, hWb, bn, FldO.keep (fun g hg => ?_) hfO, hnd, fun g hg => ?_⟩
              · have := hrg g hg
                exact (hWo g (by omega)).trans (hb7.block g this.2)
              · have := hrg g hg
                omega
            clear K4
            go_wp2_with fail
            (try simp only [Exit.inBlock, Exit.then]); refine bodyPost_ret (v := .tuple #[.agg #[.int .i64 P.K, .int .i64 P.N, .string P.S, .string P.Z, .int .i64 P.T.K, .int .i64 P.T.N, .slice za la ca, .slice zb lb cb, .slice zc lc cc], .bool true]) (by simp [results, Try.results10, go_sem, y0, y1, y2, y3, y4, y5, y6, y7, y8]) rfl ?_
            exact HFIN.out _ rfl

end Go.Proofs.Ytbdmdgghhefmcaa
