/-
  The model's 'Alloc'.
-/
import Derived.Test.YtapamdjoipofmaaDoorFcdZ19
import Derived.Test.YtapamdjoipofmaaDoorFcdZ36
import Derived.Test.YtapamdjoipofmaaDoorFcdZ7
namespace Go.Proofs.YtapamdjoipofmaaDoor
open Go.RowKit
set_option linter.unusedVariables false
set_option linter.unusedSimpArgs false

theorem cntI_eq {x : Wrd} {n : Nat} : cntI x = (n : Int) ↔ cntH x = some n := by
  unfold cntI
  cases cntH x with
  | none => simp
  | some c => simp; omega

set_option maxRecDepth 100000 in
set_option maxHeartbeats 4000000 in
theorem sAlloc_any (L B Lf Bf : Nat) (s : Int) (ao : Option Addr) (len cap : Nat) (l : List Wrd) (x : Wrd) (af : Option Addr) (nf cf : Nat) (f : List Wrd) (w : World) (hB : B ≤ w.heap.size) (hBf : Bf ≤ w.heap.size) (hs : Ws L B w ao len l) (hf : Ws Lf Bf w af nf f) (hl : len ≤ 1048576) (hlf : nf ≤ 1048576) :
    Calls Tryd.prog 29 #[vH s ao len cap, vW x, .slice af nf cf] w fun e w' => AlEnd w.heap.size s l x f (alB s l x f) e w' ∧ Below w.heap.size w w' := by
  have HL : Hid (len = l.length) := hs.1
  have HF : Hid (nf = f.length) := hf.1
  obtain ⟨q, hq0⟩ : ∃ q, alB s l x f = q := ⟨_, rfl⟩
  have HA : Hid (alB s l x f = q) := hq0
  rw [hq0]
  clear hq0
  obtain ⟨X, hX⟩ : ∃ X, X = (((w.alloc (.cells #[.int .i64 s, .slice ao len cap] 26)).alloc (.cells #[.int .i64 x.K, .int .i64 x.N] 34)).alloc (.cells #[.int .i64 0, .slice none 0 0] 26)).alloc (.cells #[.int .i64 0, .int .i64 0] 34) := ⟨_, rfl⟩
  have hXs : X.heap.size = w.heap.size + 4 := by rw [hX]; simp
  have hXb : Below w.heap.size w X := by rw [hX]; exact ((((Below.refl _ _).alloc (Nat.le_refl _) _).alloc (by simp) _).alloc (by simp; omega) _).alloc (by simp; omega) _
  have x0 : X.heap[w.heap.size]? = some (.cells #[.int .i64 s, .slice ao len cap] 26 (0, 0)) := by
    rw [hX, Below.heap_alloc _ _ _ (by simp; omega), Below.heap_alloc _ _ _ (by simp; omega), Below.heap_alloc _ _ _ (by simp)]; exact heap_new (by simp)
  have x1 : X.heap[w.heap.size + 1]? = some (.cells #[.int .i64 x.K, .int .i64 x.N] 34 (0, 0)) := by
    rw [hX, Below.heap_alloc _ _ _ (by simp), Below.heap_alloc _ _ _ (by simp)]; exact heap_new (by simp)
  have x2 : X.heap[w.heap.size + 1 + 1]? = some (.cells #[.int .i64 0, .slice none 0 0] 26 (0, 0)) := by
    rw [hX, Below.heap_alloc _ _ _ (by simp)]; exact heap_new (by simp)
  have x3 : X.heap[w.heap.size + 1 + 1 + 1]? = some (.cells #[.int .i64 0, .int .i64 0] 34 (0, 0)) := by
    rw [hX]; exact heap_new (by simp)
  have K1 := l12Copy_any L B s ao len cap l X (by omega) (hs.below hXb hB) hl
  obtain ⟨f0, f1⟩ := cells2 x0
  have HX : Hid (X = _) := hX
  have HXS : Hid (X.heap.size = w.heap.size + 4) := hXs
  have hx0 : w.heap.size < X.heap.size := by omega
  have hx1 : w.heap.size + 1 < X.heap.size := by omega
  have hx2 : w.heap.size + 1 + 1 < X.heap.size := by omega
  have hx3 : w.heap.size + 1 + 1 + 1 < X.heap.size := by omega
  have hxw : w.heap.size ≤ X.heap.size := by omega
  clear hX hXs
  go_enter Tryd.func29, Tryd.ntmps29
  go_wp2_with fail
  rw [← HX.out]
  refine K1.mono ?_
  rintro e w1 ⟨a1, c1, rfl, hN1, hX1⟩
  clear K1 f0 f1
  have hX1s := hX1.size
  obtain ⟨W1, hW1⟩ : ∃ W1, W1 = w1.alloc (.cells #[.int .i64 s, .slice a1 len c1] 26) := ⟨_, rfl⟩
  have hW1b : Below w1.heap.size w1 W1 := by rw [hW1]; exact (Below.refl _ _).alloc (Nat.le_refl _) _
  have b9 : W1.heap[w1.heap.size]? = some (.cells #[.int .i64 s, .slice a1 len c1] 26 (0, 0)) := by rw [hW1]; exact heap_new rfl
  have HN1 : Hid (Wors X.heap.size W1 (.slice a1 len c1) l) := wors_bel hN1 hW1b
  have hW1s : W1.heap.size = w1.heap.size + 1 := by rw [hW1]; simp
  have hXW1 : Below X.heap.size X W1 := hX1.trans (hW1b.mono hX1s)
  have hwW1 : Below w.heap.size w W1 := hXb.trans (hXW1.mono hxw)
  obtain ⟨p0, p1⟩ := cells2 ((hX1.block _ hx0).trans x0)
  have K2 := sHeapOk_any L B s ao len cap l W1 (by have := hwW1.size; omega) (hs.below hwW1 hB) hl
  have HW1 : Hid (W1 = _) := hW1
  have hx0w1 : w.heap.size < w1.heap.size := by omega
  have HN9w : Hid (∀ g, (Value.slice a1 len c1).ownBlock = some g → g < w1.heap.size) := fun g hg => (wors_own hN1 hg).2
  clear hW1 hN1
  go_wp2_with fail
  rw [← HW1.out]
  refine K2.mono ?_
  rintro e w2 ⟨rfl, hb2⟩
  clear K2 p0 p1
  have hb2s := hb2.size
  have h1w2 : Below W1.heap.size W1 w2 := hb2
  have hXw2 : Below X.heap.size X w2 := hXW1.trans (hb2.mono hXW1.size)
  have hww2 : Below w.heap.size w w2 := hXb.trans (hXw2.mono hxw)
  rw [hW1s] at h1w2
  obtain ⟨p0, p1⟩ := cells2 ((hXw2.block _ hx0).trans x0)
  obtain ⟨p2, p3⟩ := cells2 ((hXw2.block _ hx1).trans x1)
  rw [← hW1s] at h1w2
  cases hok : okH s l with
  | false =>
    have HQ : Hid (q = false) := HA.out.symm.trans (alB_no1 hok)
    clear hok
    have y9 := (h1w2.block w1.heap.size (by omega)).trans b9
    have z2 := (hXw2.block _ hx2).trans x2
    have z3 := (hXw2.block _ hx3).trans x3
    obtain ⟨i0, i1⟩ := cells2 y9
    obtain ⟨m0, m1⟩ := cells2 z2
    obtain ⟨m2, m3⟩ := cells2 z3
    have m4 := row_free z2
    have m5 := row_free z3
    have hw9 : Below w.heap.size w w2 := hXb.trans (hXw2.mono hxw)
    have FIN : Hid (∀ Z, _ → _) := lay_four (by omega) z2 z3 (by omega) (by omega) hw9 (.int .i64 s) (.slice a1 len c1) (.int .i64 0) (.int .i64 0)
    have HN9 : Hid (∀ Z : World, (∀ k, k ≠ w.heap.size + 1 + 1 → k ≠ w.heap.size + 1 + 1 + 1 → Z.heap[k]? = w2.heap[k]?) → Wors w.heap.size Z (.slice a1 len c1) l) := by
      intro Z hZ
      refine wors_keep (wors_le (wors_bel HN1.out h1w2) hxw) (fun g hg => ?_)
      have hg1 := (wors_own HN1.out hg).1
      exact hZ g (by have := HXS.out; omega) (by have := HXS.out; omega)
    clear z2 z3 y9
    go_wp2_with fail
    obtain ⟨g1, g2, g3, g4, g5⟩ := FIN.out _ (Or.inl rfl)
    obtain ⟨j0, j1⟩ := cells2 g1
    obtain ⟨j2, j3⟩ := cells2 g2
    refine bodyPost_ret (v := .tuple #[vH s a1 len c1, vW ⟨0, 0⟩, .bool false]) (by simp [results, Tryd.results29, go_sem, j0, j1, j2, j3]) rfl ?_
    rw [HQ.out]
    exact ⟨⟨a1, len, c1, rfl, HL.out, HN9.out _ g4⟩, g3⟩
  | true =>
    have HOK : Hid (okH s l = true) := hok
    have K3 := l12Fields_any x w2
    clear hok
    go_wp2_with fail
    refine K3.mono ?_
    rintro e w3 ⟨rfl, hb3⟩
    clear K3 p0 p1 p2 p3
    have h1w3 : Below W1.heap.size W1 w3 := h1w2.trans (hb3.mono hb2s)
    have hXw3 : Below X.heap.size X w3 := hXw2.trans (hb3.mono hXw2.size)
    have hww3 : Below w.heap.size w w3 := hXb.trans (hXw3.mono hxw)
    obtain ⟨p0, p1⟩ := cells2 ((hXw3.block _ hx0).trans x0)
    obtain ⟨p2, p3⟩ := cells2 ((hXw3.block _ hx1).trans x1)
    have HCE := @cntI_eq x nf
    by_cases hcn : cntI x = (nf : Int)
    · have HC : Hid (cntH x = some f.length) := by show _ = _; rw [HCE.1 hcn, HF.out]
      rw [hcn]
      clear HCE hcn
      by_cases hfit : (len : Int) + nf + 1 ≤ s
      · have HFIT : Hid ((l.length : Int) + 1 + f.length ≤ s) := by show _ ≤ _; rw [← HL.out, ← HF.out]; omega
        have K4 := l12Heads_any L B ao len cap l w3 (by have := hww3.size; omega) (hs.below hww3 hB) hl
        go_wp2_with fail
        refine K4.mono ?_
        rintro e w4 ⟨rfl, hb4, hR⟩
        clear K4 p0 p1 p2 p3
        have hb4s := hb4.size
        have h1w4 : Below W1.heap.size W1 w4 := h1w3.trans (hb4.mono h1w3.size)
        have hRl := hR.lt
        generalize decide (endO l = l.length) = wh
        go_wp2_with fail
        go_loopw [12] (fun i wr => ∃ k : Nat, k ≤ nf ∧ i = .int .i64 k ∧ Hid ((f.take k).all (rgt (heads l)) = true) ∧ Below w4.heap.size w4 wr) (fun i _ => nf - (intOf i).toNat)
        case atStart => exact ⟨0, by omega, rfl, rfl, Below.refl _ _⟩
        case round =>
          obtain ⟨k, hk, rfl, HT, hbr⟩ := hrel
          have hsr := hbr.size
          have h1wr : Below W1.heap.size W1 wr := h1w4.trans (hbr.mono h1w4.size)
          have hXwr : Below X.heap.size X wr := hXW1.trans (h1wr.mono hXW1.size)
          have hwwr : Below w.heap.size w wr := hXb.trans (hXwr.mono hxw)
          by_cases hlt : k < nf
          · have hlt' : k < f.length := by have := HF.out; omega
            obtain ⟨b, o, rfl, _, hbB, htw⟩ := hf.2.2 k hlt'
            obtain ⟨e0, e1⟩ := htw.block (hwwr.block b (by omega))
            have HTT := all_take (rgt (heads l)) f k hlt'
            rw [HT.out, Bool.true_and] at HTT
            have HT' : Hid ((f.take (k + 1)).all (rgt (heads l)) = rgt (heads l) f[k]) := HTT
            have HAF : Hid (rgt (heads l) f[k] = false → f.all (rgt (heads l)) = false) := all_false _ _ k hlt'
            have K5 := l12Word_any w3.heap.size len len (heads l) f[k] wr (hR.bel hbr hRl) (by rw [heads_len]; exact HL.out) hl
            clear HTT htw
            generalize f[k] = y at *
            obtain ⟨qq, hqq⟩ : ∃ qq, rgt (heads l) y = qq := ⟨_, rfl⟩
            rw [hqq] at K5 HT' HAF
            clear hqq
            go_wp2_with fail
            refine K5.mono ?_
            rintro e w5 ⟨rfl, hb5⟩
            clear K5
            cases qq with
            | true =>
              go_wp2_with fail
              go_roundw
              case rel => exact ⟨k + 1, by omega, by go_num, HT', hbr.trans (hb5.mono hsr)⟩
              case measure => simp [intOf]; omega
            | false =>
              have HQ : Hid (q = false) := HA.out.symm.trans (alB_no3 (HAF.out (by trivial)))
              have h1w5 : Below W1.heap.size W1 w5 := h1wr.trans (hb5.mono h1wr.size)
              have hXw5 : Below X.heap.size X w5 := hXW1.trans (h1w5.mono hXW1.size)
              have y9 := (h1w5.block w1.heap.size (by omega)).trans b9
              have z2 := (hXw5.block _ hx2).trans x2
              have z3 := (hXw5.block _ hx3).trans x3
              obtain ⟨i0, i1⟩ := cells2 y9
              obtain ⟨m0, m1⟩ := cells2 z2
              obtain ⟨m2, m3⟩ := cells2 z3
              have m4 := row_free z2
              have m5 := row_free z3
              have hw9 : Below w.heap.size w w5 := hXb.trans (hXw5.mono hxw)
              have FIN : Hid (∀ Z, _ → _) := lay_four (by omega) z2 z3 (by omega) (by omega) hw9 (.int .i64 s) (.slice a1 len c1) (.int .i64 0) (.int .i64 0)
              have HN9 : Hid (∀ Z : World, (∀ k, k ≠ w.heap.size + 1 + 1 → k ≠ w.heap.size + 1 + 1 + 1 → Z.heap[k]? = w5.heap[k]?) → Wors w.heap.size Z (.slice a1 len c1) l) := by
                intro Z hZ
                refine wors_keep (wors_le (wors_bel HN1.out h1w5) hxw) (fun g hg => ?_)
                have hg1 := (wors_own HN1.out hg).1
                exact hZ g (by have := HXS.out; omega) (by have := HXS.out; omega)
              clear z2 z3 y9
              go_wp2_with fail
              obtain ⟨g1, g2, g3, g4, g5⟩ := FIN.out _ (Or.inl rfl)
              obtain ⟨j0, j1⟩ := cells2 g1
              obtain ⟨j2, j3⟩ := cells2 g2
              refine bodyPost_ret (v := .tuple #[vH s a1 len c1, vW ⟨0, 0⟩, .bool false]) (by simp [results, Tryd.results29, go_sem, j0, j1, j2, j3]) rfl ?_
              rw [HQ.out]
              exact ⟨⟨a1, len, c1, rfl, HL.out, HN9.out _ g4⟩, g3⟩
          · have HALL : Hid (f.all (rgt (heads l)) = true) := by show _ = _; rw [← HT.out, List.take_of_length_le (by have := HF.out; omega)]
            have HQ : Hid (q = true) := HA.out.symm.trans (alB_yes HOK.out HC.out HALL.out HFIT.out)
            have y9 := (h1wr.block w1.heap.size (by omega)).trans b9
            obtain ⟨i0, i1⟩ := cells2 y9
            obtain ⟨p0, p1⟩ := cells2 ((hXwr.block _ hx0).trans x0)
            obtain ⟨p2, p3⟩ := cells2 ((hXwr.block _ hx1).trans x1)
            have hNr := wors_bel HN1.out h1wr
            have hbY : Below wr.heap.size wr (wr.alloc (.cells #[.int .i64 x.K, .int .i64 x.N] 34)) := (Below.refl _ _).alloc (Nat.le_refl _) _
            have hone : Ws 0 (wr.alloc (.cells #[.int .i64 x.K, .int .i64 x.N] 34)).heap.size (wr.alloc (.cells #[.int .i64 x.K, .int .i64 x.N] 34)) (some ⟨wr.heap.size, 0, none⟩) 1 [x] := by
              have hY0 : (wr.alloc (.cells #[.int .i64 x.K, .int .i64 x.N] 34)).heap[wr.heap.size]? = some (.cells #[.int .i64 x.K, .int .i64 x.N] 34 (0, 0)) := heap_new rfl
              refine ⟨rfl, by omega, fun i hi => ⟨wr.heap.size, 0, rfl, Nat.zero_le _, by simp, ?_⟩⟩
              obtain rfl : i = 0 := by simp at hi; exact hi
              exact ⟨row_cell hY0 0, row_cell hY0 1⟩
            have hXr := hXwr.size
            have h1rs := h1wr.size
            obtain ⟨ao2, cap2, wB, r2, hN2, hg2, ho2⟩ := wors_app2 (wors_bel hNr hbY) (by simp; omega) 1 hone (by rw [← HL.out]; omega)
            have hXY : Below X.heap.size X (wr.alloc (.cells #[.int .i64 x.K, .int .i64 x.N] 34)) := hXwr.alloc hXr _
            have hXB : Below X.heap.size X wB := grown_to hg2 (wors_bel hNr hbY) hXY (by simp; omega)
            have hBs := hg2.size
            simp only [World.size_alloc] at hBs
            have hwB : Below w.heap.size w wB := hXb.trans (hXB.mono hxw)
            obtain ⟨ao3, cap3, wC, r3, hN3, hg3, ho3⟩ := wors_app2 hN2 hXB.size cf (hf.below hwB hBf) (by rw [List.length_append, ← HL.out]; simp; omega)
            have hXC : Below X.heap.size X wC := grown_to hg3 hN2 hXB hXB.size
            have hne1 : ∀ g, (Value.slice a1 len c1).ownBlock = some g → g < w1.heap.size := fun g hg => by
              have h8 := HN9w.out g hg
              omega
            have hq9 : wC.heap[w1.heap.size]? = some (.cells #[.int .i64 s, .slice a1 len c1] 26 (0, 0)) := by
              refine (hg3.block w1.heap.size (by omega) (fun e => ?_)).trans ((hg2.block w1.heap.size (by simp; omega) (fun e => ?_)).trans ((hbY.block _ (by omega)).trans y9))
              · rcases ho2 _ e.symm with h | h
                · have := hne1 _ h; omega
                · simp at h; omega
              · have := hne1 _ e.symm; omega
            have hlA : Hid ((l ++ [x]).length = len + 1) := by show _ = _; rw [List.length_append, ← HL.out]; rfl
            rw [← HL.out] at r2
            rw [hlA.out, ← HL.out] at r3
            rw [hlA.out] at hN3 ho3
            have HR2 : Hid (_ = _) := r2
            have HR3 : Hid (_ = _) := r3
            have h1r : w1.heap.size < wr.heap.size := by omega
            have k1 := row_cell hq9 1
            have k1f := row_free hq9 1
            obtain ⟨U, hU⟩ : ∃ U, U = wC.setCell ⟨w1.heap.size, 1, none⟩ (.slice ao3 (len + 1 + nf) cap3) := ⟨_, rfl⟩
            have hU9 : U.heap[w1.heap.size]? = some (.cells #[.int .i64 s, .slice ao3 (len + 1 + nf) cap3] 26 (0, 0)) := by
              rw [hU]
              have := row_set hq9 1 (.slice ao3 (len + 1 + nf) cap3)
              rw [this]
              simp
            have hXU : Below X.heap.size X U := by rw [hU]; exact hXC.setCell (p := ⟨w1.heap.size, 1, none⟩) hX1s _
            have HNU : Hid (Wors w.heap.size U (.slice ao3 (len + 1 + nf) cap3) (l ++ [x] ++ f)) := by
              refine wors_keep (wors_le hN3 hxw) (fun g hg => ?_)
              rw [hU]
              refine row_other _ _ _ (fun e => ?_)
              rcases ho3 _ hg with h | h
              · rcases ho2 _ h with h | h
                · have := hne1 _ h; omega
                · simp at h; omega
              · omega
            have HOWN : Hid (∀ g, (Value.slice ao3 (len + 1 + nf) cap3).ownBlock = some g → X.heap.size ≤ g) := fun g hg => (wors_own hN3 hg).1
            have z2 := (hXU.block _ hx2).trans x2
            have z3 := (hXU.block _ hx3).trans x3
            have hwU : Below w.heap.size w U := hXb.trans (hXU.mono hxw)
            obtain ⟨m0, m1⟩ := cells2 z2
            obtain ⟨m2, m3⟩ := cells2 z3
            have m4 := row_free z2
            have m5 := row_free z3
            obtain ⟨n0, n1⟩ := cells2 hU9
            obtain ⟨s0, s1⟩ := cells2 ((hXU.block _ hx0).trans x0)
            have FIN : Hid (∀ Z, _ → _) := lay_four (by omega) z2 z3 (by omega) (by omega) hwU (.int .i64 s) (.slice ao3 (len + 1 + nf) cap3) (.int .i64 4) (.int .i64 (len : Int))
            have HN9 : Hid (∀ Z : World, (∀ q, q ≠ w.heap.size + 1 + 1 → q ≠ w.heap.size + 1 + 1 + 1 → Z.heap[q]? = U.heap[q]?) → Wors w.heap.size Z (.slice ao3 (len + 1 + nf) cap3) (l ++ [x] ++ f)) := by
              intro Z hZ
              refine wors_keep HNU.out (fun g hg => ?_)
              have hg1 := HOWN.out g hg
              exact hZ g (by have := HXS.out; omega) (by have := HXS.out; omega)
            have HPL : Hid (len + 1 + nf = (l ++ [x] ++ f).length) := by show _ = _; rw [List.length_append, hlA.out, ← HF.out]
            have HU : Hid (U = _) := hU
            have hx0r : w.heap.size < wr.heap.size := by omega
            have hx1r : w.heap.size + 1 < wr.heap.size := by omega
            clear r2 r3 hN2 hN3 hg2 hg3 ho2 ho3 hU z2 z3 hq9 hU9 hone hNr hne1 y9 HNU hXY hBs hbY
            go_wp2_with (first | (at_builtin; refine list_run HR2.out (by rfl) _ _ (by rfl) (by rfl) (by rfl) (by rfl) ?_; clear HR2) | (at_builtin; refine list_run HR3.out (by rfl) _ _ (by rfl) (by rfl) (by rfl) (by rfl) ?_; clear HR3))
            rw [← HU.out]
            go_region
            all_goals
              go_wp2_with fail
              obtain ⟨g1, g2, g3, g4, g5⟩ := FIN.out _ (by first | exact Or.inl rfl | exact Or.inr rfl)
              obtain ⟨j0, j1⟩ := cells2 g1
              obtain ⟨j2, j3⟩ := cells2 g2
              refine bodyPost_ret (v := .tuple #[vH s ao3 (len + 1 + nf) cap3, vW ⟨4, (len : Int)⟩, .bool true]) (by simp [results, Tryd.results29, go_sem, j0, j1, j2, j3]) rfl ?_
              rw [HQ.out]
              exact ⟨⟨ao3, len + 1 + nf, cap3, by show _ = Ending.returned (.tuple #[vH s ao3 (len + 1 + nf) cap3, vW ⟨4, ((l.length : Nat) : Int)⟩, .bool true]); rw [← HL.out], HPL.out, HN9.out _ g4⟩, by first | exact g3 | exact g3.drew⟩
      · have HQ : Hid (q = false) := HA.out.symm.trans (alB_no4 (by rw [← HL.out, ← HF.out]; omega))
        have y9 := (h1w3.block w1.heap.size (by omega)).trans b9
        have z2 := (hXw3.block _ hx2).trans x2
        have z3 := (hXw3.block _ hx3).trans x3
        obtain ⟨i0, i1⟩ := cells2 y9
        obtain ⟨m0, m1⟩ := cells2 z2
        obtain ⟨m2, m3⟩ := cells2 z3
        have m4 := row_free z2
        have m5 := row_free z3
        have hw9 : Below w.heap.size w w3 := hXb.trans (hXw3.mono hxw)
        have FIN : Hid (∀ Z, _ → _) := lay_four (by omega) z2 z3 (by omega) (by omega) hw9 (.int .i64 s) (.slice a1 len c1) (.int .i64 0) (.int .i64 0)
        have HN9 : Hid (∀ Z : World, (∀ k, k ≠ w.heap.size + 1 + 1 → k ≠ w.heap.size + 1 + 1 + 1 → Z.heap[k]? = w3.heap[k]?) → Wors w.heap.size Z (.slice a1 len c1) l) := by
          intro Z hZ
          refine wors_keep (wors_le (wors_bel HN1.out h1w3) hxw) (fun g hg => ?_)
          have hg1 := (wors_own HN1.out hg).1
          exact hZ g (by have := HXS.out; omega) (by have := HXS.out; omega)
        clear z2 z3 y9
        go_wp2_with fail
        obtain ⟨g1, g2, g3, g4, g5⟩ := FIN.out _ (Or.inl rfl)
        obtain ⟨j0, j1⟩ := cells2 g1
        obtain ⟨j2, j3⟩ := cells2 g2
        refine bodyPost_ret (v := .tuple #[vH s a1 len c1, vW ⟨0, 0⟩, .bool false]) (by simp [results, Tryd.results29, go_sem, j0, j1, j2, j3]) rfl ?_
        rw [HQ.out]
        exact ⟨⟨a1, len, c1, rfl, HL.out, HN9.out _ g4⟩, g3⟩
    · have HQ : Hid (q = false) := HA.out.symm.trans (alB_no2 (fun h => hcn (HCE.2 (by rw [HF.out]; exact h))))
      have hcn' : (cntI x == (nf : Int)) = false := beq_eq_false_iff_ne.2 hcn
      generalize cntI x = ci at *
      clear HCE
      have y9 := (h1w3.block w1.heap.size (by omega)).trans b9
      have z2 := (hXw3.block _ hx2).trans x2
      have z3 := (hXw3.block _ hx3).trans x3
      obtain ⟨i0, i1⟩ := cells2 y9
      obtain ⟨m0, m1⟩ := cells2 z2
      obtain ⟨m2, m3⟩ := cells2 z3
      have m4 := row_free z2
      have m5 := row_free z3
      have hw9 : Below w.heap.size w w3 := hXb.trans (hXw3.mono hxw)
      have FIN : Hid (∀ Z, _ → _) := lay_four (by omega) z2 z3 (by omega) (by omega) hw9 (.int .i64 s) (.slice a1 len c1) (.int .i64 0) (.int .i64 0)
      have HN9 : Hid (∀ Z : World, (∀ k, k ≠ w.heap.size + 1 + 1 → k ≠ w.heap.size + 1 + 1 + 1 → Z.heap[k]? = w3.heap[k]?) → Wors w.heap.size Z (.slice a1 len c1) l) := by
        intro Z hZ
        refine wors_keep (wors_le (wors_bel HN1.out h1w3) hxw) (fun g hg => ?_)
        have hg1 := (wors_own HN1.out hg).1
        exact hZ g (by have := HXS.out; omega) (by have := HXS.out; omega)
      clear z2 z3 y9
      go_wp2_with fail
      obtain ⟨g1, g2, g3, g4, g5⟩ := FIN.out _ (Or.inl rfl)
      obtain ⟨j0, j1⟩ := cells2 g1
      obtain ⟨j2, j3⟩ := cells2 g2
      refine bodyPost_ret (v := .tuple #[vH s a1 len c1, vW ⟨0, 0⟩, .bool false]) (by simp [results, Tryd.results29, go_sem, j0, j1, j2, j3]) rfl ?_
      rw [HQ.out]
      exact ⟨⟨a1, len, c1, rfl, HL.out, HN9.out _ g4⟩, g3⟩

end Go.Proofs.YtapamdjoipofmaaDoor
