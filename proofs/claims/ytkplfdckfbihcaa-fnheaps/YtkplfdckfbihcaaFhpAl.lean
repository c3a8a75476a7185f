/-
  The program's 'Alloc'.
-/
import Derived.Test.YtkplfdckfbihcaaFhpHq
import Derived.Test.YtkplfdckfbihcaaFhpCw
import Derived.Test.YtkplfdckfbihcaaFhpAp0
namespace Go.Proofs.Ytkplfdckfbihcaa
open Go.RowKit
set_option linter.unusedVariables false
set_option linter.unusedSimpArgs false

set_option maxRecDepth 100000 in
set_option maxHeartbeats 4000000 in
theorem alloc_any (L B Lf Bf : Nat) (s : Int) (ao : Option Addr) (len cap : Nat) (l : List Wrd) (x : Wrd) (af : Option Addr) (nf cf : Nat) (f : List Wrd) (w : World) (hB : B ≤ w.heap.size) (hBf : Bf ≤ w.heap.size) (hs : Ws L B w ao len l) (hf : Ws Lf Bf w af nf f) (hl : len ≤ 1048576) (hlf : nf ≤ 1048576) (hcap : len ≤ cap) :
    Calls Try.prog 7 #[vH s ao len cap, vW x, .slice af nf cf] w fun e w' => AlEnd w.heap.size s l x f (alB s l x f) e w' ∧ Below w.heap.size w w' := by
  have HL : Hid (len = l.length) := hs.1
  have HF : Hid (nf = f.length) := hf.1
  obtain ⟨q, hq0⟩ : ∃ q, alB s l x f = q := ⟨_, rfl⟩
  have HA : Hid (alB s l x f = q) := hq0
  rw [hq0]
  clear hq0
  obtain ⟨X, hX⟩ : ∃ X, X = (((w.alloc (.cells #[.int .i64 s, .slice ao len cap] 26)).alloc (.cells #[.int .i64 x.K, .int .i64 x.N] 28)).alloc (.cells #[.int .i64 0, .slice none 0 0] 26)).alloc (.cells #[.int .i64 0, .int .i64 0] 28) := ⟨_, rfl⟩
  have hXs : X.heap.size = w.heap.size + 4 := by rw [hX]; simp
  have hXb : Below w.heap.size w X := by rw [hX]; exact ((((Below.refl _ _).alloc (Nat.le_refl _) _).alloc (by simp) _).alloc (by simp; omega) _).alloc (by simp; omega) _
  have x0 : X.heap[w.heap.size]? = some (.cells #[.int .i64 s, .slice ao len cap] 26 (0, 0)) := by
    rw [hX, Below.heap_alloc _ _ _ (by simp; omega), Below.heap_alloc _ _ _ (by simp; omega), Below.heap_alloc _ _ _ (by simp)]; exact heap_new (by simp)
  have x1 : X.heap[w.heap.size + 1]? = some (.cells #[.int .i64 x.K, .int .i64 x.N] 28 (0, 0)) := by
    rw [hX, Below.heap_alloc _ _ _ (by simp), Below.heap_alloc _ _ _ (by simp)]; exact heap_new (by simp)
  have x2 : X.heap[w.heap.size + 1 + 1]? = some (.cells #[.int .i64 0, .slice none 0 0] 26 (0, 0)) := by
    rw [hX, Below.heap_alloc _ _ _ (by simp)]; exact heap_new (by simp)
  have x3 : X.heap[w.heap.size + 1 + 1 + 1]? = some (.cells #[.int .i64 0, .int .i64 0] 28 (0, 0)) := by
    rw [hX]; exact heap_new (by simp)
  have K1 := headsOf_any L B s ao len cap l X (by omega) (hs.below hXb hB) hl hcap
  obtain ⟨f0, f1⟩ := cells2 x0
  have HX : Hid (X = _) := hX
  have HXS : Hid (X.heap.size = w.heap.size + 4) := hXs
  have hx0 : w.heap.size < X.heap.size := by omega
  have hx1 : w.heap.size + 1 < X.heap.size := by omega
  have hx2 : w.heap.size + 1 + 1 < X.heap.size := by omega
  have hx3 : w.heap.size + 1 + 1 + 1 < X.heap.size := by omega
  have hxw : w.heap.size ≤ X.heap.size := by omega
  clear hX hXs
  cases hok0 : okH s l with
  | false =>
    have HQ : Hid (q = false) := HA.out.symm.trans (alB_no1 hok0)
    rw [hok0] at K1
    clear hok0
    go_enter Try.func7, Try.ntmps7
    go_wp2_with fail
    rw [← HX.out]
    refine K1.mono ?_
    rintro e w1 ⟨he, hX1⟩
    obtain rfl : e = .returned (.tuple #[.slice none 0 0, .bool false]) := he
    clear K1
    have hX1s := hX1.size
    have hw1 : Below w.heap.size w w1 := hXb.trans (hX1.mono hxw)
    obtain ⟨n0, n1⟩ := cells2 ((hX1.block _ hx1).trans x1)
    go_wp2_with fail
    refine (fieldCount_any x w1).mono ?_
    rintro e w2 ⟨⟨c, ok, rfl, hok, hcn, hc1, hc2⟩, hb2⟩
    have hXw2 : Below X.heap.size X w2 := hX1.trans (hb2.mono hX1.size)
    have hww2 : Below w.heap.size w w2 := hXb.trans (hXw2.mono hxw)
    clear n0 n1
    obtain ⟨p0, p1⟩ := cells2 ((hXw2.block _ hx0).trans x0)
    obtain ⟨p2, p3⟩ := cells2 ((hXw2.block _ hx1).trans x1)
    clear hcn hok
    go_wp2_with fail
    refine (ownHeap_any L B s ao len cap l w2 (by have := hww2.size; omega) (hs.below hww2 hB) hl).mono ?_
    rintro e w9 ⟨a9, c9, rfl, hN9, hb9⟩
    have hX9 : Below X.heap.size X w9 := hXw2.trans (hb9.mono hXw2.size)
    have z2 := (hX9.block _ hx2).trans x2
    have z3 := (hX9.block _ hx3).trans x3
    obtain ⟨m0, m1⟩ := cells2 z2
    obtain ⟨m2, m3⟩ := cells2 z3
    have m4 := row_free z2
    have m5 := row_free z3
    have hw9 : Below w.heap.size w w9 := hXb.trans (hX9.mono hxw)
    have FIN : Hid (∀ Z, _ → _) := lay_four (by omega) z2 z3 (by omega) (by omega) hw9 (.int .i64 s) (.slice a9 len c9) (.int .i64 0) (.int .i64 0)
    have HN9 : Hid (∀ Z : World, (∀ k, k ≠ w.heap.size + 1 + 1 → k ≠ w.heap.size + 1 + 1 + 1 → Z.heap[k]? = w9.heap[k]?) → Wors w.heap.size Z (.slice a9 len c9) l) := by
      intro Z hZ
      refine wors_keep (wors_le hN9 hww2.size) (fun g hg => ?_)
      have hg1 := (wors_own hN9 hg).1
      have hg2 := hXw2.size
      exact hZ g (by have := HXS.out; omega) (by have := HXS.out; omega)
    clear z2 z3 hN9
    go_wp2_with fail
    obtain ⟨g1, g2, g3, g4, g5⟩ := FIN.out _ (Or.inl rfl)
    obtain ⟨j0, j1⟩ := cells2 g1
    obtain ⟨j2, j3⟩ := cells2 g2
    refine bodyPost_ret (v := .tuple #[vH s a9 len c9, vW ⟨0, 0⟩, .bool false]) (by simp [results, Try.results7, go_sem, j0, j1, j2, j3]) rfl ?_
    rw [HQ.out]
    exact ⟨⟨a9, len, c9, rfl, HL.out, HN9.out _ g4⟩, g3⟩
  | true =>
    rw [hok0] at K1
    have HOK : Hid (okH s l = true) := hok0
    clear hok0
    go_enter Try.func7, Try.ntmps7
    go_wp2_with fail
    rw [← HX.out]
    refine K1.mono ?_
    rintro e w1 ⟨he, hX1⟩
    obtain ⟨g, rfl, hg, hR1⟩ := he
    clear K1
    have hX1s := hX1.size
    have hw1 : Below w.heap.size w w1 := hXb.trans (hX1.mono hxw)
    obtain ⟨n0, n1⟩ := cells2 ((hX1.block _ hx1).trans x1)
    go_wp2_with fail
    refine (fieldCount_any x w1).mono ?_
    rintro e w2 ⟨⟨c, ok, rfl, hok, hcn, hc1, hc2⟩, hb2⟩
    have hXw2 : Below X.heap.size X w2 := hX1.trans (hb2.mono hX1.size)
    have hww2 : Below w.heap.size w w2 := hXb.trans (hXw2.mono hxw)
    clear n0 n1
    obtain ⟨p0, p1⟩ := cells2 ((hXw2.block _ hx0).trans x0)
    obtain ⟨p2, p3⟩ := cells2 ((hXw2.block _ hx1).trans x1)
    have hR2 : BRow w2 g (heads l) := hR1.bel hb2 hR1.lt
    cases hcx : cntH x with
    | none =>
      have HQ : Hid (q = false) := HA.out.symm.trans (alB_no2 (by rw [hcx]; simp))
      rw [hcx] at hok
      obtain rfl : ok = false := hok
      clear hcn hcx
      go_wp2_with fail
      refine (ownHeap_any L B s ao len cap l w2 (by have := hww2.size; omega) (hs.below hww2 hB) hl).mono ?_
      rintro e w9 ⟨a9, c9, rfl, hN9, hb9⟩
      have hX9 : Below X.heap.size X w9 := hXw2.trans (hb9.mono hXw2.size)
      have z2 := (hX9.block _ hx2).trans x2
      have z3 := (hX9.block _ hx3).trans x3
      obtain ⟨m0, m1⟩ := cells2 z2
      obtain ⟨m2, m3⟩ := cells2 z3
      have m4 := row_free z2
      have m5 := row_free z3
      have hw9 : Below w.heap.size w w9 := hXb.trans (hX9.mono hxw)
      have FIN : Hid (∀ Z, _ → _) := lay_four (by omega) z2 z3 (by omega) (by omega) hw9 (.int .i64 s) (.slice a9 len c9) (.int .i64 0) (.int .i64 0)
      have HN9 : Hid (∀ Z : World, (∀ k, k ≠ w.heap.size + 1 + 1 → k ≠ w.heap.size + 1 + 1 + 1 → Z.heap[k]? = w9.heap[k]?) → Wors w.heap.size Z (.slice a9 len c9) l) := by
        intro Z hZ
        refine wors_keep (wors_le hN9 hww2.size) (fun g hg => ?_)
        have hg1 := (wors_own hN9 hg).1
        have hg2 := hXw2.size
        exact hZ g (by have := HXS.out; omega) (by have := HXS.out; omega)
      clear z2 z3 hN9
      go_wp2_with fail
      obtain ⟨g1, g2, g3, g4, g5⟩ := FIN.out _ (Or.inl rfl)
      obtain ⟨j0, j1⟩ := cells2 g1
      obtain ⟨j2, j3⟩ := cells2 g2
      refine bodyPost_ret (v := .tuple #[vH s a9 len c9, vW ⟨0, 0⟩, .bool false]) (by simp [results, Try.results7, go_sem, j0, j1, j2, j3]) rfl ?_
      rw [HQ.out]
      exact ⟨⟨a9, len, c9, rfl, HL.out, HN9.out _ g4⟩, g3⟩
    | some k =>
      rw [hcx] at hok
      obtain rfl : ok = true := hok
      obtain rfl : c = (k : Int) := hcn k hcx
      clear hcn
      by_cases hkn : k = nf
      · subst hkn
        have HCX : Hid (cntH x = some f.length) := by show _ = _; rw [hcx, HF.out]
        have K2 := right_any g len len (heads l) Lf Bf af k cf f w2 hR2 (by rw [heads_len]; exact HL.out) hl (by have := hww2.size; omega) (hf.below hww2 hBf) hlf
        have HAL := alB_yes (s := s) (l := l) (x := x) (f := f) HOK.out HCX.out
        have HN3 := alB_no3 (s := s) (l := l) (x := x) (f := f)
        have HN4 := alB_no4 (s := s) (l := l) (x := x) (f := f)
        have HAL' : Hid (f.all (rgt (heads l)) = true → (l.length : Int) + 1 + f.length ≤ s → alB s l x f = true) := HAL
        have HN3' : Hid (f.all (rgt (heads l)) = false → alB s l x f = false) := HN3
        have HN4' : Hid (¬ (l.length : Int) + 1 + f.length ≤ s → alB s l x f = false) := HN4
        clear HAL HN3 HN4 hcx
        cases hq : f.all (rgt (heads l)) with
        | false =>
          have HQ : Hid (q = false) := HA.out.symm.trans (HN3'.out hq)
          rw [hq] at K2
          clear hq
          go_wp2_with fail
          refine K2.mono ?_
          rintro e w3 ⟨rfl, hb3⟩
          have hXw3 : Below X.heap.size X w3 := hXw2.trans (hb3.mono hXw2.size)
          have hww3 : Below w.heap.size w w3 := hXb.trans (hXw3.mono hxw)
          clear K2 p0 p1 p2 p3
          obtain ⟨p0, p1⟩ := cells2 ((hXw3.block _ hx0).trans x0)
          obtain ⟨p2, p3⟩ := cells2 ((hXw3.block _ hx1).trans x1)
          go_wp2_with fail
          refine (ownHeap_any L B s ao len cap l w3 (by have := hww3.size; omega) (hs.below hww3 hB) hl).mono ?_
          rintro e w9 ⟨a9, c9, rfl, hN9, hb9⟩
          have hX9 : Below X.heap.size X w9 := hXw3.trans (hb9.mono hXw3.size)
          have z2 := (hX9.block _ hx2).trans x2
          have z3 := (hX9.block _ hx3).trans x3
          obtain ⟨m0, m1⟩ := cells2 z2
          obtain ⟨m2, m3⟩ := cells2 z3
          have m4 := row_free z2
          have m5 := row_free z3
          have hw9 : Below w.heap.size w w9 := hXb.trans (hX9.mono hxw)
          have FIN : Hid (∀ Z, _ → _) := lay_four (by omega) z2 z3 (by omega) (by omega) hw9 (.int .i64 s) (.slice a9 len c9) (.int .i64 0) (.int .i64 0)
          have HN9 : Hid (∀ Z : World, (∀ k, k ≠ w.heap.size + 1 + 1 → k ≠ w.heap.size + 1 + 1 + 1 → Z.heap[k]? = w9.heap[k]?) → Wors w.heap.size Z (.slice a9 len c9) l) := by
            intro Z hZ
            refine wors_keep (wors_le hN9 hww3.size) (fun g hg => ?_)
            have hg1 := (wors_own hN9 hg).1
            have hg2 := hXw3.size
            exact hZ g (by have := HXS.out; omega) (by have := HXS.out; omega)
          clear z2 z3 hN9
          go_wp2_with fail
          obtain ⟨g1, g2, g3, g4, g5⟩ := FIN.out _ (Or.inl rfl)
          obtain ⟨j0, j1⟩ := cells2 g1
          obtain ⟨j2, j3⟩ := cells2 g2
          refine bodyPost_ret (v := .tuple #[vH s a9 len c9, vW ⟨0, 0⟩, .bool false]) (by simp [results, Try.results7, go_sem, j0, j1, j2, j3]) rfl ?_
          rw [HQ.out]
          exact ⟨⟨a9, len, c9, rfl, HL.out, HN9.out _ g4⟩, g3⟩
        | true =>
          by_cases hfit : (len : Int) + 1 + k ≤ s
          · have HQ : Hid (q = true) := HA.out.symm.trans (HAL'.out hq (by rw [← HL.out, ← HF.out]; exact hfit))
            rw [hq] at K2
            clear hq
            go_wp2_with fail
            refine K2.mono ?_
            rintro e w3 ⟨rfl, hb3⟩
            have hXw3 : Below X.heap.size X w3 := hXw2.trans (hb3.mono hXw2.size)
            have hww3 : Below w.heap.size w w3 := hXb.trans (hXw3.mono hxw)
            clear K2 p0 p1 p2 p3
            obtain ⟨p0, p1⟩ := cells2 ((hXw3.block _ hx0).trans x0)
            obtain ⟨p2, p3⟩ := cells2 ((hXw3.block _ hx1).trans x1)
            have hx0w : w.heap.size < w3.heap.size := by have := hXw3.size; omega
            have hx1w : w.heap.size + 1 < w3.heap.size := by have := hXw3.size; omega
            obtain ⟨Y, hY⟩ : ∃ Y, Y = (w3.alloc (.cells #[.int .i64 x.K, .int .i64 x.N] 28)).alloc (.cells #[.slice ao len cap, .slice (some ⟨w3.heap.size, 0, none⟩) 1 1, .slice af k cf] 24) := ⟨_, rfl⟩
            have hYb : Below w3.heap.size w3 Y := by rw [hY]; exact ((Below.refl _ _).alloc (Nat.le_refl _) _).alloc (by simp) _
            have hYs : Y.heap.size = w3.heap.size + 2 := by rw [hY]; simp
            have hY0 : Y.heap[w3.heap.size]? = some (.cells #[.int .i64 x.K, .int .i64 x.N] 28 (0, 0)) := by rw [hY, Below.heap_alloc _ _ _ (by simp)]; exact heap_new (by simp)
            have hY1 : Y.heap[w3.heap.size + 1]? = some (.cells #[.slice ao len cap, .slice (some ⟨w3.heap.size, 0, none⟩) 1 1, .slice af k cf] 24 (0, 0)) := by rw [hY]; exact heap_new (by simp)
            have hwY : Below w.heap.size w Y := hww3.trans (hYb.mono hww3.size)
            have hone : Ws 0 Y.heap.size Y (some ⟨w3.heap.size, 0, none⟩) 1 [x] := by
              refine ⟨rfl, by omega, fun i hi => ⟨w3.heap.size, 0, rfl, Nat.zero_le _, by omega, ?_⟩⟩
              obtain rfl : i = 0 := by simp at hi; exact hi
              exact ⟨row_cell hY0 0, row_cell hY0 1⟩
            have K3 := concat_three L B 0 Y.heap.size Lf Bf (w3.heap.size + 1) ao len cap (some ⟨w3.heap.size, 0, none⟩) 1 1 af k cf l [x] f Y (by omega) (by have := hwY.size; omega) (Nat.le_refl _) (by have := hwY.size; omega) (row_cell hY1 0) (row_cell hY1 1) (row_cell hY1 2) (hs.below hwY hB) hone (hf.below hwY hBf) (by omega) (by omega)
            have HY2 : Hid (Y = _) := hY
            have hX3s := hXw3.size
            clear hY
            go_wp2_with fail
            rw [← HY2.out]
            refine K3.mono ?_
            rintro e w9 ⟨a9, c9, rfl, hN9, hb9⟩
            clear K3 p0 p1 p2 p3
            have hX9 : Below X.heap.size X w9 := (hXw3.trans (hYb.mono hXw3.size)).trans (hb9.mono (by omega))
            have z2 := (hX9.block _ hx2).trans x2
            have z3 := (hX9.block _ hx3).trans x3
            obtain ⟨p0, p1⟩ := cells2 ((hX9.block _ hx0).trans x0)
            obtain ⟨m0, m1⟩ := cells2 z2
            obtain ⟨m2, m3⟩ := cells2 z3
            have m4 := row_free z2
            have m5 := row_free z3
            have hw9 : Below w.heap.size w w9 := hXb.trans (hX9.mono hxw)
            have FIN : Hid (∀ Z, _ → _) := lay_four (by omega) z2 z3 (by omega) (by omega) hw9 (.int .i64 s) (.slice a9 (len + 1 + k) c9) (.int .i64 4) (.int .i64 (len : Int))
            have HN9 : Hid (∀ Z : World, (∀ q, q ≠ w.heap.size + 1 + 1 → q ≠ w.heap.size + 1 + 1 + 1 → Z.heap[q]? = w9.heap[q]?) → Wors w.heap.size Z (.slice a9 (len + 1 + k) c9) (l ++ [x] ++ f)) := by
              intro Z hZ
              refine wors_keep (wors_le hN9 (by have := hwY.size; omega)) (fun g hg => ?_)
              have hg1 := (wors_own hN9 hg).1
              exact hZ g (by have := HXS.out; omega) (by have := HXS.out; omega)
            have HPL : Hid (len + 1 + k = (l ++ [x] ++ f).length) := by show _ = _; rw [List.length_append, List.length_append, ← HL.out, ← HF.out]; rfl
            clear z2 z3 hN9
            go_wp2_with fail
            go_region
            all_goals
              go_wp2_with fail
              obtain ⟨g1, g2, g3, g4, g5⟩ := FIN.out _ (by first | exact Or.inl rfl | exact Or.inr rfl)
              obtain ⟨j0, j1⟩ := cells2 g1
              obtain ⟨j2, j3⟩ := cells2 g2
              refine bodyPost_ret (v := .tuple #[vH s a9 (len + 1 + k) c9, vW ⟨4, (len : Int)⟩, .bool true]) (by simp [results, Try.results7, go_sem, j0, j1, j2, j3]) rfl ?_
              rw [HQ.out]
              exact ⟨⟨a9, len + 1 + k, c9, by show _ = Ending.returned (.tuple #[vH s a9 (len + 1 + k) c9, vW ⟨4, ((l.length : Nat) : Int)⟩, .bool true]); rw [← HL.out], HPL.out, HN9.out _ g4⟩, by first | exact g3 | exact g3.drew⟩
          · have HQ : Hid (q = false) := HA.out.symm.trans (HN4'.out (by rw [← HL.out, ← HF.out]; exact hfit))
            rw [hq] at K2
            clear hq
            go_wp2_with fail
            refine K2.mono ?_
            rintro e w3 ⟨rfl, hb3⟩
            have hXw3 : Below X.heap.size X w3 := hXw2.trans (hb3.mono hXw2.size)
            have hww3 : Below w.heap.size w w3 := hXb.trans (hXw3.mono hxw)
            clear K2 p0 p1 p2 p3
            obtain ⟨p0, p1⟩ := cells2 ((hXw3.block _ hx0).trans x0)
            obtain ⟨p2, p3⟩ := cells2 ((hXw3.block _ hx1).trans x1)
            go_wp2_with fail
            refine (ownHeap_any L B s ao len cap l w3 (by have := hww3.size; omega) (hs.below hww3 hB) hl).mono ?_
            rintro e w9 ⟨a9, c9, rfl, hN9, hb9⟩
            have hX9 : Below X.heap.size X w9 := hXw3.trans (hb9.mono hXw3.size)
            have z2 := (hX9.block _ hx2).trans x2
            have z3 := (hX9.block _ hx3).trans x3
            obtain ⟨m0, m1⟩ := cells2 z2
            obtain ⟨m2, m3⟩ := cells2 z3
            have m4 := row_free z2
            have m5 := row_free z3
            have hw9 : Below w.heap.size w w9 := hXb.trans (hX9.mono hxw)
            have FIN : Hid (∀ Z, _ → _) := lay_four (by omega) z2 z3 (by omega) (by omega) hw9 (.int .i64 s) (.slice a9 len c9) (.int .i64 0) (.int .i64 0)
            have HN9 : Hid (∀ Z : World, (∀ k, k ≠ w.heap.size + 1 + 1 → k ≠ w.heap.size + 1 + 1 + 1 → Z.heap[k]? = w9.heap[k]?) → Wors w.heap.size Z (.slice a9 len c9) l) := by
              intro Z hZ
              refine wors_keep (wors_le hN9 hww3.size) (fun g hg => ?_)
              have hg1 := (wors_own hN9 hg).1
              have hg2 := hXw3.size
              exact hZ g (by have := HXS.out; omega) (by have := HXS.out; omega)
            clear z2 z3 hN9
            go_wp2_with fail
            obtain ⟨g1, g2, g3, g4, g5⟩ := FIN.out _ (Or.inl rfl)
            obtain ⟨j0, j1⟩ := cells2 g1
            obtain ⟨j2, j3⟩ := cells2 g2
            refine bodyPost_ret (v := .tuple #[vH s a9 len c9, vW ⟨0, 0⟩, .bool false]) (by simp [results, Try.results7, go_sem, j0, j1, j2, j3]) rfl ?_
            rw [HQ.out]
            exact ⟨⟨a9, len, c9, rfl, HL.out, HN9.out _ g4⟩, g3⟩
      · have HQ : Hid (q = false) := HA.out.symm.trans (alB_no2 (by rw [hcx, ← HF.out]; simpa using hkn))
        have hkn' : ((k : Int) == (nf : Int)) = false := beq_eq_false_iff_ne.2 (by omega)
        have hkn2 : ¬ (k : Int) = (nf : Int) := by omega
        clear hcx
        go_wp2_with fail
        refine (ownHeap_any L B s ao len cap l w2 (by have := hww2.size; omega) (hs.below hww2 hB) hl).mono ?_
        rintro e w9 ⟨a9, c9, rfl, hN9, hb9⟩
        have hX9 : Below X.heap.size X w9 := hXw2.trans (hb9.mono hXw2.size)
        have z2 := (hX9.block _ hx2).trans x2
        have z3 := (hX9.block _ hx3).trans x3
        obtain ⟨m0, m1⟩ := cells2 z2
        obtain ⟨m2, m3⟩ := cells2 z3
        have m4 := row_free z2
        have m5 := row_free z3
        have hw9 : Below w.heap.size w w9 := hXb.trans (hX9.mono hxw)
        have FIN : Hid (∀ Z, _ → _) := lay_four (by omega) z2 z3 (by omega) (by omega) hw9 (.int .i64 s) (.slice a9 len c9) (.int .i64 0) (.int .i64 0)
        have HN9 : Hid (∀ Z : World, (∀ k, k ≠ w.heap.size + 1 + 1 → k ≠ w.heap.size + 1 + 1 + 1 → Z.heap[k]? = w9.heap[k]?) → Wors w.heap.size Z (.slice a9 len c9) l) := by
          intro Z hZ
          refine wors_keep (wors_le hN9 hww2.size) (fun g hg => ?_)
          have hg1 := (wors_own hN9 hg).1
          have hg2 := hXw2.size
          exact hZ g (by have := HXS.out; omega) (by have := HXS.out; omega)
        clear z2 z3 hN9
        go_wp2_with fail
        obtain ⟨g1, g2, g3, g4, g5⟩ := FIN.out _ (Or.inl rfl)
        obtain ⟨j0, j1⟩ := cells2 g1
        obtain ⟨j2, j3⟩ := cells2 g2
        refine bodyPost_ret (v := .tuple #[vH s a9 len c9, vW ⟨0, 0⟩, .bool false]) (by simp [results, Try.results7, go_sem, j0, j1, j2, j3]) rfl ?_
        rw [HQ.out]
        exact ⟨⟨a9, len, c9, rfl, HL.out, HN9.out _ g4⟩, g3⟩

end Go.Proofs.Ytkplfdckfbihcaa
