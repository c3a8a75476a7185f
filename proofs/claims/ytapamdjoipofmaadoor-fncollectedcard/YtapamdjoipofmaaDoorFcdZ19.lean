/-
  The model's 'HeapOk'.
-/
import Derived.Test.YtapamdjoipofmaaDoorFcdZ9
import Derived.Test.YtapamdjoipofmaaDoorFcdZ6
import Derived.Test.YtapamdjoipofmaaDoorFcdZ12
import Derived.Lib.AppendZeros
import Derived.Deep.Upon
import Derived.Deep.RegionLaw
namespace Go.Proofs.YtapamdjoipofmaaDoor
open Go.RowKit
set_option linter.unusedVariables false
set_option linter.unusedSimpArgs false

theorem sok_mono {l : List Wrd} {k n : Nat} (h : sok l k = false) (hkn : k ≤ n) : sok l n = false := by
  induction n with
  | zero => rw [show k = 0 by omega] at h; exact h
  | succ n ih =>
    by_cases e : k = n + 1
    · rw [← e]; exact h
    · rw [sok_succ, ih (by omega)]; rfl

set_option maxRecDepth 100000 in
set_option maxHeartbeats 2000000 in
theorem sHeapOk_any (L B : Nat) (s : Int) (ao : Option Addr) (len cap : Nat) (l : List Wrd) (w : World) (hB : B ≤ w.heap.size) (hs : Ws L B w ao len l) (hl : len ≤ 1048576) :
    Calls Tryd.prog 45 #[vH s ao len cap] w fun e w' => e = .returned (.bool (okH s l)) ∧ Below w.heap.size w w' := by
  have HL : Hid (len = l.length) := hs.1
  have HO : Hid (okH s l = ((sizeB s && decide ((len : Int) ≤ s)) && (decide (endO l = l.length) && fok l))) := by show _ = _; rw [HL.out]; rfl
  obtain ⟨ans, hans⟩ : ∃ a, okH s l = a := ⟨_, rfl⟩
  rw [hans] at HO ⊢
  clear hans
  obtain ⟨X, hX⟩ : ∃ X, X = w.alloc (.cells #[.int .i64 s, .slice ao len cap] 26) := ⟨_, rfl⟩
  have hXs : X.heap.size = w.heap.size + 1 := by rw [hX]; simp
  have hXb : Below w.heap.size w X := by rw [hX]; exact (Below.refl _ _).alloc (Nat.le_refl _) _
  have x0 : X.heap[w.heap.size]? = some (.cells #[.int .i64 s, .slice ao len cap] 26 (0, 0)) := by rw [hX]; exact heap_new rfl
  have HX : Hid (X = _) := hX
  have K1 := l1In_all s 0 5000 X
  rw [show (decide (0 ≤ s) && decide (s ≤ 5000)) = sizeB s from rfl] at K1
  have K2 := l12Heads_any L B ao len cap l X (by omega) (hs.below hXb hB) hl
  obtain ⟨f0, f1⟩ := cells2 x0
  have hx0 : w.heap.size < X.heap.size := by omega
  clear hX hXs
  cases hsz : sizeB s with
  | false =>
    have HE : Hid (ans = false) := by show _ = _; rw [HO.out, hsz]; rfl
    rw [hsz] at K1
    clear hsz K2
    go_enter Tryd.func45, Tryd.ntmps45
    go_wp2_with fail
    rw [← HX.out]
    refine K1.mono ?_
    rintro e w1 ⟨rfl, hw1⟩
    obtain rfl : X = w1 := hw1.symm
    clear K1
    go_wp2_with fail
    go_ret
    exact ⟨ret_bool (by rw [HE.out]), hXb⟩
  | true =>
    rw [hsz] at K1
    by_cases hfit : (len : Int) ≤ s
    · have HE : Hid (ans = (decide (endO l = l.length) && fok l)) := by show _ = _; rw [HO.out, hsz]; simp [hfit]
      clear hsz HO
      go_enter Tryd.func45, Tryd.ntmps45
      go_wp2_with fail
      rw [← HX.out]
      refine K1.mono ?_
      rintro e w1 ⟨rfl, hw1⟩
      obtain rfl : X = w1 := hw1.symm
      clear K1
      go_wp2_with fail
      refine K2.mono ?_
      rintro e w2 ⟨rfl, hb2, hR⟩
      clear K2 f0 f1
      have hz2 := hb2.size
      have hbw2 : Below w.heap.size w w2 := hXb.trans (hb2.mono (by omega))
      have x2 := (hb2.block w.heap.size (by omega)).trans x0
      have HW : Hid (∀ k, (decide (endO l = l.length) && sok l k) = false → k ≤ len → ans = false) := by
        intro k hk hkl
        rw [HE.out]
        by_cases he : endO l = l.length
        · rw [← sok_all he]
          simp only [he, decide_true, Bool.true_and] at hk ⊢
          exact sok_mono hk (by have := HL.out; omega)
        · simp [he]
      have HWT : Hid ((decide (endO l = l.length) && sok l len) = ans) := by
        show _ = _
        rw [HE.out]
        by_cases he : endO l = l.length
        · rw [← sok_all he, HL.out]
        · simp [he]
      have HK : Hid (∀ k, sok l (k + 1) = (sok l k && ((heads l).getD k false || rgt (heads l) (l.getD k ⟨0, 0⟩)))) := sok_succ l
      have h0s : Hid ((decide (endO l = l.length) && sok l 0) = decide (endO l = l.length)) := by show _ = _; simp [sok]
      generalize decide (endO l = l.length) = whole at *
      have hXs2 : X.heap.size < w2.heap.size := hR.lt
      go_wp2_with fail
      go_loopw [4, 5] (fun v i wr => ∃ (k : Nat) (b : Bool), i = .int .i64 k ∧ k ≤ len ∧ v = .bool b ∧ Hid ((whole && sok l k) = b) ∧ Below w2.heap.size w2 wr) (fun _ i _ => len - (intOf i).toNat)
      case atStart => exact ⟨0, whole, rfl, by omega, rfl, h0s, Below.refl _ _⟩
      case round =>
        obtain ⟨k, b, rfl, hk, rfl, HB, hbr⟩ := hrel
        have hszr := hbr.size
        obtain ⟨f0, f1⟩ := cells2 ((hbr.block w.heap.size (by omega)).trans x2)
        have hbwr : Below w.heap.size w wr := hbw2.trans (hbr.mono (by omega))
        by_cases hlt : k < len
        · cases b with
          | false =>
            have HF : Hid (ans = false) := HW.out k HB.out (by omega)
            go_wp2_with fail
            go_ret
            exact ⟨ret_bool (by rw [HF.out]), hbwr⟩
          | true =>
            have hlt' : k < l.length := by have := HL.out; omega
            have hgd : l.getD k ⟨0, 0⟩ = l[k] := by rw [List.getD_eq_getElem?_getD, List.getElem?_eq_getElem hlt']; rfl
            have HN : Hid ((whole && sok l (k + 1)) = ((heads l).getD k false || rgt (heads l) l[k])) := by
              show _ = _
              rw [HK.out k, ← Bool.and_assoc, HB.out, Bool.true_and, hgd]
            obtain ⟨bl, o, rfl, _, hbB, htw⟩ := hs.2.2 k hlt'
            obtain ⟨e0, e1⟩ := htw.block (hbwr.block bl (by omega))
            have hRr := hR.bel hbr hR.lt
            have hg := hRr.get k (by rw [heads_len]; exact hlt')
            have K := l12Word_any X.heap.size len len (heads l) l[k] wr hRr (by rw [heads_len]; exact HL.out) hl
            clear htw hgd
            cases hq : (heads l).getD k false with
            | true =>
              rw [hq] at hg HN
              generalize l[k] = x at *
              have HN2 : Hid ((whole && sok l (k + 1)) = true) := by show _ = _; rw [HN.out]; rfl
              clear K hq
              go_wp2_with fail
              go_roundw
              case rel => exact ⟨k + 1, true, by go_num, by omega, rfl, HN2, hbr⟩
              case measure => simp [intOf]; omega
            | false =>
              rw [hq] at hg HN
              obtain ⟨q, hqq⟩ : ∃ q, rgt (heads l) l[k] = q := ⟨_, rfl⟩
              rw [hqq] at K HN
              generalize l[k] = x at *
              have HN2 : Hid ((whole && sok l (k + 1)) = q) := by show _ = _; rw [HN.out]; rfl
              clear hq hqq
              go_wp2_with fail
              refine K.mono ?_
              rintro e w3 ⟨rfl, hb3⟩
              clear K
              go_wp2_with fail
              go_roundw
              case rel => exact ⟨k + 1, q, by go_num, by omega, rfl, HN2, hbr.trans (hb3.mono (by omega))⟩
              case measure => simp [intOf]; omega
        · obtain rfl : k = len := by omega
          have HF : Hid (b = ans) := by show _ = _; rw [← HB.out]; exact HWT.out
          go_wp2_with fail
          go_ret
          exact ⟨ret_bool (by rw [HF.out]), hbwr⟩
    · have HE : Hid (ans = false) := by show _ = _; rw [HO.out]; simp [hfit]
      clear hsz K2 HO
      go_enter Tryd.func45, Tryd.ntmps45
      go_wp2_with fail
      rw [← HX.out]
      refine K1.mono ?_
      rintro e w1 ⟨rfl, hw1⟩
      obtain rfl : X = w1 := hw1.symm
      clear K1
      go_wp2_with fail
      go_ret
      exact ⟨ret_bool (by rw [HE.out]), hXb⟩

end Go.Proofs.YtapamdjoipofmaaDoor

/-
  The library's 'slices.Concat' of three rows of words; the program's 'ownWords', 'ownHeap'; the model's 'l12Copy'.
-/
namespace Go.Proofs.YtapamdjoipofmaaDoor
open Go.RowKit
set_option linter.unusedVariables false
set_option linter.unusedSimpArgs false

theorem grown_to {base : Nat} {w W W2 : World} {v : Value} {P : List Wrd} (hg : W.grownBy W2 v.ownBlock) (h : Wors base W v P) (hb : Below base w W) (hz : base ≤ W.heap.size) : Below base w W2 :=
  ⟨hg.os.trans hb.os, hg.tape.trans hb.tape, hg.output.trans hb.output, Nat.le_trans hb.size hg.size, fun q hq => (hg.block q (by omega) (fun e => by have := (wors_own h e.symm).1; omega)).trans (hb.block q hq)⟩

set_option maxHeartbeats 1000000 in
theorem ownWords_any (L B : Nat) (ao : Option Addr) (n c : Nat) (l : List Wrd) (w : World) (hB : B ≤ w.heap.size) (hs : Ws L B w ao n l) (hl : n ≤ 1048576) :
    Calls Tryd.prog 16 #[.slice ao n c] w fun e w' => ∃ ao2 cap, e = .returned (.slice ao2 n cap) ∧ Wors w.heap.size w' (.slice ao2 n cap) l ∧ Below w.heap.size w w' := by
  obtain ⟨ao1, cap1, wB, r1, hNB, hgB⟩ := wors_app (wors_nil w.heap.size w) (Nat.le_refl _) c hs (by simp; omega)
  have hbB : Below w.heap.size w wB := grown_to hgB (wors_nil w.heap.size w) (Below.refl _ _) (Nat.le_refl _)
  simp only [List.nil_append, List.length_nil, Nat.zero_add] at hNB r1
  have HR1 : Hid (_ = _) := r1
  clear r1
  go_enter Tryd.func16, Tryd.ntmps16
  go_wp2_with (first | (at_builtin; refine list_run HR1.out (by rfl) _ _ (by rfl) (by rfl) (by rfl) (by rfl) ?_; clear HR1))
  go_ret
  exact ⟨_, _, rfl, hNB, hbB⟩

/-- A heap is laid into a block of two cells. -/
theorem lay_two {W w : World} {R n : Nat} {t : TypeId} {u0 u1 : Value} (h : W.heap[R]? = some (.cells #[u0, u1] t (0, 0))) (hn : n ≤ R) (hB : Below n w W) (a0 a1 : Value) :
    ∀ Z, Z = (W.setCell ⟨R, 0, none⟩ a0).setCell ⟨R, 1, none⟩ a1 → Z.heap[R]? = some (.cells #[a0, a1] t (0, 0)) ∧ Below n w Z ∧ (∀ k, k ≠ R → Z.heap[k]? = W.heap[k]?) ∧ Z.heap.size = W.heap.size := by
  rintro Z rfl
  refine ⟨?_, (hB.setCell (p := ⟨R, 0, none⟩) hn _).setCell (p := ⟨R, 1, none⟩) hn _, fun k hk => (row_other _ _ _ hk).trans (row_other _ _ _ hk), by simp⟩
  have := row_set (row_set h 0 a0) 1 a1
  rw [this]
  simp

set_option maxRecDepth 100000 in
set_option maxHeartbeats 1000000 in
theorem ownHeap_any (L B : Nat) (s : Int) (ao : Option Addr) (n c : Nat) (l : List Wrd) (w : World) (hB : B ≤ w.heap.size) (hs : Ws L B w ao n l) (hl : n ≤ 1048576) :
    Calls Tryd.prog 18 #[vH s ao n c] w fun e w' => ∃ ao2 cap, e = .returned (vH s ao2 n cap) ∧ Wors w.heap.size w' (.slice ao2 n cap) l ∧ Below w.heap.size w w' := by
  obtain ⟨X, hX⟩ : ∃ X, X = (w.alloc (.cells #[.int .i64 s, .slice ao n c] 26)).alloc (.cells #[.int .i64 0, .slice none 0 0] 26) := ⟨_, rfl⟩
  have hXs : X.heap.size = w.heap.size + 2 := by rw [hX]; simp
  have hXb : Below w.heap.size w X := by rw [hX]; exact ((Below.refl _ _).alloc (Nat.le_refl _) _).alloc (by simp) _
  have x0 : X.heap[w.heap.size]? = some (.cells #[.int .i64 s, .slice ao n c] 26 (0, 0)) := by
    rw [hX, Below.heap_alloc _ _ _ (by simp)]; exact heap_new (by simp)
  have x1 : X.heap[w.heap.size + 1]? = some (.cells #[.int .i64 0, .slice none 0 0] 26 (0, 0)) := by
    rw [hX]; exact heap_new (by simp)
  have K := ownWords_any L B ao n c l X.drew (by show B ≤ X.heap.size; omega) (hs.below hXb hB).drew hl
  obtain ⟨f0, f1⟩ := cells2 x0
  have HX : Hid (X = _) := hX
  have hx0 : w.heap.size < X.heap.size := by omega
  have hx1 : w.heap.size + 1 < X.heap.size := by omega
  have hx2 : w.heap.size ≤ X.heap.size := by omega
  have FIN : Hid (∀ (w1 : World) (ao2 : Option Addr) (cap : Nat), Below X.heap.size X.drew w1 → Wors X.heap.size w1 (.slice ao2 n cap) l → ∀ Z, Z = (w1.setCell ⟨w.heap.size + 1, 0, none⟩ (.int .i64 s)).setCell ⟨w.heap.size + 1, 1, none⟩ (.slice ao2 n cap) →
      Z.heap[w.heap.size + 1]? = some (.cells #[.int .i64 s, .slice ao2 n cap] 26 (0, 0)) ∧ Wors w.heap.size Z (.slice ao2 n cap) l ∧ Below w.heap.size w Z) := by
    intro w1 ao2 cap hb1 hN Z hZ
    have hb1' : Below w.heap.size w w1 := hXb.trans (⟨hb1.os, hb1.tape, hb1.output, hb1.size, fun q hq => hb1.block q (by omega)⟩ : Below w.heap.size X w1)
    obtain ⟨z1, z2, z3, z4⟩ := lay_two ((hb1.block _ hx1).trans x1) (Nat.le_succ _) hb1' (.int .i64 s) (.slice ao2 n cap) Z hZ
    exact ⟨z1, wors_keep (wors_le hN hx2) (fun g hg => z3 g (by have := (wors_own hN hg).1; omega)), z2⟩
  clear hX hXs
  go_enter Tryd.func18, Tryd.ntmps18
  go_wp2_with fail
  rw [← HX.out]
  go_region_with (go_at_call 16; refine K.mono ?_; rintro e w1 ⟨ao2, cap, rfl, hN1, hb1⟩; have k0 : w1.cell? ⟨w.heap.size, 0, none⟩ = _ := (bcell hb1 hx0 0).trans f0; have k1 : w1.cell? ⟨w.heap.size, 1, none⟩ = _ := (bcell hb1 hx0 1).trans f1; have k2 := row_cell ((hb1.block _ hx1).trans x1) 0; have k3 := row_cell ((hb1.block _ hx1).trans x1) 1; have k4 := row_free ((hb1.block _ hx1).trans x1))
  all_goals
    go_wp2_with fail
    obtain ⟨z1, z2, z3⟩ := FIN.out w1 ao2 cap hb1 hN1 _ rfl
    obtain ⟨g0, g1⟩ := cells2 z1
    exact bodyPost_ret (v := vH s ao2 n cap) (by simp [results, Tryd.results18, go_sem, g0, g1]) rfl ⟨ao2, cap, rfl, z2, z3⟩

set_option maxRecDepth 100000 in
set_option maxHeartbeats 1000000 in
theorem l12Copy_any (L B : Nat) (s : Int) (ao : Option Addr) (n c : Nat) (l : List Wrd) (w : World) (hB : B ≤ w.heap.size) (hs : Ws L B w ao n l) (hl : n ≤ 1048576) :
    Calls Tryd.prog 44 #[vH s ao n c] w fun e w' => ∃ ao2 cap, e = .returned (vH s ao2 n cap) ∧ Wors w.heap.size w' (.slice ao2 n cap) l ∧ Below w.heap.size w w' := by
  obtain ⟨X, hX⟩ : ∃ X, X = (w.alloc (.cells #[.int .i64 s, .slice ao n c] 26)).alloc (.cells #[.int .i64 0, .slice none 0 0] 26) := ⟨_, rfl⟩
  have hXs : X.heap.size = w.heap.size + 2 := by rw [hX]; simp
  have hXb : Below w.heap.size w X := by rw [hX]; exact ((Below.refl _ _).alloc (Nat.le_refl _) _).alloc (by simp) _
  have x0 : X.heap[w.heap.size]? = some (.cells #[.int .i64 s, .slice ao n c] 26 (0, 0)) := by
    rw [hX, Below.heap_alloc _ _ _ (by simp)]; exact heap_new (by simp)
  have x1 : X.heap[w.heap.size + 1]? = some (.cells #[.int .i64 0, .slice none 0 0] 26 (0, 0)) := by
    rw [hX]; exact heap_new (by simp)
  have hx0 : w.heap.size < X.heap.size := by omega
  have hx1 : w.heap.size + 1 < X.heap.size := by omega
  have hx2 : w.heap.size ≤ X.heap.size := by omega
  have hYb : Below X.heap.size X (X.alloc (.cells #[] 34)).drew := ((Below.refl _ _).alloc (Nat.le_refl _) _).drew
  have hYe : Wors X.heap.size (X.alloc (.cells #[] 34)).drew (.slice (some ⟨X.heap.size, 0, none⟩) 0 0) [] := wors_emp (show (X.alloc (.cells #[] 34)).heap[X.heap.size]? = _ from heap_new rfl) (Nat.le_refl _)
  have hYs : Ws L B (X.alloc (.cells #[] 34)).drew ao n l := (hs.below hXb hB).below hYb (by omega)
  obtain ⟨ao2, cap, w1, hrun, hN1, hg1⟩ := wors_app hYe (show X.heap.size ≤ (X.alloc (.cells #[] 34)).heap.size by simp) c hYs (by simp; omega)
  have hb1 : Below X.heap.size X w1 := grown_to hg1 hYe hYb (show X.heap.size ≤ (X.alloc (.cells #[] 34)).heap.size by simp)
  simp only [List.nil_append, List.length_nil, Nat.zero_add] at hN1 hrun
  obtain ⟨f0, f1⟩ := cells2 x0
  have k0 : w1.cell? ⟨w.heap.size, 0, none⟩ = _ := (bcell hb1 hx0 0).trans f0
  have k1 : w1.cell? ⟨w.heap.size, 1, none⟩ = _ := (bcell hb1 hx0 1).trans f1
  have k2 := row_cell ((hb1.block _ hx1).trans x1) 0
  have k3 := row_cell ((hb1.block _ hx1).trans x1) 1
  have k4 := row_free ((hb1.block _ hx1).trans x1)
  have FIN : Hid (∀ Z, Z = (w1.setCell ⟨w.heap.size + 1, 0, none⟩ (.int .i64 s)).setCell ⟨w.heap.size + 1, 1, none⟩ (.slice ao2 n cap) →
      Z.heap[w.heap.size + 1]? = some (.cells #[.int .i64 s, .slice ao2 n cap] 26 (0, 0)) ∧ Wors w.heap.size Z (.slice ao2 n cap) l ∧ Below w.heap.size w Z) := by
    intro Z hZ
    have hb1' : Below w.heap.size w w1 := hXb.trans (hb1.mono hx2)
    obtain ⟨z1, z2, z3, z4⟩ := lay_two ((hb1.block _ hx1).trans x1) (Nat.le_succ _) hb1' (.int .i64 s) (.slice ao2 n cap) Z hZ
    exact ⟨z1, wors_keep (wors_le hN1 hx2) (fun g hg => z3 g (by have := (wors_own hN1 hg).1; omega)), z2⟩
  have HX : Hid (X = _) := hX
  clear hX hXs hYb hYe hYs hg1 hN1
  go_enter Tryd.func44, Tryd.ntmps44
  go_wp2_with fail
  rw [← HX.out]
  go_region_law (refine step_run hrun (by rfl) _ _ (by rfl) (by rfl) (by rfl) (by rfl) ?_)
  all_goals
    go_wp2_with fail
    obtain ⟨z1, z2, z3⟩ := FIN.out _ rfl
    obtain ⟨g0, g1⟩ := cells2 z1
    exact bodyPost_ret (v := vH s ao2 n cap) (by simp [results, Tryd.results44, go_sem, g0, g1]) rfl ⟨ao2, cap, rfl, z2, z3⟩

end Go.Proofs.YtapamdjoipofmaaDoor
