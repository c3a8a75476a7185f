/-
  'AllUnlike': the program's and the model's.
-/
import Derived.Test.YtgckmnchlkgakaaAluLf0
import Derived.Test.YtgckmnchlkgakaaAluAuL
import Derived.Test.YtgckmnchlkgakaaAluSo
import Derived.Test.YtgckmnchlkgakaaAluBn1
import Derived.Test.YtgckmnchlkgakaaAluBn2
import Derived.Sort.OwnSorted
namespace Go.Proofs.Ytgckmnchlkgakaa
open Go.RowKit
set_option linter.unusedVariables false
set_option linter.unusedSimpArgs false

theorem tk_enc : tk = encStr := rfl

/-- The row of names sorted, and those alike struck. -/
theorem sort_toks {base : Nat} {w : World} {v : Value} {B : List (List UInt8)} (h : Toks base w v B) (hl : B.length ≤ 1000) :
    Calls Try.prog 46 #[v] w fun e w' => e = .returned (.tuple #[]) ∧ Below base w w' ∧ Toks base w' v (B.mergeSort fun x y => decide (x ≤ y)) := by
  rcases h.2 with ⟨rfl, hn⟩ | ⟨g, cap, cur, rfl, hg, hh, h1, h2, h3, h4⟩
  · obtain rfl : B = [] := List.length_eq_zero_iff.1 hn
    refine (Try.slices_Sort_string_none none 0 w).mono ?_
    rintro e w' ⟨h1, rfl⟩
    exact ⟨h1, Below.refl _ _, by simpa using h⟩
  · have hgw := (Array.getElem?_eq_some_iff.1 hh).1
    refine (Try.slices_Sort_string g 0 cap B w (holds_of_block hh (by simpa [tk_enc] using h4)) hgw (by omega)).mono ?_
    rintro e w' ⟨e1, n, os, rfl⟩
    have hl2 : (B.mergeSort fun x y => decide (x ≤ y)).length = B.length := List.length_mergeSort B
    have hgr := grownBy_sorted (w := w) (g := g) (n := n) (os := os) (B.mergeSort fun x y => decide (x ≤ y)).toArray
    refine ⟨e1, ⟨hgr.os, hgr.tape, hgr.output, hgr.size, fun k hk => hgr.block k (by omega) (fun e => by injection e with e; omega)⟩, ?_⟩
    have := ownsRow_sorted (n := n) (os := os) hl2 hg hh h1 h2 h3
    unfold Toks
    rw [hl2]
    exact this

theorem compact_toks {base : Nat} {w : World} {v : Value} {B : List (List UInt8)} (h : Toks base w v B) (hl : B.length ≤ 1000) :
    Calls Try.prog 47 #[v] w fun e w' => ∃ ao cap, e = .returned (.slice ao (Lib.compact B).length cap) ∧ Below base w w' := by
  rcases h.2 with ⟨rfl, hn⟩ | ⟨g, cap, cur, rfl, hg, hh, h1, h2, h3, h4⟩
  · obtain rfl : B = [] := List.length_eq_zero_iff.1 hn
    refine (Try.slices_Compact_string_empty none 0 w).mono ?_
    rintro e w' ⟨h1, rfl⟩
    exact ⟨none, 0, h1, Below.refl _ _⟩
  · refine (Try.slices_Compact_string g 0 cap B w (holds_of_block hh (by simpa [tk_enc] using h4)) (by omega) h1).mono ?_
    rintro e w' ⟨e1, n, rfl⟩
    have hgr := grownBy_sorted (w := w) (g := g) (n := n) (os := #[]) (Lib.compact B ++ List.replicate (B.length - (Lib.compact B).length) []).toArray
    rw [Sort.grow_empty] at hgr
    exact ⟨_, _, e1, ⟨hgr.os, hgr.tape, hgr.output, hgr.size, fun k hk => hgr.block k (by have := (Array.getElem?_eq_some_iff.1 hh).1; omega) (fun e => by injection e with e; omega)⟩⟩

set_option maxRecDepth 100000 in
set_option maxHeartbeats 1000000 in
theorem allUnlike_any (D d L B : Nat) (t : Tm) (a1 : Option Addr) (l1 c1 : Nat) (a2 : Option Addr) (l2 c2 : Nat) (a3 : Option Addr) (l3 c3 : Nat) (w : World) (hB : B ≤ w.heap.size) (hf : Fm L B w D d t a1 l1 a2 l2 a3 l3) :
    Calls Try.prog 18 #[.agg #[.int .i64 t.K, .int .i64 t.N, .string t.S, .string t.Z, .int .i64 t.T.K, .int .i64 t.T.N, .slice a1 l1 c1, .slice a2 l2 c2, .slice a3 l3 c3]] w fun e w' => e = .returned (.bool (auM t)) ∧ Below w.heap.size w w' := by
  have hbel : Below w.heap.size w (w.alloc (.cells #[.int .i64 t.K, .int .i64 t.N, .string t.S, .string t.Z, .int .i64 t.T.K, .int .i64 t.T.N, .slice a1 l1 c1, .slice a2 l2 c2, .slice a3 l3 c3] 36)) := (Below.refl _ _).alloc (Nat.le_refl _) _
  have hf1 := Fm.below hbel hB hf
  have hbl := bndT_len t
  cases hq : okM t
  · have HQ : Hid (okM t = false) := hq
    have HP : Hid (auM t = false) := by show _ = _; simp [auM, hq]
    clear hq
    go_enter Try.func18, Try.ntmps18
    go_wp2_with fail
    refine (termOk_any D d L B t _ _ _ _ _ _ _ _ _ _ (by simp; omega) hf1).mono ?_
    rintro e w1 ⟨rfl, hb1⟩
    rw [HQ.out]
    go_wp2_with fail
    go_ret
    exact ⟨ret_bool (by rw [HP.out]), hbel.trans (hb1.mono (by simp))⟩
  · have HQ : Hid (okM t = true) := hq
    have HP : Hid (auM t = decide (bndT t).Nodup) := by show _ = _; simp [auM, hq]
    clear hq
    go_enter Try.func18, Try.ntmps18
    go_wp2_with fail
    refine (termOk_any D d L B t _ _ _ _ _ _ _ _ _ _ (by simp; omega) hf1).mono ?_
    rintro e w1 ⟨rfl, hb1⟩
    rw [HQ.out]
    have hbw : Below w.heap.size w w1 := hbel.trans (hb1.mono (by simp))
    have hz1 := hb1.size
    simp only [World.size_alloc] at hz1
    obtain ⟨f0, f1, f2, f3, f4, f5, f6, f7, f8⟩ := Nine.box ((hb1.block w.heap.size (by simp)).trans (heap_new rfl))
    go_wp2_with fail
    refine (binders_any D d L B t _ _ _ _ _ _ _ _ _ _ (by omega) (Fm.below hbw hB hf)).mono ?_
    rintro e w2 ⟨v, rfl, hb2, hT⟩
    have hz2 := hb2.size
    have hbw2 : Below w.heap.size w w2 := hbw.trans (hb2.mono (by omega))
    obtain ⟨N, hN⟩ : ∃ N, bndT t = N := ⟨_, rfl⟩
    rw [hN] at hT HP hbl
    clear hN f0 f1 f2 f3 f4 f5 f6 f7 f8
    have hT' := toks_le hT (show w.heap.size ≤ w1.heap.size by omega)
    obtain ⟨ao, cap, rfl⟩ := toks_form hT
    obtain ⟨nB, hnB⟩ : ∃ n, N.length = n := ⟨_, rfl⟩
    have KS := sort_toks hT' (by omega)
    rw [hnB] at KS hbl
    have HNB : Hid (N.length = nB) := hnB
    rw [hnB]
    clear hnB hT
    go_wp2_with fail
    refine KS.mono ?_
    rintro e w3 ⟨rfl, hb3, hT3⟩
    have hlm : (N.mergeSort fun x y => decide (x ≤ y)).length = N.length := List.length_mergeSort N
    have KC := compact_toks hT3 (by rw [hlm, HNB.out]; omega)
    have HSC := sorted_compact N
    rw [HNB.out] at HSC
    have hcl := Nat.le_trans (compact_le (N.mergeSort fun x y => decide (x ≤ y))) (Nat.le_of_eq (hlm.trans HNB.out))
    obtain ⟨nC, hnC⟩ : ∃ n, (Lib.compact (N.mergeSort fun x y => decide (x ≤ y))).length = n := ⟨_, rfl⟩
    rw [hnC] at KC HSC hcl
    have HE : Hid (((nC : Int) == (nB : Int)) = decide N.Nodup) := by
      show _ = _
      by_cases h : N.Nodup
      · have := HSC.2 h; simp [h, this]
      · have : ¬ nC = nB := fun e => h (HSC.1 e)
        rw [decide_eq_false h, beq_eq_false_iff_ne]; omega
    clear hnC HSC hlm
    go_wp2_with fail
    refine KC.mono ?_
    rintro e w4 ⟨ao4, cp4, rfl, hb4⟩
    go_wp2_with fail
    go_ret
    exact ⟨ret_bool (by rw [HP.out, HE.out]), hbw2.trans (hb3.trans hb4)⟩

theorem nodup_take {B : List (List UInt8)} {j : Nat} (hj : j < B.length) (h : (B.take j).Nodup) (hn : ¬ B[j] ∈ B.take j) : (B.take (j + 1)).Nodup := by
  rw [List.take_succ_eq_append_getElem hj, List.nodup_append]
  refine ⟨h, by simp, fun a ha b hb e => ?_⟩
  rw [List.mem_singleton] at hb
  subst hb
  subst e
  exact hn ha
theorem not_nodup {B : List (List UInt8)} {j : Nat} (hj : j < B.length) (h : B[j] ∈ B.take j) : ¬ B.Nodup := by
  intro hn
  obtain ⟨i, hi, e⟩ := List.getElem_of_mem h
  have hi2 : i < j := by rw [List.length_take] at hi; omega
  rw [List.getElem_take] at e
  rw [List.nodup_iff_pairwise_ne, List.pairwise_iff_getElem] at hn
  exact hn i j (by omega) hj hi2 e

set_option maxRecDepth 100000 in
set_option maxHeartbeats 2000000 in
theorem sAllUnlike_any (D d L B : Nat) (t : Tm) (a1 : Option Addr) (l1 c1 : Nat) (a2 : Option Addr) (l2 c2 : Nat) (a3 : Option Addr) (l3 c3 : Nat) (w : World) (hB : B ≤ w.heap.size) (hf : Fm L B w D d t a1 l1 a2 l2 a3 l3) :
    Calls Try.prog 17 #[.agg #[.int .i64 t.K, .int .i64 t.N, .string t.S, .string t.Z, .int .i64 t.T.K, .int .i64 t.T.N, .slice a1 l1 c1, .slice a2 l2 c2, .slice a3 l3 c3]] w fun e w' => e = .returned (.bool (auM t)) ∧ Below w.heap.size w w' := by
  have hbel : Below w.heap.size w (w.alloc (.cells #[.int .i64 t.K, .int .i64 t.N, .string t.S, .string t.Z, .int .i64 t.T.K, .int .i64 t.T.N, .slice a1 l1 c1, .slice a2 l2 c2, .slice a3 l3 c3] 36)) := (Below.refl _ _).alloc (Nat.le_refl _) _
  have hf1 := Fm.below hbel hB hf
  have hbl := bndT_len t
  go_enter Try.func17, Try.ntmps17
  go_wp2_with fail
  refine (sBinders_any D d L B t _ _ _ _ _ _ _ _ _ _ (by simp; omega) hf1).mono ?_
  rintro e w1 ⟨v, rfl, hb1, hT⟩
  have hbw : Below w.heap.size w w1 := hbel.trans (hb1.mono (by simp))
  have hz1 := hb1.size
  simp only [World.size_alloc] at hz1
  have x0 := (hb1.block w.heap.size (by simp)).trans (heap_new rfl)
  have HP : Hid (auM t = (okM t && decide (bndT t).Nodup)) := rfl
  obtain ⟨N, hN⟩ : ∃ N, bndT t = N := ⟨_, rfl⟩
  rw [hN] at hT HP hbl
  clear hN
  obtain ⟨ao, cap, rfl⟩ := toks_form hT
  obtain ⟨nB, hnB⟩ : ∃ n, N.length = n := ⟨_, rfl⟩
  have HNB : Hid (N.length = nB) := hnB
  rw [hnB]
  rw [hnB] at hT hbl
  clear hnB
  go_wp2_with fail
  go_loopw [4] (fun i wr => ∃ j : Nat, j ≤ nB ∧ i = .int .i64 j ∧ Hid ((N.take j).Nodup) ∧ Below w1.heap.size w1 wr) (fun i _ => nB - (intOf i).toNat)
  case atStart => exact ⟨0, by omega, rfl, (by show List.Nodup _; simp), Below.refl _ _⟩
  case round =>
    obtain ⟨j, hj, rfl, HND, hbr⟩ := hrel
    by_cases hlt : j < nB
    · have hlt' : j < N.length := by have := HNB.out; omega
      have hTr := toks_bel hT hbr
      obtain ⟨g, cp, e, hg, hgw, hc⟩ := toks_at hTr j hlt'
      injection e with e1 e2 e3
      subst e1
      subst e3
      rw [Nat.zero_add] at hc
      have hcap : nB ≤ cap := by
        rcases hT.2 with ⟨e, _⟩ | ⟨g', cap', cur, e, _, _, h1, _⟩
        · cases e
        · injection e with _ _ e3
          have := HNB.out
          omega
      have hTp : Toks (w.heap.size + 1) wr (.slice (some ⟨g, 0, none⟩) j cap) (N.take j) := by
        have h5 : N.take j ++ N.drop j = N := List.take_append_drop j N
        rw [← h5] at hTr
        rcases toks_cut hTr with h6 | ⟨h6, _⟩
        · have h7 : (N.take j).length = j := by rw [List.length_take]; omega
          rw [h7] at h6
          exact toks_le h6 (by simp)
        · cases h6
      obtain ⟨z, hz⟩ : ∃ z : ByteArray, tk N[j] = .string z := ⟨_, rfl⟩
      have hzb : bs z = N[j] := by
        have : (⟨N[j].toArray⟩ : ByteArray) = z := by simpa [tk] using hz
        rw [← this]; simp [bs]
      rw [hz] at hc
      by_cases hm : N[j] ∈ N.take j
      · have HE : Hid (auM t = false) := by show _ = _; rw [HP.out, decide_eq_false (not_nodup hlt' hm)]; simp
        have K := l2Has_any _ _ z wr.drew (toks_bel hTp (Below.refl _ _).drew) (by rw [List.length_take]; omega)
        rw [hzb, decide_eq_true hm] at K
        clear hm hz hzb hTp hTr e2
        go_wp2_with fail
        go_region_with (first | (go_at_call 45; refine K.mono ?_; rintro e w5 ⟨rfl, rfl⟩))
        all_goals
          go_wp2_with fail
          go_ret
          exact ⟨ret_bool (by rw [HE.out]), hbw.trans (hbr.drew.mono (by omega))⟩
      · have HE : Hid ((N.take (j + 1)).Nodup) := nodup_take hlt' HND.out hm
        have K := l2Has_any _ _ z wr.drew (toks_bel hTp (Below.refl _ _).drew) (by rw [List.length_take]; omega)
        rw [hzb, decide_eq_false hm] at K
        clear hm hz hzb hTp hTr e2
        go_wp2_with fail
        go_region_with (first | (go_at_call 45; refine K.mono ?_; rintro e w5 ⟨rfl, rfl⟩))
        all_goals
          go_wp2_with fail
          go_roundw
          case rel => exact ⟨j + 1, by omega, by go_num, HE, hbr.drew⟩
          case measure => simp [intOf]; omega
    · have HE : Hid (auM t = okM t) := by
        show _ = _
        have h1 := HND.out
        rw [List.take_of_length_le (by have := HNB.out; omega)] at h1
        rw [HP.out, decide_eq_true h1]; simp
      have hbwr : Below w.heap.size w wr := hbw.trans (hbr.mono (by omega))
      have hszr := hbr.size
      obtain ⟨f0, f1, f2, f3, f4, f5, f6, f7, f8⟩ := Nine.box ((hbr.block w.heap.size (by omega)).trans x0)
      go_wp2_with fail
      refine (sTermOk_any D d L B t _ _ _ _ _ _ _ _ _ _ (by omega) (Fm.below hbwr hB hf)).mono ?_
      rintro e w3 ⟨rfl, hb3⟩
      go_wp2_with fail
      go_ret
      exact ⟨ret_bool (by rw [HE.out]), hbwr.trans (hb3.mono (by omega))⟩

end Go.Proofs.Ytgckmnchlkgakaa
