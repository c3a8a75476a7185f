/-
  What 'szTerm', 'szTermS' (the count of parts against a bound) come to.
-/
import Derived.Test.YtgckmnchlkgakaaAluSz
import Derived.Test.YtgckmnchlkgakaaAluTm
namespace Go.Proofs.Ytgckmnchlkgakaa
open Go.RowKit
set_option linter.unusedVariables false
set_option linter.unusedSimpArgs false

def SaidSzM (D d : Nat) : Prop := ∀ (L B : Nat) (t : Tm) (a1 : Option Addr) (l1 c1 : Nat) (a2 : Option Addr) (l2 c2 : Nat) (a3 : Option Addr) (l3 c3 : Nat) (left : Int) (w : World), B ≤ w.heap.size → Fm L B w D d t a1 l1 a2 l2 a3 l3 → 0 ≤ left → left ≤ 1048576 →
    Calls Try.prog 8 #[.agg #[.int .i64 t.K, .int .i64 t.N, .string t.S, .string t.Z, .int .i64 t.T.K, .int .i64 t.T.N, .slice a1 l1 c1, .slice a2 l2 c2, .slice a3 l3 c3], .int .i64 left] w fun e w' => e = .returned (.int .i64 (szN (cntM t) left)) ∧ Below w.heap.size w w'
def SaidSzMS (D d : Nat) : Prop := ∀ (L B : Nat) (ao : Option Addr) (len cap : Nat) (ts : List Tm) (left : Int) (w : World), B ≤ w.heap.size → Hm L B w D d ao len ts → 0 ≤ left → left ≤ 1048576 →
    Calls Try.prog 28 #[.slice ao len cap, .int .i64 left] w fun e w' => e = .returned (.int .i64 (szN (cntMS ts) left)) ∧ Below w.heap.size w w'

set_option maxHeartbeats 400000 in
theorem szTermS_succ (D d : Nat) (IH : SaidSzM D d) : SaidSzMS D (d + 1) := by
  intro L B ao len cap ts left w hB hs h1 h2
  have hl := hs.2.1
  have HL : Hid (len = ts.length) := hs.1
  have HC : Hid (cntMS ts = ts.length + subMS ts) := cntMS_eq ts
  by_cases hneg : left - len < 0
  · go_enter Try.func28, Try.ntmps28
    go_wp2_with fail
    go_ret
    exact ⟨ret_int (by rw [szN_neg (by rw [HC.out]; have := HL.out; omega)]), Below.refl _ _⟩
  · go_enter Try.func28, Try.ntmps28
    go_wp2_with fail
    go_loopw [1, 5] (fun l i wr => ∃ k : Nat, k ≤ len ∧ i = .int .i64 k ∧ ((len : Int) + subMS (ts.take k)) ≤ left ∧ l = .int .i64 (left - len - subMS (ts.take k)) ∧ Below w.heap.size w wr) (fun _ i _ => len - (intOf i).toNat)
    case atStart => exact ⟨0, by omega, rfl, by simp [subMS]; omega, by simp [subMS], Below.refl _ _⟩
    case round =>
      obtain ⟨k, hk, rfl, hle, rfl, hbel⟩ := hrel
      have hsz := hbel.size
      by_cases hlt : k < len
      · have hlt' : k < ts.length := by have := HL.out; omega
        obtain ⟨b, o, rfl, _, hbB, a1, l1, c1, a2, l2, c2, a3, l3, c3, h9, hf⟩ := hs.2.2 k hlt'
        obtain ⟨e0, e1, e2, e3, e4, e5, e6, e7, e8⟩ := h9.below hbel (by omega)
        have hf2 := Fm.below hbel hB hf
        have HT : Hid (subMS (ts.take (k + 1)) = subMS (ts.take k) + cntM ts[k]) := subMS_take ts k hlt'
        have HTL : Hid (subMS (ts.take (k + 1)) ≤ subMS ts) := subMS_take_le ts _
        go_wp2_with fail
        refine (IH L B ts[k] _ _ _ _ _ _ _ _ _ _ _ (by omega) hf2 (by omega) (by omega)).mono ?_
        rintro e w1 ⟨rfl, hb1⟩
        have hbel1 : Below w.heap.size w w1 := hbel.trans (hb1.mono hsz)
        by_cases hc : (cntM ts[k] : Int) ≤ left - len - subMS (ts.take k)
        · rw [szN_pos hc]
          go_wp2_with fail
          go_roundw
          case rel => exact ⟨k + 1, by omega, by go_num, by rw [HT.out]; omega, by rw [HT.out]; go_num, hbel1⟩
          case measure => simp [intOf]; omega
        · rw [szN_neg hc]
          go_wp2_with fail
          go_ret
          exact ⟨ret_int (by rw [szN_neg (by have := HT.out; have := HTL.out; have := HC.out; have := HL.out; omega)]), hbel1⟩
      · have hke : k = len := by omega
        have HK : Hid (subMS (ts.take k) = subMS ts) := by have := HL.out; show subMS _ = _; rw [List.take_of_length_le (by omega)]
        clear hke
        go_wp2_with fail
        go_ret
        exact ⟨ret_int (by have := HK.out; have := HC.out; have := HL.out; rw [szN_pos (by omega)]; omega), hbel⟩

set_option maxHeartbeats 400000 in
theorem szTermS_zero (D : Nat) : SaidSzMS D 0 := by
  intro L B ao len cap ts left w _ hs h1 h2
  obtain ⟨rfl, rfl⟩ := hs
  go_enter Try.func28, Try.ntmps28
  go_wp2_with fail
  refine wp_loop_rounds 1 ?_; rw [rounds_succ]
  go_wp2_with fail
  go_ret
  exact ⟨ret_int (by rw [szN_pos (by simp [cntMS]; omega)]; simp [cntMS]), Below.refl _ _⟩

set_option maxHeartbeats 800000 in
theorem szTerm_of (D d : Nat) (h : SaidSzMS D d) : SaidSzM D d := by
  intro L B t a1 l1 c1 a2 l2 c2 a3 l3 c3 left w hB hf h1 h2
  have hb0 : Below w.heap.size w (w.alloc (.cells #[.int .i64 t.K, .int .i64 t.N, .string t.S, .string t.Z, .int .i64 t.T.K, .int .i64 t.T.N, .slice a1 l1 c1, .slice a2 l2 c2, .slice a3 l3 c3] 27)) := (Below.refl _ _).alloc (Nat.le_refl _) _
  have hs := hf.s
  have hz := hf.z
  have HC : Hid (cntM t = t.S.size + t.Z.size + cntS t.T.A + cntS t.Ts + cntMS t.A) := cntM_eq t
  by_cases e1 : left - t.S.size < 0
  · go_enter Try.func8, Try.ntmps8
    go_wp2_with fail
    go_ret
    exact ⟨ret_int (by rw [szN_neg (by rw [HC.out]; omega)]), hb0⟩
  by_cases e2 : left - t.S.size - t.Z.size < 0
  · go_enter Try.func8, Try.ntmps8
    go_wp2_with fail
    go_ret
    exact ⟨ret_int (by rw [szN_neg (by rw [HC.out]; omega)]), hb0⟩
  go_enter Try.func8, Try.ntmps8
  go_wp2_with fail
  have hf1 := Fm.below hb0 hB hf
  refine (szTy_any D L B _ _ _ _ _ t.T.A _ _ (by simp; omega) hf1.t1 (by omega) (by omega)).mono ?_
  rintro e w1 ⟨rfl, hb1⟩
  have hX1 := (hb1.block w.heap.size (by simp)).trans (heap_new rfl)
  have hbw1 : Below w.heap.size w w1 := hb0.trans (hb1.mono (by simp))
  have hsz1 : w.heap.size < w1.heap.size := by have := hb1.size; simp at this; omega
  by_cases e3 : (cntS t.T.A : Int) ≤ left - t.S.size - t.Z.size
  · rw [szL_pos e3]
    obtain ⟨f0, f1, f2, f3, f4, f5, f6, f7, f8⟩ := Nine.box hX1
    go_wp2_with fail
    have hf2 := Fm.below hbw1 hB hf
    refine (szTyS_any D L B _ _ _ t.Ts _ _ (by omega) hf2.t2 (by omega) (by omega)).mono ?_
    rintro e w2 ⟨rfl, hb2⟩
    have hX2 := (hb2.block w.heap.size hsz1).trans hX1
    have hbw2 : Below w.heap.size w w2 := hbw1.trans (hb2.mono (by omega))
    have hsz2 : w.heap.size < w2.heap.size := by have := hb2.size; omega
    by_cases e4 : (cntS t.Ts : Int) ≤ left - t.S.size - t.Z.size - cntS t.T.A
    · rw [szL_pos e4]
      clear f0 f1 f2 f3 f4 f5 f6 f7 f8
      obtain ⟨f0, f1, f2, f3, f4, f5, f6, f7, f8⟩ := Nine.box hX2
      go_wp2_with fail
      have hf3 := Fm.below hbw2 hB hf
      refine (h L B _ _ _ t.A _ _ (by omega) hf3.m (by omega) (by omega)).mono ?_
      rintro e w3 ⟨rfl, hb3⟩
      by_cases e5 : (cntMS t.A : Int) ≤ left - t.S.size - t.Z.size - cntS t.T.A - cntS t.Ts
      · rw [szN_pos e5]
        go_wp2_with fail
        go_ret
        exact ⟨ret_int (by have := HC.out; rw [szN_pos (by omega)]; omega), hbw2.trans (hb3.mono (by omega))⟩
      · rw [szN_neg e5]
        go_wp2_with fail
        go_ret
        exact ⟨ret_int (by have := HC.out; rw [szN_neg (by omega)]), hbw2.trans (hb3.mono (by omega))⟩
    · rw [szL_neg e4]
      go_wp2_with fail
      go_ret
      exact ⟨ret_int (by have := HC.out; rw [szN_neg (by omega)]), hbw2⟩
  · rw [szL_neg e3]
    go_wp2_with fail
    go_ret
    exact ⟨ret_int (by have := HC.out; rw [szN_neg (by omega)]), hbw1⟩

theorem szTermS_any (D : Nat) : ∀ d, SaidSzMS D d := by
  intro d
  induction d with
  | zero => exact szTermS_zero D
  | succ d ih => exact szTermS_succ D d (szTerm_of D d ih)
theorem szTerm_any (D d : Nat) : SaidSzM D d := szTerm_of D d (szTermS_any D d)

end Go.Proofs.Ytgckmnchlkgakaa
