/-
  What the model's 'UsesOf' comes to.
-/
import Derived.Test.YtdemlfhkhkfceaaUsoSu1
import Derived.Test.YtdemlfhkhkfceaaUsoTr
namespace Go.Proofs.Ytdemlfhkhkfceaa
open Go.RowKit
set_option linter.unusedVariables false
set_option linter.unusedSimpArgs false

set_option maxRecDepth 100000 in
set_option maxHeartbeats 1000000 in
theorem sUsesOf_any (D d L B : Nat) (t : Tm) (a1 : Option Addr) (l1 c1 : Nat) (a2 : Option Addr) (l2 c2 : Nat) (a3 : Option Addr) (l3 c3 : Nat) (s : ByteArray) (w : World) (hB : B ≤ w.heap.size) (hf : Fm L B w D d t a1 l1 a2 l2 a3 l3) :
    Calls Try.prog 6 #[.agg #[.int .i64 t.K, .int .i64 t.N, .string t.S, .string t.Z, .int .i64 t.T.K, .int .i64 t.T.N, .slice a1 l1 c1, .slice a2 l2 c2, .slice a3 l3 c3], .string s] w fun e w' => e = .returned (.int .i64 (usesT (bs s) t : Int)) ∧ Below w.heap.size w w' := by
  obtain ⟨X, hX⟩ : ∃ X, X = w.alloc (.cells #[.int .i64 t.K, .int .i64 t.N, .string t.S, .string t.Z, .int .i64 t.T.K, .int .i64 t.T.N, .slice a1 l1 c1, .slice a2 l2 c2, .slice a3 l3 c3] 35) := ⟨_, rfl⟩
  have hXs : X.heap.size = w.heap.size + 1 := by rw [hX]; simp
  have hXb : Below w.heap.size w X := by rw [hX]; exact (Below.refl _ _).alloc (Nat.le_refl _) _
  have hX1 : X.heap[w.heap.size]? = some (.cells #[.int .i64 t.K, .int .i64 t.N, .string t.S, .string t.Z, .int .i64 t.T.K, .int .i64 t.T.N, .slice a1 l1 c1, .slice a2 l2 c2, .slice a3 l3 c3] 35 (0, 0)) := by rw [hX]; exact heap_new rfl
  have hf1 := Fm.below hXb hB hf
  have HX : Hid (X = _) := hX
  clear hX
  cases hok : okM t with
  | false =>
    have HE : Hid (usesT (bs s) t = 0) := by show _ = _; simp [usesT, hok]
    have HF : Hid (okM t = false) := hok
    rw [HE.out]
    clear hok
    go_enter Try.func6, Try.ntmps6
    go_wp2_with fail
    rw [← HX.out]
    refine (sTermOk_any D d L B t _ _ _ _ _ _ _ _ _ _ (by omega) hf1).mono ?_
    rintro e w1 ⟨rfl, hb1⟩
    rw [HF.out]
    go_wp2_with fail
    go_ret
    exact ⟨rfl, hXb.trans (hb1.mono (by omega))⟩
  | true =>
    obtain ⟨m, hm, hm6⟩ := okM_some hok
    have HE : Hid (usesT (bs s) t = usesN (bs s) 24 t) := by show _ = _; simp [usesT, hok]
    have HF : Hid (okM t = true) := hok
    have HM : Hid (nodesM 24 t = some m) := hm
    rw [HE.out]
    obtain ⟨u, hu⟩ : ∃ u, usesN (bs s) 24 t = u := ⟨_, rfl⟩
    have KU := su_any 24 D d L B t a1 l1 c1 a2 l2 c2 a3 l3 c3 m s
    rw [hu] at KU ⊢
    clear hok hm hu
    go_enter Try.func6, Try.ntmps6
    go_wp2_with fail
    rw [← HX.out]
    refine (sTermOk_any D d L B t _ _ _ _ _ _ _ _ _ _ (by omega) hf1).mono ?_
    rintro e w1 ⟨rfl, hb1⟩
    rw [HF.out]
    have hz1 := hb1.size
    have hbw1 : Below w.heap.size w w1 := hXb.trans (hb1.mono (by omega))
    have y1 := (hb1.block _ (by omega)).trans hX1
    have KU1 := KU w1 (by omega) (Fm.below hb1 (by omega) hf1) HM.out (by omega)
    obtain ⟨x0, x1, x2, x3, x4, x5, x6, x7, x8⟩ := Nine.box y1
    go_wp2_with fail
    refine KU1.mono ?_
    rintro e w2 ⟨rfl, hb2⟩
    go_wp2_with fail
    go_ret
    exact ⟨rfl, hbw1.trans (hb2.mono (by omega))⟩

end Go.Proofs.Ytdemlfhkhkfceaa

/-
  What 'szTy', 'szTyS' (the count of parts against a bound) come to.
-/
namespace Go.Proofs.Ytdemlfhkhkfceaa
open Go.RowKit
set_option linter.unusedVariables false
set_option linter.unusedSimpArgs false

def SaidSz (d : Nat) : Prop := ∀ (L B : Nat) (k n : Int) (ao : Option Addr) (len cap : Nat) (ts : List Tr) (left : Int) (w : World), B ≤ w.heap.size → Hs L B w d ao len ts → 0 ≤ left → left ≤ 1048576 →
    Calls Try.prog 14 #[.agg #[.int .i64 k, .int .i64 n, .slice ao len cap], .int .i64 left] w fun e w' => e = .returned (.int .i64 (szL ts left)) ∧ Below w.heap.size w w'
def SaidSzS (d : Nat) : Prop := ∀ (L B : Nat) (ao : Option Addr) (len cap : Nat) (ts : List Tr) (left : Int) (w : World), B ≤ w.heap.size → Hs L B w d ao len ts → 0 ≤ left → left ≤ 1048576 →
    Calls Try.prog 15 #[.slice ao len cap, .int .i64 left] w fun e w' => e = .returned (.int .i64 (szL ts left)) ∧ Below w.heap.size w w'

set_option maxHeartbeats 400000 in
theorem szTyS_succ (d : Nat) (IH : SaidSz d) : SaidSzS (d + 1) := by
  intro L B ao len cap ts left w hB hs h1 h2
  have hl := hs.2.1
  have HL : Hid (len = ts.length) := hs.1
  have HC : Hid (cntS ts = ts.length + subS ts) := cntS_eq ts
  by_cases hneg : left - len < 0
  · go_enter Try.func15, Try.ntmps15
    go_wp2_with fail
    go_ret
    exact ⟨ret_int (by rw [szL_neg (by rw [HC.out]; have := HL.out; omega)]), Below.refl _ _⟩
  · go_enter Try.func15, Try.ntmps15
    go_wp2_with fail
    go_loopw [1, 5] (fun l i wr => ∃ k : Nat, k ≤ len ∧ i = .int .i64 k ∧ ((len : Int) + subS (ts.take k)) ≤ left ∧ l = .int .i64 (left - len - subS (ts.take k)) ∧ Below w.heap.size w wr) (fun _ i _ => len - (intOf i).toNat)
    case atStart => exact ⟨0, by omega, rfl, by simp [subS]; omega, by simp [subS], Below.refl _ _⟩
    case round =>
      obtain ⟨k, hk, rfl, hle, rfl, hbel⟩ := hrel
      have hsz := hbel.size
      by_cases hlt : k < len
      · have hlt' : k < ts.length := by have := HL.out; omega
        obtain ⟨b, o, rfl, _, hbB, ao', len', cap', c0, c1, c2, hs'⟩ := hs.2.2 k hlt'
        have e0 := (bcell hbel (by omega) _).trans c0
        have e1 := (bcell hbel (by omega) _).trans c1
        have e2 := (bcell hbel (by omega) _).trans c2
        have hs2 := hs'.below hbel hB
        have HT : Hid (subS (ts.take (k + 1)) = subS (ts.take k) + cntS ts[k].A) := subS_take ts k hlt'
        have HTL : Hid (subS (ts.take (k + 1)) ≤ subS ts) := subS_take_le ts _
        go_wp2_with fail
        refine (IH _ _ _ _ _ _ _ _ _ _ (by omega) hs2 (by omega) (by omega)).mono ?_
        rintro e w1 ⟨rfl, hb1⟩
        have hbel1 : Below w.heap.size w w1 := hbel.trans (hb1.mono hsz)
        by_cases hc : (cntS ts[k].A : Int) ≤ left - len - subS (ts.take k)
        · rw [szL_pos hc]
          go_wp2_with fail
          go_roundw
          case rel => exact ⟨k + 1, by omega, by go_num, by rw [HT.out]; omega, by rw [HT.out]; go_num, hbel1⟩
          case measure => simp [intOf]; omega
        · rw [szL_neg hc]
          go_wp2_with fail
          go_ret
          exact ⟨ret_int (by rw [szL_neg (by have := HT.out; have := HTL.out; have := HC.out; have := HL.out; omega)]), hbel1⟩
      · have hke : k = len := by omega
        have HK : Hid (subS (ts.take k) = subS ts) := by have := HL.out; show subS _ = _; rw [List.take_of_length_le (by omega)]
        clear hke
        go_wp2_with fail
        go_ret
        exact ⟨ret_int (by have := HK.out; have := HC.out; have := HL.out; rw [szL_pos (by omega)]; omega), hbel⟩

set_option maxHeartbeats 400000 in
theorem szTyS_zero : SaidSzS 0 := by
  intro L B ao len cap ts left w _ hs h1 h2
  obtain ⟨rfl, rfl⟩ := hs
  go_enter Try.func15, Try.ntmps15
  go_wp2_with fail
  refine wp_loop_rounds 1 ?_; rw [rounds_succ]
  go_wp2_with fail
  go_ret
  exact ⟨ret_int (by rw [szL_pos (by simp [cntS]; omega)]; simp [cntS]), Below.refl _ _⟩

set_option maxHeartbeats 400000 in
theorem szTy_of (d : Nat) (h : SaidSzS d) : SaidSz d := by
  intro L B k n ao len cap ts left w hB hs h1 h2
  have hs1 : Hs L B (w.alloc (.cells #[.int .i64 k, .int .i64 n, .slice ao len cap] 24)) d ao len ts := hs.below ((Below.refl _ _).alloc (Nat.le_refl _) _) hB
  by_cases hc : (cntS ts : Int) ≤ left
  · go_enter Try.func14, Try.ntmps14
    go_wp2_with fail
    refine (h _ _ _ _ _ _ _ _ (by simp; omega) hs1 h1 h2).mono ?_
    rintro e w1 ⟨rfl, hb1⟩
    rw [szL_pos hc]
    go_wp2_with fail
    go_ret
    exact ⟨ret_int (by rw [szL_pos hc]), ((Below.refl _ _).alloc (Nat.le_refl _) _).trans (hb1.mono (by simp))⟩
  · go_enter Try.func14, Try.ntmps14
    go_wp2_with fail
    refine (h _ _ _ _ _ _ _ _ (by simp; omega) hs1 h1 h2).mono ?_
    rintro e w1 ⟨rfl, hb1⟩
    rw [szL_neg (by omega)]
    go_wp2_with fail
    go_ret
    exact ⟨ret_int (by rw [szL_neg (by omega)]), ((Below.refl _ _).alloc (Nat.le_refl _) _).trans (hb1.mono (by simp))⟩

theorem szTyS_any : ∀ d, SaidSzS d := by
  intro d
  induction d with
  | zero => exact szTyS_zero
  | succ d ih => exact szTyS_succ d (szTy_of d ih)
theorem szTy_any (d : Nat) : SaidSz d := szTy_of d (szTyS_any d)

end Go.Proofs.Ytdemlfhkhkfceaa
