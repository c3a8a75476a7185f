/-
  The model's 'l2Text' at every right term, and its 'TermText'.
-/
import Derived.Test.YtjikcckggifinaaDoorTtLx1
import Derived.Test.YtjikcckggifinaaDoorTtLx2
import Derived.Test.YtjikcckggifinaaDoorTtLx3
import Derived.Test.YtjikcckggifinaaDoorTtLx4
import Derived.Test.YtjikcckggifinaaDoorTtLkM
import Derived.LoopN
import Derived.Test.YtjikcckggifinaaDoorTtTr
namespace Go.Proofs.YtjikcckggifinaaDoor
open Go.RowKit
set_option linter.unusedVariables false
set_option linter.unusedSimpArgs false

theorem lx_zero : SaidLX 0 := by
  intro D d L B t a1 l1 c1 a2 l2 c2 a3 l3 c3 m w hB hf hm
  simp [nodesM] at hm

set_option maxHeartbeats 1000000 in
theorem lx_succ (l : Nat) (IH : SaidLX l) : SaidLX (l + 1) := by
  intro D d L B t a1 l1 c1 a2 l2 c2 a3 l3 c3 m w hB hf hm hm6
  obtain ⟨hN, _⟩ := nodesM_inv2 hm
  have hk1 := hN.k1
  have hk2 := hN.k17
  have hK : t.K = 1 ∨ t.K = 2 ∨ t.K = 3 ∨ t.K = 4 ∨ t.K = 5 ∨ t.K = 6 ∨ t.K = 7 ∨ t.K = 8 ∨ t.K = 9 ∨ t.K = 10 ∨ t.K = 11 ∨ t.K = 12 ∨ t.K = 13 ∨ t.K = 14 ∨ t.K = 15 ∨ t.K = 16 ∨ t.K = 17 := by omega
  have n1 := hN.n1
  have n2 := hN.n2
  rcases hK with hK | hK | hK | hK | hK | hK | hK | hK | hK | hK | hK | hK | hK | hK | hK | hK | hK
  · exact lx_1 l IH D d L B t a1 l1 c1 a2 l2 c2 a3 l3 c3 m w hB hf hm hm6 hK
  · rw [hK] at n1 n2
    have el : shL 2 = 0 := rfl
    have em : shM 2 = 1 := rfl
    have hc : t.N = 0 ∨ t.N = 1 := by omega
    rcases hc with hc | hc
    · exact lx_2_0 l IH D d L B t a1 l1 c1 a2 l2 c2 a3 l3 c3 m w hB hf hm hm6 hK hc
    · exact lx_2_1 l IH D d L B t a1 l1 c1 a2 l2 c2 a3 l3 c3 m w hB hf hm hm6 hK hc
  · exact lx_3 l IH D d L B t a1 l1 c1 a2 l2 c2 a3 l3 c3 m w hB hf hm hm6 hK
  · exact lx_4 l IH D d L B t a1 l1 c1 a2 l2 c2 a3 l3 c3 m w hB hf hm hm6 hK
  · exact lx_5 l IH D d L B t a1 l1 c1 a2 l2 c2 a3 l3 c3 m w hB hf hm hm6 hK
  · exact lx_6 l IH D d L B t a1 l1 c1 a2 l2 c2 a3 l3 c3 m w hB hf hm hm6 hK
  · exact lx_7 l IH D d L B t a1 l1 c1 a2 l2 c2 a3 l3 c3 m w hB hf hm hm6 hK
  · exact lx_8 l IH D d L B t a1 l1 c1 a2 l2 c2 a3 l3 c3 m w hB hf hm hm6 hK
  · exact lx_9 l IH D d L B t a1 l1 c1 a2 l2 c2 a3 l3 c3 m w hB hf hm hm6 hK
  · exact lx_10 l IH D d L B t a1 l1 c1 a2 l2 c2 a3 l3 c3 m w hB hf hm hm6 hK
  · exact lx_11 l IH D d L B t a1 l1 c1 a2 l2 c2 a3 l3 c3 m w hB hf hm hm6 hK
  · exact lx_12 l IH D d L B t a1 l1 c1 a2 l2 c2 a3 l3 c3 m w hB hf hm hm6 hK
  · exact lx_13 l IH D d L B t a1 l1 c1 a2 l2 c2 a3 l3 c3 m w hB hf hm hm6 hK
  · exact lx_14 l IH D d L B t a1 l1 c1 a2 l2 c2 a3 l3 c3 m w hB hf hm hm6 hK
  · rw [hK] at n1 n2
    have el : shL 15 = 1 := rfl
    have em : shM 15 = 5 := rfl
    have hc : t.N = 1 ∨ t.N = 2 ∨ t.N = 3 ∨ t.N = 4 ∨ t.N = 5 := by omega
    rcases hc with hc | hc | hc | hc | hc
    · exact lx_15_1 l IH D d L B t a1 l1 c1 a2 l2 c2 a3 l3 c3 m w hB hf hm hm6 hK hc
    · exact lx_15_2 l IH D d L B t a1 l1 c1 a2 l2 c2 a3 l3 c3 m w hB hf hm hm6 hK hc
    · exact lx_15_3 l IH D d L B t a1 l1 c1 a2 l2 c2 a3 l3 c3 m w hB hf hm hm6 hK hc
    · exact lx_15_4 l IH D d L B t a1 l1 c1 a2 l2 c2 a3 l3 c3 m w hB hf hm hm6 hK hc
    · exact lx_15_5 l IH D d L B t a1 l1 c1 a2 l2 c2 a3 l3 c3 m w hB hf hm hm6 hK hc
  · exact lx_16 l IH D d L B t a1 l1 c1 a2 l2 c2 a3 l3 c3 m w hB hf hm hm6 hK
  · exact lx_17 l IH D d L B t a1 l1 c1 a2 l2 c2 a3 l3 c3 m w hB hf hm hm6 hK

theorem lx_any (l : Nat) : SaidLX l := by
  induction l with
  | zero => exact lx_zero
  | succ l ih => exact lx_succ l ih

end Go.Proofs.YtjikcckggifinaaDoor

/-
  What the model's 'TermText' comes to: the same as the program's.
-/
namespace Go.Proofs.YtjikcckggifinaaDoor
open Go.RowKit
set_option linter.unusedVariables false
set_option linter.unusedSimpArgs false

set_option maxRecDepth 100000 in
set_option maxHeartbeats 1000000 in
theorem sTermText_any (D d L B : Nat) (t : Tm) (a1 : Option Addr) (l1 c1 : Nat) (a2 : Option Addr) (l2 c2 : Nat) (a3 : Option Addr) (l3 c3 : Nat) (w : World) (hB : B ≤ w.heap.size) (hf : Fm L B w D d t a1 l1 a2 l2 a3 l3) :
    Calls Tryd.prog 5 #[.agg #[.int .i64 t.K, .int .i64 t.N, .string t.S, .string t.Z, .int .i64 t.T.K, .int .i64 t.T.N, .slice a1 l1 c1, .slice a2 l2 c2, .slice a3 l3 c3]] w fun e w' => e = .returned (.string ⟨(txM t).toArray⟩) ∧ Below w.heap.size w w' := by
  obtain ⟨X, hX⟩ : ∃ X, X = w.alloc (.cells #[.int .i64 t.K, .int .i64 t.N, .string t.S, .string t.Z, .int .i64 t.T.K, .int .i64 t.T.N, .slice a1 l1 c1, .slice a2 l2 c2, .slice a3 l3 c3] 35) := ⟨_, rfl⟩
  have hXs : X.heap.size = w.heap.size + 1 := by rw [hX]; simp
  have hXb : Below w.heap.size w X := by rw [hX]; exact (Below.refl _ _).alloc (Nat.le_refl _) _
  have hX1 : X.heap[w.heap.size]? = some (.cells #[.int .i64 t.K, .int .i64 t.N, .string t.S, .string t.Z, .int .i64 t.T.K, .int .i64 t.T.N, .slice a1 l1 c1, .slice a2 l2 c2, .slice a3 l3 c3] 35 (0, 0)) := by rw [hX]; exact heap_new rfl
  have hf1 := Fm.below hXb hB hf
  have HX : Hid (X = _) := hX
  clear hX
  cases hok : okM t with
  | false =>
    have HE : Hid (txM t = []) := by show _ = _; simp [txM, hok]
    have HF : Hid (okM t = false) := hok
    clear hok
    go_enter Tryd.func5, Tryd.ntmps5
    go_wp2_with fail
    rw [← HX.out]
    refine (sTermOk_any D d L B t _ _ _ _ _ _ _ _ _ _ (by omega) hf1).mono ?_
    rintro e w1 ⟨rfl, hb1⟩
    rw [HF.out]
    go_wp2_with fail
    go_ret
    exact ⟨by rw [HE.out]; rfl, hXb.trans (hb1.mono (by omega))⟩
  | true =>
    obtain ⟨m, hm, hm6⟩ := okM_le hok
    have HE : Hid (txM t = Lib.join (toksM 24 t) [32]) := by show _ = _; simp [txM, hok]
    have HF : Hid (okM t = true) := hok
    have HM : Hid (nodesM 24 t = some m) := hm
    clear hok hm
    go_enter Tryd.func5, Tryd.ntmps5
    go_wp2_with fail
    rw [← HX.out]
    refine (sTermOk_any D d L B t _ _ _ _ _ _ _ _ _ _ (by omega) hf1).mono ?_
    rintro e w1 ⟨rfl, hb1⟩
    rw [HF.out]
    have hz1 := hb1.size
    have hbw1 : Below w.heap.size w w1 := hXb.trans (hb1.mono (by omega))
    obtain ⟨f0, f1, f2, f3, f4, f5, f6, f7, f8⟩ := Nine.box ((hb1.block _ (by omega)).trans hX1)
    go_wp2_with fail
    refine (lx_any 24 D d L B t a1 l1 c1 a2 l2 c2 a3 l3 c3 m w1 (by omega) (Fm.below hbw1 hB hf) HM.out (by omega)).mono ?_
    rintro e w2 ⟨rfl, hb2⟩
    go_wp2_with fail
    go_ret
    exact ⟨by rw [HE.out]; rfl, hbw1.trans (hb2.mono (by omega))⟩

end Go.Proofs.YtjikcckggifinaaDoor

/-
  What 'szTy', 'szTyS' (the count of parts against a bound) come to.
-/
namespace Go.Proofs.YtjikcckggifinaaDoor
open Go.RowKit
set_option linter.unusedVariables false
set_option linter.unusedSimpArgs false

def SaidSz (d : Nat) : Prop := ∀ (L B : Nat) (k n : Int) (ao : Option Addr) (len cap : Nat) (ts : List Tr) (left : Int) (w : World), B ≤ w.heap.size → Hs L B w d ao len ts → 0 ≤ left → left ≤ 1048576 →
    Calls Tryd.prog 9 #[.agg #[.int .i64 k, .int .i64 n, .slice ao len cap], .int .i64 left] w fun e w' => e = .returned (.int .i64 (szL ts left)) ∧ Below w.heap.size w w'
def SaidSzS (d : Nat) : Prop := ∀ (L B : Nat) (ao : Option Addr) (len cap : Nat) (ts : List Tr) (left : Int) (w : World), B ≤ w.heap.size → Hs L B w d ao len ts → 0 ≤ left → left ≤ 1048576 →
    Calls Tryd.prog 10 #[.slice ao len cap, .int .i64 left] w fun e w' => e = .returned (.int .i64 (szL ts left)) ∧ Below w.heap.size w w'

set_option maxHeartbeats 400000 in
theorem szTyS_succ (d : Nat) (IH : SaidSz d) : SaidSzS (d + 1) := by
  intro L B ao len cap ts left w hB hs h1 h2
  have hl := hs.2.1
  have HL : Hid (len = ts.length) := hs.1
  have HC : Hid (cntS ts = ts.length + subS ts) := cntS_eq ts
  by_cases hneg : left - len < 0
  · go_enter Tryd.func10, Tryd.ntmps10
    go_wp2_with fail
    go_ret
    exact ⟨ret_int (by rw [szL_neg (by rw [HC.out]; have := HL.out; omega)]), Below.refl _ _⟩
  · go_enter Tryd.func10, Tryd.ntmps10
    go_wp2_with fail
    go_loopw [1, 5] (fun l i wr => ∃ k : Nat, k ≤ len ∧ i = .int .i64 k ∧ ((len : Int) + subS (ts.take k)) ≤ left ∧ l = .int .i64 (left - len - subS (ts.take k)) ∧ Below w.heap.size w wr) (fun _ i _ => len - (intOf i).toNat)
    case atStart => exact ⟨0, by omega, rfl, by simp [subS]; omega, by simp [subS], Below.refl _ _⟩
    case round =>
      obtain ⟨k, hk, rfl, hle, rfl, hbel⟩ := hrel
      have hsz := hbel.size
      by_cases hlt : k < len
      · have hlt' : k < ts.length := by have := HL.out; omega
        obtain ⟨b, o, rfl, _, hbB, ao', len', cap', c0, c1, c2, hs'⟩ := hs.2.2 k hlt'
        have e0 := (bcell hbel (by omega) _).trans c0
        have e1 := (bcell hbel (by omega) _).trans c1
        have e2 := (bcell hbel (by omega) _).trans c2
        have hs2 := hs'.below hbel hB
        have HT : Hid (subS (ts.take (k + 1)) = subS (ts.take k) + cntS ts[k].A) := subS_take ts k hlt'
        have HTL : Hid (subS (ts.take (k + 1)) ≤ subS ts) := subS_take_le ts _
        go_wp2_with fail
        refine (IH _ _ _ _ _ _ _ _ _ _ (by omega) hs2 (by omega) (by omega)).mono ?_
        rintro e w1 ⟨rfl, hb1⟩
        have hbel1 : Below w.heap.size w w1 := hbel.trans (hb1.mono hsz)
        by_cases hc : (cntS ts[k].A : Int) ≤ left - len - subS (ts.take k)
        · rw [szL_pos hc]
          go_wp2_with fail
          go_roundw
          case rel => exact ⟨k + 1, by omega, by go_num, by rw [HT.out]; omega, by rw [HT.out]; go_num, hbel1⟩
          case measure => simp [intOf]; omega
        · rw [szL_neg hc]
          go_wp2_with fail
          go_ret
          exact ⟨ret_int (by rw [szL_neg (by have := HT.out; have := HTL.out; have := HC.out; have := HL.out; omega)]), hbel1⟩
      · have hke : k = len := by omega
        have HK : Hid (subS (ts.take k) = subS ts) := by have := HL.out; show subS _ = _; rw [List.take_of_length_le (by omega)]
        clear hke
        go_wp2_with fail
        go_ret
        exact ⟨ret_int (by have := HK.out; have := HC.out; have := HL.out; rw [szL_pos (by omega)]; omega), hbel⟩

set_option maxHeartbeats 400000 in
theorem szTyS_zero : SaidSzS 0 := by
  intro L B ao len cap ts left w _ hs h1 h2
  obtain ⟨rfl, rfl⟩ := hs
  go_enter Tryd.func10, Tryd.ntmps10
  go_wp2_with fail
  refine wp_loop_rounds 1 ?_; rw [rounds_succ]
  go_wp2_with fail
  go_ret
  exact ⟨ret_int (by rw [szL_pos (by simp [cntS]; omega)]; simp [cntS]), Below.refl _ _⟩

set_option maxHeartbeats 400000 in
theorem szTy_of (d : Nat) (h : SaidSzS d) : SaidSz d := by
  intro L B k n ao len cap ts left w hB hs h1 h2
  have hs1 : Hs L B (w.alloc (.cells #[.int .i64 k, .int .i64 n, .slice ao len cap] 24)) d ao len ts := hs.below ((Below.refl _ _).alloc (Nat.le_refl _) _) hB
  by_cases hc : (cntS ts : Int) ≤ left
  · go_enter Tryd.func9, Tryd.ntmps9
    go_wp2_with fail
    refine (h _ _ _ _ _ _ _ _ (by simp; omega) hs1 h1 h2).mono ?_
    rintro e w1 ⟨rfl, hb1⟩
    rw [szL_pos hc]
    go_wp2_with fail
    go_ret
    exact ⟨ret_int (by rw [szL_pos hc]), ((Below.refl _ _).alloc (Nat.le_refl _) _).trans (hb1.mono (by simp))⟩
  · go_enter Tryd.func9, Tryd.ntmps9
    go_wp2_with fail
    refine (h _ _ _ _ _ _ _ _ (by simp; omega) hs1 h1 h2).mono ?_
    rintro e w1 ⟨rfl, hb1⟩
    rw [szL_neg (by omega)]
    go_wp2_with fail
    go_ret
    exact ⟨ret_int (by rw [szL_neg (by omega)]), ((Below.refl _ _).alloc (Nat.le_refl _) _).trans (hb1.mono (by simp))⟩

theorem szTyS_any : ∀ d, SaidSzS d := by
  intro d
  induction d with
  | zero => exact szTyS_zero
  | succ d ih => exact szTyS_succ d (szTy_of d ih)
theorem szTy_any (d : Nat) : SaidSz d := szTy_of d (szTyS_any d)

end Go.Proofs.YtjikcckggifinaaDoor
