/-
  The node of a number, in plain words.
-/
import Derived.Test.YtgckmnchlkgakaaNdaZ10
import Derived.Test.YtgckmnchlkgakaaNdaTr
namespace Go.Proofs.Ytgckmnchlkgakaa
open Go.RowKit
set_option linter.unusedVariables false
set_option linter.unusedSimpArgs false

/-- The nodes of a term that is right. -/
def nodT (t : Tm) : List Tm := if okM t = true then allW t else []
theorem nodT_len (t : Tm) : (nodT t).length ≤ 150 := by
  unfold nodT
  split
  · rename_i h
    obtain ⟨m, hm, h6⟩ := okM_some h
    have h1 := allW_len 24 t m hm
    omega
  · simp
theorem nodT_cnt {t r : Tm} (hm : r ∈ nodT t) : cntM r ≤ cntM t := by
  unfold nodT at hm
  split at hm
  · exact allW_cnt _ t (Nat.le_refl _) _ hm
  · simp at hm
def natM (t : Tm) (n : Int) : Tm × Bool := nthM (nodT t) n
theorem nodeAt_cnt (t : Tm) (n : Int) : cntM (natM t n).1 ≤ cntM t := by
  unfold natM
  by_cases h : 0 ≤ n ∧ n < (nodT t).length
  · obtain ⟨i, rfl⟩ : ∃ i : Nat, n = i := ⟨n.toNat, by omega⟩
    have hi : i < (nodT t).length := by omega
    rw [nthM_at hi]
    exact nodT_cnt (List.getElem_mem hi)
  · rw [nthM_no h, zTm_cnt]; omega

end Go.Proofs.Ytgckmnchlkgakaa

/-
  What 'szTy', 'szTyS' (the count of parts against a bound) come to.
-/
namespace Go.Proofs.Ytgckmnchlkgakaa
open Go.RowKit
set_option linter.unusedVariables false
set_option linter.unusedSimpArgs false

def SaidSz (d : Nat) : Prop := ∀ (L B : Nat) (k n : Int) (ao : Option Addr) (len cap : Nat) (ts : List Tr) (left : Int) (w : World), B ≤ w.heap.size → Hs L B w d ao len ts → 0 ≤ left → left ≤ 1048576 →
    Calls Try.prog 26 #[.agg #[.int .i64 k, .int .i64 n, .slice ao len cap], .int .i64 left] w fun e w' => e = .returned (.int .i64 (szL ts left)) ∧ Below w.heap.size w w'
def SaidSzS (d : Nat) : Prop := ∀ (L B : Nat) (ao : Option Addr) (len cap : Nat) (ts : List Tr) (left : Int) (w : World), B ≤ w.heap.size → Hs L B w d ao len ts → 0 ≤ left → left ≤ 1048576 →
    Calls Try.prog 27 #[.slice ao len cap, .int .i64 left] w fun e w' => e = .returned (.int .i64 (szL ts left)) ∧ Below w.heap.size w w'

set_option maxHeartbeats 400000 in
theorem szTyS_succ (d : Nat) (IH : SaidSz d) : SaidSzS (d + 1) := by
  intro L B ao len cap ts left w hB hs h1 h2
  have hl := hs.2.1
  have HL : Hid (len = ts.length) := hs.1
  have HC : Hid (cntS ts = ts.length + subS ts) := cntS_eq ts
  by_cases hneg : left - len < 0
  · go_enter Try.func27, Try.ntmps27
    go_wp2_with fail
    go_ret
    exact ⟨ret_int (by rw [szL_neg (by rw [HC.out]; have := HL.out; omega)]), Below.refl _ _⟩
  · go_enter Try.func27, Try.ntmps27
    go_wp2_with fail
    go_loopw [1, 5] (fun l i wr => ∃ k : Nat, k ≤ len ∧ i = .int .i64 k ∧ ((len : Int) + subS (ts.take k)) ≤ left ∧ l = .int .i64 (left - len - subS (ts.take k)) ∧ Below w.heap.size w wr) (fun _ i _ => len - (intOf i).toNat)
    case atStart => exact ⟨0, by omega, rfl, by simp [subS]; omega, by simp [subS], Below.refl _ _⟩
    case round =>
      obtain ⟨k, hk, rfl, hle, rfl, hbel⟩ := hrel
      have hsz := hbel.size
      by_cases hlt : k < len
      · have hlt' : k < ts.length := by have := HL.out; omega
        obtain ⟨b, o, rfl, _, hbB, ao', len', cap', c0, c1, c2, hs'⟩ := hs.2.2 k hlt'
        have e0 := (bcell hbel (by omega) _).trans c0
        have e1 := (bcell hbel (by omega) _).trans c1
        have e2 := (bcell hbel (by omega) _).trans c2
        have hs2 := hs'.below hbel hB
        have HT : Hid (subS (ts.take (k + 1)) = subS (ts.take k) + cntS ts[k].A) := subS_take ts k hlt'
        have HTL : Hid (subS (ts.take (k + 1)) ≤ subS ts) := subS_take_le ts _
        go_wp2_with fail
        refine (IH _ _ _ _ _ _ _ _ _ _ (by omega) hs2 (by omega) (by omega)).mono ?_
        rintro e w1 ⟨rfl, hb1⟩
        have hbel1 : Below w.heap.size w w1 := hbel.trans (hb1.mono hsz)
        by_cases hc : (cntS ts[k].A : Int) ≤ left - len - subS (ts.take k)
        · rw [szL_pos hc]
          go_wp2_with fail
          go_roundw
          case rel => exact ⟨k + 1, by omega, by go_num, by rw [HT.out]; omega, by rw [HT.out]; go_num, hbel1⟩
          case measure => simp [intOf]; omega
        · rw [szL_neg hc]
          go_wp2_with fail
          go_ret
          exact ⟨ret_int (by rw [szL_neg (by have := HT.out; have := HTL.out; have := HC.out; have := HL.out; omega)]), hbel1⟩
      · have hke : k = len := by omega
        have HK : Hid (subS (ts.take k) = subS ts) := by have := HL.out; show subS _ = _; rw [List.take_of_length_le (by omega)]
        clear hke
        go_wp2_with fail
        go_ret
        exact ⟨ret_int (by have := HK.out; have := HC.out; have := HL.out; rw [szL_pos (by omega)]; omega), hbel⟩

set_option maxHeartbeats 400000 in
theorem szTyS_zero : SaidSzS 0 := by
  intro L B ao len cap ts left w _ hs h1 h2
  obtain ⟨rfl, rfl⟩ := hs
  go_enter Try.func27, Try.ntmps27
  go_wp2_with fail
  refine wp_loop_rounds 1 ?_; rw [rounds_succ]
  go_wp2_with fail
  go_ret
  exact ⟨ret_int (by rw [szL_pos (by simp [cntS]; omega)]; simp [cntS]), Below.refl _ _⟩

set_option maxHeartbeats 400000 in
theorem szTy_of (d : Nat) (h : SaidSzS d) : SaidSz d := by
  intro L B k n ao len cap ts left w hB hs h1 h2
  have hs1 : Hs L B (w.alloc (.cells #[.int .i64 k, .int .i64 n, .slice ao len cap] 24)) d ao len ts := hs.below ((Below.refl _ _).alloc (Nat.le_refl _) _) hB
  by_cases hc : (cntS ts : Int) ≤ left
  · go_enter Try.func26, Try.ntmps26
    go_wp2_with fail
    refine (h _ _ _ _ _ _ _ _ (by simp; omega) hs1 h1 h2).mono ?_
    rintro e w1 ⟨rfl, hb1⟩
    rw [szL_pos hc]
    go_wp2_with fail
    go_ret
    exact ⟨ret_int (by rw [szL_pos hc]), ((Below.refl _ _).alloc (Nat.le_refl _) _).trans (hb1.mono (by simp))⟩
  · go_enter Try.func26, Try.ntmps26
    go_wp2_with fail
    refine (h _ _ _ _ _ _ _ _ (by simp; omega) hs1 h1 h2).mono ?_
    rintro e w1 ⟨rfl, hb1⟩
    rw [szL_neg (by omega)]
    go_wp2_with fail
    go_ret
    exact ⟨ret_int (by rw [szL_neg (by omega)]), ((Below.refl _ _).alloc (Nat.le_refl _) _).trans (hb1.mono (by simp))⟩

theorem szTyS_any : ∀ d, SaidSzS d := by
  intro d
  induction d with
  | zero => exact szTyS_zero
  | succ d ih => exact szTyS_succ d (szTy_of d ih)
theorem szTy_any (d : Nat) : SaidSz d := szTy_of d (szTyS_any d)

end Go.Proofs.Ytgckmnchlkgakaa
