/-
  What 'eqTy', 'eqTyS' come to where both hold one tree: true.
-/
import Derived.Test.YtgckmnchlkgakaaLmaTr
import Derived.Deep.RegionWith
import Derived.Test.YtgckmnchlkgakaaLmaTm
namespace Go.Proofs.Ytgckmnchlkgakaa
open Go.RowKit
set_option linter.unusedVariables false
set_option linter.unusedSimpArgs false

def SaidEq (d : Nat) : Prop := ∀ (L B L' B' : Nat) (k n : Int) (ao : Option Addr) (len cap : Nat) (ao' : Option Addr) (len' cap' : Nat) (ts : List Tr) (w : World), B ≤ w.heap.size → B' ≤ w.heap.size → Hs L B w d ao len ts → Hs L' B' w d ao' len' ts →
    Calls Try.prog 38 #[.agg #[.int .i64 k, .int .i64 n, .slice ao len cap], .agg #[.int .i64 k, .int .i64 n, .slice ao' len' cap']] w fun e w' => e = .returned (.bool true) ∧ Below w.heap.size w w'
def SaidEqS (d : Nat) : Prop := ∀ (L B L' B' : Nat) (ao : Option Addr) (len cap : Nat) (ao' : Option Addr) (len' cap' : Nat) (ts : List Tr) (w : World), B ≤ w.heap.size → B' ≤ w.heap.size → Hs L B w d ao len ts → Hs L' B' w d ao' len' ts →
    Calls Try.prog 39 #[.slice ao len cap, .slice ao' len' cap'] w fun e w' => e = .returned (.bool true) ∧ Below w.heap.size w w'

set_option maxHeartbeats 400000 in
theorem eqTyS_succ (d : Nat) (IH : SaidEq d) : SaidEqS (d + 1) := by
  intro L B L' B' ao len cap ao' len' cap' ts w hB hB' hs hs'
  have hl := hs.2.1
  have HL : Hid (len = ts.length) := hs.1
  obtain rfl : len' = len := by rw [hs.1, hs'.1]
  go_enter Try.func39, Try.ntmps39
  go_wp2_with fail
  go_loopw [5] (fun i wr => ∃ k : Nat, k ≤ len' ∧ i = .int .i64 k ∧ Below w.heap.size w wr) (fun i _ => len' - (intOf i).toNat)
  case atStart => exact ⟨0, by omega, rfl, Below.refl _ _⟩
  case round =>
    obtain ⟨k, hk, rfl, hbel⟩ := hrel
    have hsz := hbel.size
    by_cases hlt : k < len'
    · have hlt' : k < ts.length := by have := HL.out; omega
      obtain ⟨b, o, rfl, _, hbB, ao1, len1, cap1, c0, c1, c2, hs1⟩ := hs.2.2 k hlt'
      obtain ⟨b', o', rfl, _, hbB', ao2, len2, cap2, c0', c1', c2', hs2⟩ := hs'.2.2 k hlt'
      have e0 := (bcell hbel (by omega) _).trans c0
      have e1 := (bcell hbel (by omega) _).trans c1
      have e2 := (bcell hbel (by omega) _).trans c2
      have e0' := (bcell hbel (by omega) _).trans c0'
      have e1' := (bcell hbel (by omega) _).trans c1'
      have e2' := (bcell hbel (by omega) _).trans c2'
      have hs1 := hs1.below hbel hB
      have hs2 := hs2.below hbel hB'
      go_wp2_with fail
      go_region_with (go_at_call 38; refine (IH L B L' B' _ _ _ _ _ _ _ _ (ts[k]'hlt').A _ ?_ ?_ ?_ ?_).mono ?_; (show B ≤ wr.heap.size; omega); (show B' ≤ wr.heap.size; omega); exact hs1.drew; exact hs2.drew; rintro e w1 ⟨rfl, hb1⟩)
      all_goals
        have hbel1 : Below w.heap.size w w1 := hbel.drew.trans (hb1.mono hsz)
        go_wp2_with fail
        go_roundw
        case rel => exact ⟨k + 1, by omega, by go_num, hbel1⟩
        case measure => simp [intOf]; omega
    · go_wp2_with fail
      go_ret
      exact ⟨rfl, hbel⟩

set_option maxHeartbeats 400000 in
theorem eqTyS_zero : SaidEqS 0 := by
  intro L B L' B' ao len cap ao' len' cap' ts w hB hB' hs hs'
  obtain ⟨rfl, rfl⟩ := hs
  obtain ⟨rfl, _⟩ := hs'
  go_enter Try.func39, Try.ntmps39
  go_wp2_with fail
  refine wp_loop_rounds 1 ?_; rw [rounds_succ]
  go_wp2_with fail
  go_ret
  exact ⟨rfl, Below.refl _ _⟩

set_option maxHeartbeats 400000 in
theorem eqTy_of (d : Nat) (h : SaidEqS d) : SaidEq d := by
  intro L B L' B' k n ao len cap ao' len' cap' ts w hB hB' hs hs'
  have hb : Below w.heap.size w ((w.alloc (.cells #[.int .i64 k, .int .i64 n, .slice ao len cap] 33)).alloc (.cells #[.int .i64 k, .int .i64 n, .slice ao' len' cap'] 33)) := ((Below.refl _ _).alloc (Nat.le_refl _) _).alloc (by simp) _
  have hs1 := hs.below hb hB
  have hs1' := hs'.below hb hB'
  go_enter Try.func38, Try.ntmps38
  go_wp2_with fail
  refine (h _ _ _ _ _ _ _ _ _ _ _ _ (by simp; omega) (by simp; omega) hs1 hs1').mono ?_
  rintro e w1 ⟨rfl, hb1⟩
  go_wp2_with fail
  go_ret
  exact ⟨rfl, hb.trans (hb1.mono (by simp; omega))⟩

theorem eqTyS_any : ∀ d, SaidEqS d := by
  intro d
  induction d with
  | zero => exact eqTyS_zero
  | succ d ih => exact eqTyS_succ d (eqTy_of d ih)
theorem eqTy_any (d : Nat) : SaidEq d := eqTy_of d (eqTyS_any d)

end Go.Proofs.Ytgckmnchlkgakaa

/-
  What 'eqTerm', 'eqTermS' come to where both hold one tree: true.
-/
namespace Go.Proofs.Ytgckmnchlkgakaa
open Go.RowKit
set_option linter.unusedVariables false
set_option linter.unusedSimpArgs false

def SaidEqM (D d : Nat) : Prop := ∀ (L B L' B' : Nat) (t : Tm) (a1 : Option Addr) (l1 c1 : Nat) (a2 : Option Addr) (l2 c2 : Nat) (a3 : Option Addr) (l3 c3 : Nat) (a1' : Option Addr) (l1' c1' : Nat) (a2' : Option Addr) (l2' c2' : Nat) (a3' : Option Addr) (l3' c3' : Nat) (w : World), B ≤ w.heap.size → B' ≤ w.heap.size → Fm L B w D d t a1 l1 a2 l2 a3 l3 → Fm L' B' w D d t a1' l1' a2' l2' a3' l3' →
    Calls Try.prog 13 #[.agg #[.int .i64 t.K, .int .i64 t.N, .string t.S, .string t.Z, .int .i64 t.T.K, .int .i64 t.T.N, .slice a1 l1 c1, .slice a2 l2 c2, .slice a3 l3 c3], .agg #[.int .i64 t.K, .int .i64 t.N, .string t.S, .string t.Z, .int .i64 t.T.K, .int .i64 t.T.N, .slice a1' l1' c1', .slice a2' l2' c2', .slice a3' l3' c3']] w fun e w' => e = .returned (.bool true) ∧ Below w.heap.size w w'
def SaidEqMS (D d : Nat) : Prop := ∀ (L B L' B' : Nat) (ao : Option Addr) (len cap : Nat) (ao' : Option Addr) (len' cap' : Nat) (ts : List Tm) (w : World), B ≤ w.heap.size → B' ≤ w.heap.size → Hm L B w D d ao len ts → Hm L' B' w D d ao' len' ts →
    Calls Try.prog 40 #[.slice ao len cap, .slice ao' len' cap'] w fun e w' => e = .returned (.bool true) ∧ Below w.heap.size w w'

set_option maxHeartbeats 400000 in
theorem eqTermS_succ (D d : Nat) (IH : SaidEqM D d) : SaidEqMS D (d + 1) := by
  intro L B L' B' ao len cap ao' len' cap' ts w hB hB' hs hs'
  have hl := hs.2.1
  have HL : Hid (len = ts.length) := hs.1
  obtain rfl : len' = len := by rw [hs.1, hs'.1]
  go_enter Try.func40, Try.ntmps40
  go_wp2_with fail
  go_loopw [5] (fun i wr => ∃ k : Nat, k ≤ len' ∧ i = .int .i64 k ∧ Below w.heap.size w wr) (fun i _ => len' - (intOf i).toNat)
  case atStart => exact ⟨0, by omega, rfl, Below.refl _ _⟩
  case round =>
    obtain ⟨k, hk, rfl, hbel⟩ := hrel
    have hsz := hbel.size
    by_cases hlt : k < len'
    · have hlt' : k < ts.length := by have := HL.out; omega
      obtain ⟨b, o, rfl, _, hbB, a1, l1, c1, a2, l2, c2, a3, l3, c3, h9, hf⟩ := hs.2.2 k hlt'
      obtain ⟨b', o', rfl, _, hbB', a1', l1', c1', a2', l2', c2', a3', l3', c3', h9', hf'⟩ := hs'.2.2 k hlt'
      obtain ⟨e0, e1, e2, e3, e4, e5, e6, e7, e8⟩ := h9.below hbel (by omega)
      obtain ⟨e0', e1', e2', e3', e4', e5', e6', e7', e8'⟩ := h9'.below hbel (by omega)
      have hs1 := Fm.below hbel hB hf
      have hs2 := Fm.below hbel hB' hf'
      go_wp2_with fail
      go_region_with (go_at_call 13; refine (IH L B L' B' (ts[k]'hlt') _ _ _ _ _ _ _ _ _ _ _ _ _ _ _ _ _ _ _ ?_ ?_ ?_ ?_).mono ?_; (show B ≤ wr.heap.size; omega); (show B' ≤ wr.heap.size; omega); exact Fm.drew hs1; exact Fm.drew hs2; rintro e w1 ⟨rfl, hb1⟩)
      all_goals
        have hbel1 : Below w.heap.size w w1 := hbel.drew.trans (hb1.mono hsz)
        go_wp2_with fail
        go_roundw
        case rel => exact ⟨k + 1, by omega, by go_num, hbel1⟩
        case measure => simp [intOf]; omega
    · go_wp2_with fail
      go_ret
      exact ⟨rfl, hbel⟩

set_option maxHeartbeats 400000 in
theorem eqTermS_zero (D : Nat) : SaidEqMS D 0 := by
  intro L B L' B' ao len cap ao' len' cap' ts w hB hB' hs hs'
  obtain ⟨rfl, rfl⟩ := hs
  obtain ⟨rfl, _⟩ := hs'
  go_enter Try.func40, Try.ntmps40
  go_wp2_with fail
  refine wp_loop_rounds 1 ?_; rw [rounds_succ]
  go_wp2_with fail
  go_ret
  exact ⟨rfl, Below.refl _ _⟩

set_option maxHeartbeats 800000 in
theorem eqTerm_of (D d : Nat) (h : SaidEqMS D d) : SaidEqM D d := by
  intro L B L' B' t a1 l1 c1 a2 l2 c2 a3 l3 c3 a1' l1' c1' a2' l2' c2' a3' l3' c3' w hB hB' hf hf'
  have hb0 : Below w.heap.size w ((w.alloc (.cells #[.int .i64 t.K, .int .i64 t.N, .string t.S, .string t.Z, .int .i64 t.T.K, .int .i64 t.T.N, .slice a1 l1 c1, .slice a2 l2 c2, .slice a3 l3 c3] 36)).alloc (.cells #[.int .i64 t.K, .int .i64 t.N, .string t.S, .string t.Z, .int .i64 t.T.K, .int .i64 t.T.N, .slice a1' l1' c1', .slice a2' l2' c2', .slice a3' l3' c3'] 36)) := ((Below.refl _ _).alloc (Nat.le_refl _) _).alloc (by simp) _
  have hs := hf.s
  have hz := hf.z
  obtain ⟨X, hX⟩ : ∃ X, X = ((w.alloc (.cells #[.int .i64 t.K, .int .i64 t.N, .string t.S, .string t.Z, .int .i64 t.T.K, .int .i64 t.T.N, .slice a1 l1 c1, .slice a2 l2 c2, .slice a3 l3 c3] 36)).alloc (.cells #[.int .i64 t.K, .int .i64 t.N, .string t.S, .string t.Z, .int .i64 t.T.K, .int .i64 t.T.N, .slice a1' l1' c1', .slice a2' l2' c2', .slice a3' l3' c3'] 36)) := ⟨_, rfl⟩
  have hXs : X.heap.size = w.heap.size + 2 := by rw [hX]; simp
  have hX1 : X.heap[w.heap.size]? = some (.cells #[.int .i64 t.K, .int .i64 t.N, .string t.S, .string t.Z, .int .i64 t.T.K, .int .i64 t.T.N, .slice a1 l1 c1, .slice a2 l2 c2, .slice a3 l3 c3] 36 (0, 0)) := by rw [hX, Below.heap_alloc _ _ _ (by simp)]; exact heap_new rfl
  have hX2 : X.heap[w.heap.size + 1]? = some (.cells #[.int .i64 t.K, .int .i64 t.N, .string t.S, .string t.Z, .int .i64 t.T.K, .int .i64 t.T.N, .slice a1' l1' c1', .slice a2' l2' c2', .slice a3' l3' c3'] 36 (0, 0)) := by rw [hX]; exact heap_new (by simp)
  rw [← hX] at hb0
  have hf1 := Fm.below hb0 hB hf
  have hf1' := Fm.below hb0 hB' hf'
  have HX : Hid (X = _) := hX
  clear hX
  go_enter Try.func13, Try.ntmps13
  go_wp2_with fail
  rw [← HX.out]
  refine (eqTy_any D L B L' B' _ _ _ _ _ _ _ _ t.T.A _ (by omega) (by omega) hf1.t1 hf1'.t1).mono ?_
  rintro e w1 ⟨rfl, hb1⟩
  have hz1 := hb1.size
  have hbw1 : Below w.heap.size w w1 := hb0.trans (hb1.mono (by omega))
  have y1 := (hb1.block _ (by omega)).trans hX1
  have y1' := (hb1.block _ (by omega)).trans hX2
  obtain ⟨f0, f1, f2, f3, f4, f5, f6, f7, f8⟩ := Nine.box y1
  obtain ⟨f0', f1', f2', f3', f4', f5', f6', f7', f8'⟩ := Nine.box y1'
  go_wp2_with fail
  have hf2 := Fm.below hbw1 hB hf
  have hf2' := Fm.below hbw1 hB' hf'
  refine (eqTyS_any D L B L' B' _ _ _ _ _ _ t.Ts _ (by omega) (by omega) hf2.t2 hf2'.t2).mono ?_
  rintro e w2 ⟨rfl, hb2⟩
  have hz2 := hb2.size
  have hbw2 : Below w.heap.size w w2 := hbw1.trans (hb2.mono (by omega))
  have y2 := (hb2.block _ (by omega)).trans y1
  have y2' := (hb2.block _ (by omega)).trans y1'
  clear f0 f1 f2 f3 f4 f5 f6 f7 f8 f0' f1' f2' f3' f4' f5' f6' f7' f8'
  obtain ⟨f0, f1, f2, f3, f4, f5, f6, f7, f8⟩ := Nine.box y2
  obtain ⟨f0', f1', f2', f3', f4', f5', f6', f7', f8'⟩ := Nine.box y2'
  go_wp2_with fail
  have hf3 := Fm.below hbw2 hB hf
  have hf3' := Fm.below hbw2 hB' hf'
  refine (h L B L' B' _ _ _ _ _ _ t.A _ (by omega) (by omega) hf3.m hf3'.m).mono ?_
  rintro e w3 ⟨rfl, hb3⟩
  go_wp2_with fail
  go_ret
  exact ⟨rfl, hbw2.trans (hb3.mono (by omega))⟩

theorem eqTermS_any (D : Nat) : ∀ d, SaidEqMS D d := by
  intro d
  induction d with
  | zero => exact eqTermS_zero D
  | succ d ih => exact eqTermS_succ D d (eqTerm_of D d ih)
theorem eqTerm_any (D d : Nat) : SaidEqM D d := eqTerm_of D d (eqTermS_any D d)

end Go.Proofs.Ytgckmnchlkgakaa
