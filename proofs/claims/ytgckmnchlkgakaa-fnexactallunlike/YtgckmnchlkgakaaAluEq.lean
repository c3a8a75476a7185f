/-
  What 'eqTy', 'eqTyS' come to where both hold one tree: true.
-/
import Derived.Test.YtgckmnchlkgakaaAluTr
import Derived.Deep.RegionWith
namespace Go.Proofs.Ytgckmnchlkgakaa
open Go.RowKit
set_option linter.unusedVariables false
set_option linter.unusedSimpArgs false

def SaidEq (d : Nat) : Prop := ∀ (L B L' B' : Nat) (k n : Int) (ao : Option Addr) (len cap : Nat) (ao' : Option Addr) (len' cap' : Nat) (ts : List Tr) (w : World), B ≤ w.heap.size → B' ≤ w.heap.size → Hs L B w d ao len ts → Hs L' B' w d ao' len' ts →
    Calls Try.prog 38 #[.agg #[.int .i64 k, .int .i64 n, .slice ao len cap], .agg #[.int .i64 k, .int .i64 n, .slice ao' len' cap']] w fun e w' => e = .returned (.bool true) ∧ Below w.heap.size w w'
def SaidEqS (d : Nat) : Prop := ∀ (L B L' B' : Nat) (ao : Option Addr) (len cap : Nat) (ao' : Option Addr) (len' cap' : Nat) (ts : List Tr) (w : World), B ≤ w.heap.size → B' ≤ w.heap.size → Hs L B w d ao len ts → Hs L' B' w d ao' len' ts →
    Calls Try.prog 39 #[.slice ao len cap, .slice ao' len' cap'] w fun e w' => e = .returned (.bool true) ∧ Below w.heap.size w w'

set_option maxHeartbeats 400000 in
theorem eqTyS_succ (d : Nat) (IH : SaidEq d) : SaidEqS (d + 1) := by
  intro L B L' B' ao len cap ao' len' cap' ts w hB hB' hs hs'
  have hl := hs.2.1
  have HL : Hid (len = ts.length) := hs.1
  obtain rfl : len' = len := by rw [hs.1, hs'.1]
  go_enter Try.func39, Try.ntmps39
  go_wp2_with fail
  go_loopw [5] (fun i wr => ∃ k : Nat, k ≤ len' ∧ i = .int .i64 k ∧ Below w.heap.size w wr) (fun i _ => len' - (intOf i).toNat)
  case atStart => exact ⟨0, by omega, rfl, Below.refl _ _⟩
  case round =>
    obtain ⟨k, hk, rfl, hbel⟩ := hrel
    have hsz := hbel.size
    by_cases hlt : k < len'
    · have hlt' : k < ts.length := by have := HL.out; omega
      obtain ⟨b, o, rfl, _, hbB, ao1, len1, cap1, c0, c1, c2, hs1⟩ := hs.2.2 k hlt'
      obtain ⟨b', o', rfl, _, hbB', ao2, len2, cap2, c0', c1', c2', hs2⟩ := hs'.2.2 k hlt'
      have e0 := (bcell hbel (by omega) _).trans c0
      have e1 := (bcell hbel (by omega) _).trans c1
      have e2 := (bcell hbel (by omega) _).trans c2
      have e0' := (bcell hbel (by omega) _).trans c0'
      have e1' := (bcell hbel (by omega) _).trans c1'
      have e2' := (bcell hbel (by omega) _).trans c2'
      have hs1 := hs1.below hbel hB
      have hs2 := hs2.below hbel hB'
      go_wp2_with fail
      go_region_with (go_at_call 38; refine (IH L B L' B' _ _ _ _ _ _ _ _ (ts[k]'hlt').A _ ?_ ?_ ?_ ?_).mono ?_; (show B ≤ wr.heap.size; omega); (show B' ≤ wr.heap.size; omega); exact hs1.drew; exact hs2.drew; rintro e w1 ⟨rfl, hb1⟩)
      all_goals
        have hbel1 : Below w.heap.size w w1 := hbel.drew.trans (hb1.mono hsz)
        go_wp2_with fail
        go_roundw
        case rel => exact ⟨k + 1, by omega, by go_num, hbel1⟩
        case measure => simp [intOf]; omega
    · go_wp2_with fail
      go_ret
      exact ⟨rfl, hbel⟩

set_option maxHeartbeats 400000 in
theorem eqTyS_zero : SaidEqS 0 := by
  intro L B L' B' ao len cap ao' len' cap' ts w hB hB' hs hs'
  obtain ⟨rfl, rfl⟩ := hs
  obtain ⟨rfl, _⟩ := hs'
  go_enter Try.func39, Try.ntmps39
  go_wp2_with fail
  refine wp_loop_rounds 1 ?_; rw [rounds_succ]
  go_wp2_with fail
  go_ret
  exact ⟨rfl, Below.refl _ _⟩

set_option maxHeartbeats 400000 in
theorem eqTy_of (d : Nat) (h : SaidEqS d) : SaidEq d := by
  intro L B L' B' k n ao len cap ao' len' cap' ts w hB hB' hs hs'
  have hb : Below w.heap.size w ((w.alloc (.cells #[.int .i64 k, .int .i64 n, .slice ao len cap] 33)).alloc (.cells #[.int .i64 k, .int .i64 n, .slice ao' len' cap'] 33)) := ((Below.refl _ _).alloc (Nat.le_refl _) _).alloc (by simp) _
  have hs1 := hs.below hb hB
  have hs1' := hs'.below hb hB'
  go_enter Try.func38, Try.ntmps38
  go_wp2_with fail
  refine (h _ _ _ _ _ _ _ _ _ _ _ _ (by simp; omega) (by simp; omega) hs1 hs1').mono ?_
  rintro e w1 ⟨rfl, hb1⟩
  go_wp2_with fail
  go_ret
  exact ⟨rfl, hb.trans (hb1.mono (by simp; omega))⟩

theorem eqTyS_any : ∀ d, SaidEqS d := by
  intro d
  induction d with
  | zero => exact eqTyS_zero
  | succ d ih => exact eqTyS_succ d (eqTy_of d ih)
theorem eqTy_any (d : Nat) : SaidEq d := eqTy_of d (eqTyS_any d)

end Go.Proofs.Ytgckmnchlkgakaa
