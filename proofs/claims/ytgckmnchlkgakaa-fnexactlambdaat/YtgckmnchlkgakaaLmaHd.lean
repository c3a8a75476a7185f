/-
  'markTy' of a whole type; 'heldTyS', 'heldTy' over what bears the numbers: they answer the count.
-/
import Derived.Test.YtgckmnchlkgakaaLmaMk
namespace Go.Proofs.Ytgckmnchlkgakaa
open Go.RowKit
set_option linter.unusedVariables false
set_option linter.unusedSimpArgs false

set_option maxHeartbeats 400000 in
theorem mk_any (d : Nat) (K N : Int) (ao : Option Addr) (len cap : Nat) (ts : List Tr) (bs : List Nat) (k : Int) (w : World) (ho : Ow w d ao len ts bs) (hnd : bs.Nodup) (hin : ∀ b ∈ bs, b < w.heap.size) (hk0 : 0 ≤ k) (hk1 : k + 2 * cntS ts ≤ 4611686018427387904) :
    Calls Try.prog 41 #[.agg #[.int .i64 K, .int .i64 N, .slice ao len cap], .int .i64 k] w fun e w' => e = .returned (.int .i64 (k + 2 * cntS ts)) ∧ Chg bs w w' ∧ Ow w' d ao len (markD d k ts) bs := by
  obtain ⟨X, hX⟩ : ∃ X, X = w.alloc (.cells #[.int .i64 K, .int .i64 N, .slice ao len cap] 33) := ⟨_, rfl⟩
  have hXs : X.heap.size = w.heap.size + 1 := by rw [hX]; simp
  have hXb : Below w.heap.size w X := by rw [hX]; exact (Below.refl _ _).alloc (Nat.le_refl _) _
  have hXo : Ow X d ao len ts bs := ho.keep fun b hb => hXb.block b (hin b hb)
  have HIn : Hid (∀ b ∈ bs, b < X.heap.size) := fun b hb => by have := hin b hb; omega
  have HX : Hid (X = _) := hX
  have HND : Hid bs.Nodup := hnd
  clear hX hin hnd
  go_enter Try.func41, Try.ntmps41
  go_wp2_with fail
  rw [← HX.out]
  refine (mkS_any d _ _ _ _ _ _ _ hXo HND.out HIn.out hk0 hk1).mono ?_
  rintro e w1 ⟨rfl, hc1, ho1⟩
  go_wp2_with fail
  go_ret
  exact ⟨rfl, (Below.chg hXb).trans hc1, ho1⟩

def SaidHdS (d : Nat) : Prop := ∀ (L B : Nat) (ao : Option Addr) (len cap : Nat) (ts : List Tr) (k : Int) (w : World), B ≤ w.heap.size → Hs L B w d ao len (markD d k ts) → Dp d ts → 0 ≤ k → k + 2 * cntS ts ≤ 4611686018427387904 →
    Calls Try.prog 54 #[.slice ao len cap, .int .i64 k] w fun e w' => e = .returned (.int .i64 (k + 2 * cntS ts)) ∧ Below w.heap.size w w'

set_option maxHeartbeats 400000 in
theorem hdS_zero : SaidHdS 0 := by
  intro L B ao len cap ts k w hB hs hd hk0 hk1
  obtain ⟨rfl, _⟩ := hs
  have hd : ts = [] := hd
  subst hd
  go_enter Try.func54, Try.ntmps54
  go_wp2_with fail
  refine wp_loop_rounds 1 ?_; rw [rounds_succ]
  go_wp2_with fail
  go_ret
  exact ⟨ret_int (by simp [cntS]), Below.refl _ _⟩

set_option maxHeartbeats 800000 in
theorem hdS_succ (d : Nat) (IH : SaidHdS d) : SaidHdS (d + 1) := by
  intro L B ao len cap ts k w hB hs hd hk0 hk1
  have HL : Hid (len = ts.length) := by have := hs.1; rw [markD_len] at this; exact this
  have hl := hs.2.1
  have HD : Hid (Dp (d + 1) ts) := hd
  clear hd
  go_enter Try.func54, Try.ntmps54
  go_wp2_with fail
  go_loopw [1, 5] (fun kv i wr => ∃ j : Nat, j ≤ len ∧ i = .int .i64 j ∧ kv = .int .i64 (kAt k ts j) ∧ Below w.heap.size w wr) (fun _ i _ => len - (intOf i).toNat)
  case atStart => exact ⟨0, by omega, rfl, by rw [kAt_zero], Below.refl _ _⟩
  case round =>
    obtain ⟨j, hj, rfl, rfl, hbel⟩ := hrel
    have hszr := hbel.size
    by_cases hlt : j < len
    · have hlt' : j < ts.length := by have := HL.out; omega
      have hle := kAt_le k ts j hlt'
      obtain ⟨b, o, rfl, _, hbB, hel⟩ := hs.2.2 j (by rw [markD_len]; exact hlt')
      rw [markD_get] at hel
      obtain ⟨ao1, len1, cap1, c0, c1, c2, hs1⟩ := hel
      dsimp only at c0 c1 hs1
      rw [partsAt_eq hlt'] at hs1
      have e0 := (bcell hbel (by omega) _).trans c0
      have e1 := (bcell hbel (by omega) _).trans c1
      have e2 := (bcell hbel (by omega) _).trans c2
      have hs2 := hs1.below hbel hB
      have HDj : Hid (Dp d ts[j].A) := HD.out j hlt'
      have HS : Hid (kAt k ts (j + 1) = kAt k ts j + 2 + 2 * cntS ts[j].A) := kAt_succ k ts j hlt'
      have HLE : Hid (kAt k ts j + 2 + 2 * cntS ts[j].A ≤ k + 2 * cntS ts) := hle.2
      have hka := hle.1
      have hkb : kAt k ts j + 2 ≤ 4611686018427387904 := by have := hle.2; omega
      clear hle c0 c1 c2
      generalize hkj : kAt k ts j = kj at *
      clear hkj
      go_wp2_with fail
      rw [show kj + 1 + 1 = kj + 2 from by omega]
      refine (IH _ _ _ _ _ _ _ _ (by omega) hs2 HDj.out (by omega) (by have := HLE.out; omega)).mono ?_
      rintro e w1 ⟨rfl, hb1⟩
      have hbel1 : Below w.heap.size w w1 := hbel.trans (hb1.mono hszr)
      have hnn : 0 ≤ kj + 2 + 2 * cntS ts[j].A := by omega
      go_wp2_with fail
      go_roundw
      case rel => exact ⟨j + 1, by omega, by go_num, by rw [HS.out], hbel1⟩
      case measure => simp [intOf]; omega
    · have HK : Hid (kAt k ts j = k + 2 * cntS ts) := kAt_all k ts j (by have := HL.out; omega)
      go_wp2_with fail
      go_ret
      exact ⟨ret_int HK.out, hbel⟩

theorem hdS_any (d : Nat) : SaidHdS d := by
  induction d with
  | zero => exact hdS_zero
  | succ d ih => exact hdS_succ d ih

set_option maxHeartbeats 400000 in
theorem hd_any (d L B : Nat) (K N : Int) (ao : Option Addr) (len cap : Nat) (ts : List Tr) (k : Int) (w : World) (hB : B ≤ w.heap.size) (hs : Hs L B w d ao len (markD d k ts)) (hd : Dp d ts) (hk0 : 0 ≤ k) (hk1 : k + 2 * cntS ts ≤ 4611686018427387904) :
    Calls Try.prog 53 #[.agg #[.int .i64 K, .int .i64 N, .slice ao len cap], .int .i64 k] w fun e w' => e = .returned (.int .i64 (k + 2 * cntS ts)) ∧ Below w.heap.size w w' := by
  have hbel : Below w.heap.size w (w.alloc (.cells #[.int .i64 K, .int .i64 N, .slice ao len cap] 33)) := (Below.refl _ _).alloc (Nat.le_refl _) _
  have hs1 := hs.below hbel hB
  have hnn : 0 ≤ k + 2 * cntS ts := by omega
  go_enter Try.func53, Try.ntmps53
  go_wp2_with fail
  refine (hdS_any d _ _ _ _ _ _ _ _ (by simp; omega) hs1 hd hk0 hk1).mono ?_
  rintro e w1 ⟨rfl, hb1⟩
  go_wp2_with fail
  go_ret
  exact ⟨rfl, hbel.trans (hb1.mono (by simp))⟩

end Go.Proofs.Ytgckmnchlkgakaa
