/-
  What the program's 'sameRightTerm' and 'slices.EqualFunc' of terms by it come to.
-/
import Derived.Test.YtikfbgkjgbdoiaaRtM
namespace Go.Proofs.Ytikfbgkjgbdoiaa
open Go.RowKit
set_option linter.unusedVariables false
set_option linter.unusedSimpArgs false

def SaidRtM (d : Nat) : Prop := ∀ (D L B L' B' : Nat) (t t' : Tm) (a1 : Option Addr) (l1 c1 : Nat) (a2 : Option Addr) (l2 c2 : Nat) (a3 : Option Addr) (l3 c3 : Nat) (b1 : Option Addr) (m1 d1 : Nat) (b2 : Option Addr) (m2 d2 : Nat) (b3 : Option Addr) (m3 d3 : Nat) (b : Bool) (w : World), B ≤ w.heap.size → B' ≤ w.heap.size → Fm L B w D d t a1 l1 a2 l2 a3 l3 → Fm L' B' w D d t' b1 m1 b2 m2 b3 m3 →
    (b = true ↔ t = t') →
    Calls Try.prog 47 #[.agg #[.int .i64 t.K, .int .i64 t.N, .string t.S, .string t.Z, .int .i64 t.T.K, .int .i64 t.T.N, .slice a1 l1 c1, .slice a2 l2 c2, .slice a3 l3 c3], .agg #[.int .i64 t'.K, .int .i64 t'.N, .string t'.S, .string t'.Z, .int .i64 t'.T.K, .int .i64 t'.T.N, .slice b1 m1 d1, .slice b2 m2 d2, .slice b3 m3 d3]] w fun e w' => e = .returned (.bool b) ∧ Below w.heap.size w w'
def SaidEfM (d : Nat) : Prop := ∀ (D L B L' B' : Nat) (ao : Option Addr) (len cap : Nat) (ts : List Tm) (ao' : Option Addr) (len' cap' : Nat) (ts' : List Tm) (b : Bool) (w : World), B ≤ w.heap.size → B' ≤ w.heap.size → Hm L B w D d ao len ts → Hm L' B' w D d ao' len' ts' → (b = true ↔ ts = ts') →
    Calls Try.prog 84 #[.slice ao len cap, .slice ao' len' cap', .func (.func 47) #[] #[]] w fun e w' => e = .returned (.bool b) ∧ Below w.heap.size w w'

set_option maxHeartbeats 2000000 in
theorem efM_step (d : Nat) (IH : 0 < d → SaidRtM (d - 1)) : SaidEfM d := by
  intro D L B L' B' ao len cap ts ao' len' cap' ts' b w hB hB' hs hs' hb
  have hl := hs.len.2
  have hl' := hs'.len.2
  have HL : Hid (len = ts.length) := hs.len.1
  have HL' : Hid (len' = ts'.length) := hs'.len.1
  have HB : Hid (b = true ↔ ts = ts') := hb
  clear hb
  by_cases h3 : len = len'
  case' neg =>
    have h3b : ((len : Int) != (len' : Int)) = true := by rw [bne_iff_ne]; omega
    have HF : Hid (b = false) := by show _ = _; rw [Bool.eq_false_iff]; intro h; exact h3 (by rw [HL.out, HL'.out, HB.out.1 h])
    clear h3
    go_enter Try.func84, Try.ntmps84
    go_wp2_with fail
    go_ret
    exact ⟨ret_bool HF.out.symm, Below.refl _ _⟩
  have h3b : ((len : Int) != (len' : Int)) = false := by simp [h3]
  have H3 : Hid (len = len') := h3
  clear h3
  go_enter Try.func84, Try.ntmps84
  go_wp2_with fail
  go_loopw [17] (fun i wr => ∃ j : Nat, j ≤ len ∧ i = .int .i64 j ∧ Hid (likeMB ts ts' j) ∧ Below w.heap.size w wr) (fun i _ => len - (intOf i).toNat)
  case atStart => exact ⟨0, by omega, rfl, rfl, Below.refl _ _⟩
  case round =>
    obtain ⟨j, hj, rfl, HA, hbr⟩ := hrel
    have hszr := hbr.size
    by_cases hlt : j < len
    · have hlt1 : j < ts.length := by have := HL.out; omega
      have hlt2 : j < ts'.length := by have := HL'.out; have := H3.out; omega
      have hlt' : j < len' := by have := H3.out; omega
      have hd : 0 < d := by cases d with | zero => obtain ⟨_, e⟩ := hs; rw [e] at hlt1; simp at hlt1 | succ d => omega
      obtain ⟨x, o, rfl, _, hxB, u1, u2, u3, u4, u5, u6, u7, u8, u9, h9, hg1⟩ := hs.get j hlt1
      obtain ⟨x', o', rfl, _, hxB', v1, v2, v3, v4, v5, v6, v7, v8, v9, h9', hg2⟩ := hs'.get j hlt2
      obtain ⟨e0, e1, e2, e3, e4, e5, e6, e7, e8⟩ := h9.below hbr (by omega)
      obtain ⟨e0', e1', e2', e3', e4', e5', e6', e7', e8'⟩ := h9'.below hbr (by omega)
      have hxr' : x' < wr.heap.size := by omega
      have hba : Below w.heap.size w ((wr.alloc (.cells #[.int .i64 ts[j].K, .int .i64 ts[j].N, .string ts[j].S, .string ts[j].Z, .int .i64 ts[j].T.K, .int .i64 ts[j].T.N, .slice u1 u2 u3, .slice u4 u5 u6, .slice u7 u8 u9] 35)).alloc (.cells #[.int .i64 ts'[j].K, .int .i64 ts'[j].N, .string ts'[j].S, .string ts'[j].Z, .int .i64 ts'[j].T.K, .int .i64 ts'[j].T.N, .slice v1 v2 v3, .slice v4 v5 v6, .slice v7 v8 v9] 35)) := (hbr.alloc (by omega) _).alloc (by simp; omega) _
      have hr1 := Fm.below hba hB hg1
      have hr2 := Fm.below hba hB' hg2
      clear h9 h9'
      by_cases heq : ts[j] = ts'[j]
      · have HE : Hid (ts[j] = ts'[j]) := heq
        have HN : Hid (likeMB ts ts' (j + 1)) := likeM_next HA.out hlt1 hlt2 heq
        clear heq
        go_wp2_with fail
        refine (IH hd D L B L' B' ts[j] ts'[j] _ _ _ _ _ _ _ _ _ _ _ _ _ _ _ _ _ _ true _ (by simp; omega) (by simp; omega) hr1 hr2 (Iff.intro (fun _ => HE.out) (fun _ => rfl))).mono ?_
        rintro e w2 ⟨rfl, hb2⟩
        have hbr2 : Below w.heap.size w w2 := hba.trans (hb2.mono (by simp; omega))
        go_wp2_with fail
        go_roundw
        case rel => exact ⟨j + 1, by omega, by go_num, HN, hbr2⟩
        case measure => simp [intOf]; omega
      · have HE : Hid (¬ ts[j] = ts'[j]) := heq
        have HN : Hid (b = false) := by show _ = _; rw [Bool.eq_false_iff]; intro h; exact unlikeM_at hlt1 hlt2 heq (HB.out.1 h)
        clear heq
        go_wp2_with fail
        refine (IH hd D L B L' B' ts[j] ts'[j] _ _ _ _ _ _ _ _ _ _ _ _ _ _ _ _ _ _ false _ (by simp; omega) (by simp; omega) hr1 hr2 (Iff.intro (fun h => nomatch h) (fun h => (HE.out h).elim))).mono ?_
        rintro e w2 ⟨rfl, hb2⟩
        go_wp2_with fail
        go_ret
        exact ⟨ret_bool HN.out.symm, hba.trans (hb2.mono (by simp; omega))⟩
    · have HT : Hid (b = true) := HB.out.2 (likeM_all HA.out (by have := HL.out; omega) (by have := HL'.out; have := H3.out; omega))
      go_wp2_with fail
      go_ret
      exact ⟨ret_bool HT.out.symm, hbr⟩

set_option maxHeartbeats 2000000 in
theorem rtM_of (d : Nat) (h : SaidEfM d) : SaidRtM d := by
  intro D L B L' B' t t' a1 l1 c1 a2 l2 c2 a3 l3 c3 b1 m1 d1 b2 m2 d2 b3 m3 d3 b w hB hB' hf hf' hb
  have hl2 := hf.t2.len.2
  have hm2 := hf'.t2.len.2
  have hl3 := hf.m.len.2
  have hm3 := hf'.m.len.2
  have HL2 : Hid (l2 = t.Ts.length) := hf.t2.len.1
  have HM2 : Hid (m2 = t'.Ts.length) := hf'.t2.len.1
  have HL3 : Hid (l3 = t.A.length) := hf.m.len.1
  have HM3 : Hid (m3 = t'.A.length) := hf'.m.len.1
  have HB : Hid (b = true ↔ t = t') := hb
  clear hb
  obtain ⟨X, hX⟩ : ∃ X, X = ((w.alloc (.cells #[.int .i64 t.K, .int .i64 t.N, .string t.S, .string t.Z, .int .i64 t.T.K, .int .i64 t.T.N, .slice a1 l1 c1, .slice a2 l2 c2, .slice a3 l3 c3] 35)).alloc (.cells #[.int .i64 t'.K, .int .i64 t'.N, .string t'.S, .string t'.Z, .int .i64 t'.T.K, .int .i64 t'.T.N, .slice b1 m1 d1, .slice b2 m2 d2, .slice b3 m3 d3] 35)) := ⟨_, rfl⟩
  have hbel : Below w.heap.size w X := by rw [hX]; exact ((Below.refl _ _).alloc (Nat.le_refl _) _).alloc (by simp) _
  have hXs : X.heap.size = w.heap.size + 2 := by rw [hX]; simp
  have hX0 : X.heap[w.heap.size]? = some (.cells #[.int .i64 t.K, .int .i64 t.N, .string t.S, .string t.Z, .int .i64 t.T.K, .int .i64 t.T.N, .slice a1 l1 c1, .slice a2 l2 c2, .slice a3 l3 c3] 35 (0, 0)) := by rw [hX, Below.heap_alloc _ _ _ (by simp)]; exact heap_new rfl
  have hX1 : X.heap[w.heap.size + 1]? = some (.cells #[.int .i64 t'.K, .int .i64 t'.N, .string t'.S, .string t'.Z, .int .i64 t'.T.K, .int .i64 t'.T.N, .slice b1 m1 d1, .slice b2 m2 d2, .slice b3 m3 d3] 35 (0, 0)) := by rw [hX]; exact heap_new (by simp)
  have HX : Hid (X = _) := hX
  clear hX
  go_enter Try.func47, Try.ntmps47
  go_wp2_with fail
  rw [← HX.out]
  refine (sameTermNode_any t t' _ _ _ _ _ _ _ _ _ _ _ _ _ _ _ hl2 hm2 hl3 hm3).mono ?_
  rintro e w1 ⟨rfl, hb1⟩
  have hz1 := hb1.size
  have hbw1 : Below w.heap.size w w1 := hbel.trans (hb1.mono (by omega))
  have y0 := (hb1.block _ (by omega)).trans hX0
  have y1 := (hb1.block _ (by omega)).trans hX1
  clear hX0 hX1
  cases hq : likeTm t t' l2 m2 l3 m3
  · have HF : Hid (b = false) := by
      show _ = _
      rw [Bool.eq_false_iff]; intro hh
      have e := HB.out.1 hh
      have e2 := HL2.out; have e3 := HM2.out; have e4 := HL3.out; have e5 := HM3.out
      subst e
      rw [e2, e3, e4, e5] at hq
      simp [likeTm] at hq
    clear hq
    go_wp2_with fail
    go_ret
    exact ⟨ret_bool HF.out.symm, hbw1⟩
  have HQ : Hid (t.K = t'.K ∧ t.N = t'.N ∧ t.S = t'.S ∧ t.Z = t'.Z) := by
    simp only [likeTm, Bool.and_eq_true] at hq
    exact ⟨beq_iff_eq.1 hq.1.1.1.1.1, beq_iff_eq.1 hq.1.1.1.1.2, bytes_eq hq.1.1.1.2, bytes_eq hq.1.1.2⟩
  clear hq
  obtain ⟨f0, f1, f2, f3, f4, f5, f6, f7, f8⟩ := Nine.box y0
  obtain ⟨g0, g1, g2, g3, g4, g5, g6, g7, g8⟩ := Nine.box y1
  simp only [Nat.zero_add] at f1 f2 f3 f4 f5 f6 f7 f8 g1 g2 g3 g4 g5 g6 g7 g8
  have hf1 := Fm.below hbw1 hB hf
  have hf1' := Fm.below hbw1 hB' hf'
  by_cases h5 : t.T = t'.T
  case' neg =>
    have HF : Hid (b = false) := by show _ = _; rw [Bool.eq_false_iff]; intro hh; exact h5 (congrArg Tm.T (HB.out.1 hh))
    have HE : Hid (¬ t.T = t'.T) := h5
    clear h5
    go_wp2_with fail
    refine (rt_any D L B L' B' _ _ _ _ _ t.T.A _ _ _ _ _ t'.T.A false _ (by omega) (by omega) hf1.t1 hf1'.t1 (Iff.intro (fun h => nomatch h) (fun h => (HE.out (by rw [tr_eta, tr_eta] at h; exact h)).elim))).mono ?_
    rintro e w2 ⟨rfl, hb2⟩
    go_wp2_with fail
    go_ret
    exact ⟨ret_bool HF.out.symm, hbw1.trans (hb2.mono (by omega))⟩
  have H5 : Hid (t.T = t'.T) := h5
  clear h5
  go_wp2_with fail
  refine (rt_any D L B L' B' _ _ _ _ _ t.T.A _ _ _ _ _ t'.T.A true _ (by omega) (by omega) hf1.t1 hf1'.t1 (Iff.intro (fun _ => by rw [tr_eta, tr_eta]; exact H5.out) (fun _ => rfl))).mono ?_
  rintro e w2 ⟨rfl, hb2⟩
  have hz2 := hb2.size
  have hbw2 : Below w.heap.size w w2 := hbw1.trans (hb2.mono (by omega))
  replace y0 := (hb2.block _ (by omega)).trans y0
  replace y1 := (hb2.block _ (by omega)).trans y1
  clear f0 f1 f2 f3 f4 f5 f6 f7 f8 g0 g1 g2 g3 g4 g5 g6 g7 g8 hf1 hf1'
  obtain ⟨f0, f1, f2, f3, f4, f5, f6, f7, f8⟩ := Nine.box y0
  obtain ⟨g0, g1, g2, g3, g4, g5, g6, g7, g8⟩ := Nine.box y1
  simp only [Nat.zero_add] at f7 f8 g7 g8
  clear f0 f1 f2 f3 f4 f5 f6 g0 g1 g2 g3 g4 g5 g6
  have hf2 := Fm.below hbw2 hB hf
  have hf2' := Fm.below hbw2 hB' hf'
  by_cases h6 : t.Ts = t'.Ts
  case' neg =>
    have HF : Hid (b = false) := by show _ = _; rw [Bool.eq_false_iff]; intro hh; exact h6 (congrArg Tm.Ts (HB.out.1 hh))
    have HE : Hid (¬ t.Ts = t'.Ts) := h6
    clear h6
    go_wp2_with fail
    refine (eqFuncTy_any D L B L' B' _ _ _ t.Ts _ _ _ t'.Ts false _ (by omega) (by omega) hf2.t2 hf2'.t2 (Iff.intro (fun h => nomatch h) (fun h => (HE.out h).elim))).mono ?_
    rintro e w3 ⟨rfl, hb3⟩
    go_wp2_with fail
    go_ret
    exact ⟨ret_bool HF.out.symm, hbw2.trans (hb3.mono (by omega))⟩
  have H6 : Hid (t.Ts = t'.Ts) := h6
  clear h6
  go_wp2_with fail
  refine (eqFuncTy_any D L B L' B' _ _ _ t.Ts _ _ _ t'.Ts true _ (by omega) (by omega) hf2.t2 hf2'.t2 (Iff.intro (fun _ => H6.out) (fun _ => rfl))).mono ?_
  rintro e w3 ⟨rfl, hb3⟩
  have hz3 := hb3.size
  have hbw3 : Below w.heap.size w w3 := hbw2.trans (hb3.mono (by omega))
  replace f8 := (bcell hb3 (by omega) 8).trans f8
  replace g8 := (bcell hb3 (by omega) 8).trans g8
  clear f7 g7
  have hf3 := Fm.below hbw3 hB hf
  have hf3' := Fm.below hbw3 hB' hf'
  have HA : Hid (b = true ↔ t.A = t'.A) := by
    show _ ↔ _
    rw [HB.out]
    have k1 := HQ.out; have k5 := H5.out; have k6 := H6.out
    constructor
    · intro hh; rw [hh]
    · intro hh
      cases t; cases t'; simp_all
  go_wp2_with fail
  refine (h D L B L' B' _ _ _ t.A _ _ _ t'.A b _ (by omega) (by omega) hf3.m hf3'.m HA.out).mono ?_
  rintro e w4 ⟨rfl, hb4⟩
  go_wp2_with fail
  go_ret
  exact ⟨rfl, hbw3.trans (hb4.mono (by omega))⟩

theorem rtM_any (d : Nat) : SaidRtM d := by
  induction d with
  | zero => exact rtM_of 0 (efM_step 0 (fun h => by omega))
  | succ d ih => exact rtM_of (d + 1) (efM_step (d + 1) (fun _ => by simpa using ih))

end Go.Proofs.Ytikfbgkjgbdoiaa
