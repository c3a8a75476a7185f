/-
  What the program's 'sameTermNode' comes to, and 'slices.EqualFunc' of types by 'sameRightTy'.
-/
import Derived.Test.YtikfbgkjgbdoiaaSnM
import Derived.Test.YtikfbgkjgbdoiaaRt
namespace Go.Proofs.Ytikfbgkjgbdoiaa
open Go.RowKit
set_option linter.unusedVariables false
set_option linter.unusedSimpArgs false

def likeTm (t t' : Tm) (l2 m2 l3 m3 : Nat) : Bool := (t.K == t'.K) && (t.N == t'.N) && (t.S.toList == t'.S.toList) && (t.Z.toList == t'.Z.toList) && ((l2 : Int) == (m2 : Int)) && ((l3 : Int) == (m3 : Int))

set_option maxHeartbeats 2000000 in
theorem sameTermNode_any (t t' : Tm) (v6 : Value) (a2 : Option Addr) (l2 c2 : Nat) (a3 : Option Addr) (l3 c3 : Nat) (u6 : Value) (b2 : Option Addr) (m2 d2 : Nat) (b3 : Option Addr) (m3 d3 : Nat) (w : World) (hl2 : l2 ≤ 9223372036854775807) (hm2 : m2 ≤ 9223372036854775807) (hl3 : l3 ≤ 9223372036854775807) (hm3 : m3 ≤ 9223372036854775807) :
    Calls Try.prog 82 #[.agg #[.int .i64 t.K, .int .i64 t.N, .string t.S, .string t.Z, .int .i64 t.T.K, .int .i64 t.T.N, v6, .slice a2 l2 c2, .slice a3 l3 c3], .agg #[.int .i64 t'.K, .int .i64 t'.N, .string t'.S, .string t'.Z, .int .i64 t'.T.K, .int .i64 t'.T.N, u6, .slice b2 m2 d2, .slice b3 m3 d3]] w fun e w' => e = .returned (.bool (likeTm t t' l2 m2 l3 m3)) ∧ Below w.heap.size w w' := by
  have hbel : Below w.heap.size w ((w.alloc (.cells #[.int .i64 t.K, .int .i64 t.N, .string t.S, .string t.Z, .int .i64 t.T.K, .int .i64 t.T.N, v6, .slice a2 l2 c2, .slice a3 l3 c3] 35)).alloc (.cells #[.int .i64 t'.K, .int .i64 t'.N, .string t'.S, .string t'.Z, .int .i64 t'.T.K, .int .i64 t'.T.N, u6, .slice b2 m2 d2, .slice b3 m3 d3] 35)) := ((Below.refl _ _).alloc (Nat.le_refl _) _).alloc (by simp) _
  unfold likeTm
  cases h1 : (t.K == t'.K)
  · go_enter Try.func82, Try.ntmps82
    go_wp2_with fail
    go_ret
    exact ⟨rfl, hbel⟩
  cases h2 : (t.N == t'.N)
  · go_enter Try.func82, Try.ntmps82
    go_wp2_with fail
    go_ret
    exact ⟨rfl, hbel⟩
  cases h3 : (t.S.toList == t'.S.toList)
  · go_enter Try.func82, Try.ntmps82
    go_wp2_with fail
    go_ret
    exact ⟨rfl, hbel⟩
  cases h4 : (t.Z.toList == t'.Z.toList)
  · go_enter Try.func82, Try.ntmps82
    go_wp2_with fail
    go_ret
    exact ⟨rfl, hbel⟩
  cases h5 : ((l2 : Int) == (m2 : Int))
  · go_enter Try.func82, Try.ntmps82
    go_wp2_with fail
    go_ret
    exact ⟨rfl, hbel⟩
  cases h6 : ((l3 : Int) == (m3 : Int))
  all_goals
    go_enter Try.func82, Try.ntmps82
    go_wp2_with fail
    go_ret
    exact ⟨rfl, hbel⟩

set_option maxHeartbeats 2000000 in
theorem eqFuncTy_any (d L B L' B' : Nat) (ao : Option Addr) (len cap : Nat) (ts : List Tr) (ao' : Option Addr) (len' cap' : Nat) (ts' : List Tr) (b : Bool) (w : World) (hB : B ≤ w.heap.size) (hB' : B' ≤ w.heap.size) (hs : Hs L B w d ao len ts) (hs' : Hs L' B' w d ao' len' ts') (hb : b = true ↔ ts = ts') :
    Calls Try.prog 83 #[.slice ao len cap, .slice ao' len' cap', .func (.func 75) #[] #[]] w fun e w' => e = .returned (.bool b) ∧ Below w.heap.size w w' := by
  have hl := hs.len.2
  have hl' := hs'.len.2
  have HL : Hid (len = ts.length) := hs.len.1
  have HL' : Hid (len' = ts'.length) := hs'.len.1
  have HB : Hid (b = true ↔ ts = ts') := hb
  clear hb
  by_cases h3 : len = len'
  case' neg =>
    have h3b : ((len : Int) != (len' : Int)) = true := by rw [bne_iff_ne]; omega
    have HF : Hid (b = false) := by show _ = _; rw [Bool.eq_false_iff]; intro h; exact h3 (by rw [HL.out, HL'.out, HB.out.1 h])
    clear h3
    go_enter Try.func83, Try.ntmps83
    go_wp2_with fail
    go_ret
    exact ⟨ret_bool HF.out.symm, Below.refl _ _⟩
  have h3b : ((len : Int) != (len' : Int)) = false := by simp [h3]
  have H3 : Hid (len = len') := h3
  clear h3
  go_enter Try.func83, Try.ntmps83
  go_wp2_with fail
  go_loopw [17] (fun i wr => ∃ j : Nat, j ≤ len ∧ i = .int .i64 j ∧ Hid (likeB ts ts' j) ∧ Below w.heap.size w wr) (fun i _ => len - (intOf i).toNat)
  case atStart => exact ⟨0, by omega, rfl, rfl, Below.refl _ _⟩
  case round =>
    obtain ⟨j, hj, rfl, HA, hbr⟩ := hrel
    have hszr := hbr.size
    by_cases hlt : j < len
    · have hlt1 : j < ts.length := by have := HL.out; omega
      have hlt2 : j < ts'.length := by have := HL'.out; have := H3.out; omega
      have hlt' : j < len' := by have := H3.out; omega
      obtain ⟨x, o, rfl, _, hxB, ao1, len1, cap1, c0, c1, c2, hs1⟩ := hs.get j hlt1
      obtain ⟨x', o', rfl, _, hxB', ao2, len2, cap2, c0', c1', c2', hs2⟩ := hs'.get j hlt2
      have e0 := (bcell hbr (by omega) _).trans c0
      have e1 := (bcell hbr (by omega) _).trans c1
      have e2 := (bcell hbr (by omega) _).trans c2
      have e0' := (bcell hbr (by omega) _).trans c0'
      have e1' := (bcell hbr (by omega) _).trans c1'
      have e2' := (bcell hbr (by omega) _).trans c2'
      have hxr' : x' < wr.heap.size := by omega
      have hba : Below w.heap.size w ((wr.alloc (.cells #[.int .i64 ts[j].K, .int .i64 ts[j].N, .slice ao1 len1 cap1] 32)).alloc (.cells #[.int .i64 ts'[j].K, .int .i64 ts'[j].N, .slice ao2 len2 cap2] 32)) := (hbr.alloc (by omega) _).alloc (by simp; omega) _
      have hr1 := hs1.below hba hB
      have hr2 := hs2.below hba hB'
      clear c0 c1 c2 c0' c1' c2'
      by_cases heq : ts[j] = ts'[j]
      · have HE : Hid (ts[j] = ts'[j]) := heq
        have HN : Hid (likeB ts ts' (j + 1)) := like_next HA.out hlt1 hlt2 heq
        clear heq
        go_wp2_with fail
        refine (rt_any (d - 1) L B L' B' _ _ _ _ _ ts[j].A _ _ _ _ _ ts'[j].A true _ (by simp; omega) (by simp; omega) hr1 hr2 (Iff.intro (fun _ => by rw [tr_eta, tr_eta]; exact HE.out) (fun _ => rfl))).mono ?_
        rintro e w2 ⟨rfl, hb2⟩
        have hbr2 : Below w.heap.size w w2 := hba.trans (hb2.mono (by simp; omega))
        go_wp2_with fail
        go_roundw
        case rel => exact ⟨j + 1, by omega, by go_num, HN, hbr2⟩
        case measure => simp [intOf]; omega
      · have HE : Hid (¬ ts[j] = ts'[j]) := heq
        have HN : Hid (b = false) := by show _ = _; rw [Bool.eq_false_iff]; intro h; exact unlike_at hlt1 hlt2 heq (HB.out.1 h)
        clear heq
        go_wp2_with fail
        refine (rt_any (d - 1) L B L' B' _ _ _ _ _ ts[j].A _ _ _ _ _ ts'[j].A false _ (by simp; omega) (by simp; omega) hr1 hr2 (Iff.intro (fun h => nomatch h) (fun h => (HE.out (by rw [tr_eta, tr_eta] at h; exact h)).elim))).mono ?_
        rintro e w2 ⟨rfl, hb2⟩
        go_wp2_with fail
        go_ret
        exact ⟨ret_bool HN.out.symm, hba.trans (hb2.mono (by simp; omega))⟩
    · have HT : Hid (b = true) := HB.out.2 (like_all HA.out (by have := HL.out; omega) (by have := HL'.out; have := H3.out; omega))
      go_wp2_with fail
      go_ret
      exact ⟨ret_bool HT.out.symm, hbr⟩

end Go.Proofs.Ytikfbgkjgbdoiaa
