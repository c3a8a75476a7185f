/-
  What the program's 'sameRightTy' comes to.
-/
import Derived.Test.YtfjbgbnhjejchaaDoorSn0
namespace Go.Proofs.YtfjbgbnhjejchaaDoor
open Go.RowKit
set_option linter.unusedVariables false
set_option linter.unusedSimpArgs false

def SaidRt (d : Nat) : Prop := ∀ (L B L' B' : Nat) (k n : Int) (ao : Option Addr) (len cap : Nat) (ts : List Tr) (k' n' : Int) (ao' : Option Addr) (len' cap' : Nat) (ts' : List Tr) (b : Bool) (w : World), B ≤ w.heap.size → B' ≤ w.heap.size → Hs L B w d ao len ts → Hs L' B' w d ao' len' ts' →
    (b = true ↔ (⟨k, n, ts⟩ : Tr) = ⟨k', n', ts'⟩) →
    Calls Tryd.prog 31 #[.agg #[.int .i64 k, .int .i64 n, .slice ao len cap], .agg #[.int .i64 k', .int .i64 n', .slice ao' len' cap']] w fun e w' => e = .returned (.bool b) ∧ Below w.heap.size w w'

set_option maxRecDepth 100000 in
set_option maxHeartbeats 4000000 in
theorem rt_step (d : Nat) (IH : 0 < d → SaidRt (d - 1)) : SaidRt d := by
  intro L B L' B' k n ao len cap ts k' n' ao' len' cap' ts' b w hB hB' hs hs' hb
  have hl := hs.len.2
  have hl' := hs'.len.2
  have HL : Hid (len = ts.length) := hs.len.1
  have HL' : Hid (len' = ts'.length) := hs'.len.1
  have HB : Hid (b = true ↔ (⟨k, n, ts⟩ : Tr) = ⟨k', n', ts'⟩) := hb
  clear hb
  obtain ⟨X, hX⟩ : ∃ X, X = ((w.alloc (.cells #[.int .i64 k, .int .i64 n, .slice ao len cap] 29)).alloc (.cells #[.int .i64 k', .int .i64 n', .slice ao' len' cap'] 29)) := ⟨_, rfl⟩
  have hbel : Below w.heap.size w X := by rw [hX]; exact ((Below.refl _ _).alloc (Nat.le_refl _) _).alloc (by simp) _
  have hXs : X.heap.size = w.heap.size + 2 := by rw [hX]; simp
  have hX0 : X.heap[w.heap.size]? = some (.cells #[.int .i64 k, .int .i64 n, .slice ao len cap] 29 (0, 0)) := by rw [hX, Below.heap_alloc _ _ _ (by simp)]; exact heap_new rfl
  have hX1 : X.heap[w.heap.size + 1]? = some (.cells #[.int .i64 k', .int .i64 n', .slice ao' len' cap'] 29 (0, 0)) := by rw [hX]; exact heap_new (by simp)
  have HX : Hid (X = _) := hX
  clear hX
  have HXs : Hid (_ = _) := hXs
  cases hq : ((k == k') && (n == n') && ((len : Int) == (len' : Int)))
  case' false =>
    have HF : Hid (b = false) := by
      show _ = _
      rw [Bool.eq_false_iff]; intro h
      have e := HB.out.1 h
      have e1 : k = k' := congrArg Tr.K e
      have e2 : n = n' := congrArg Tr.N e
      have e3 : len = len' := by rw [HL.out, HL'.out]; exact congrArg (fun t => t.A.length) e
      rw [e1, e2, e3] at hq
      simp at hq
    have HQ : Hid (_ = false) := hq
    clear hq
    go_enter Tryd.func31, Tryd.ntmps31
    go_wp2_with fail
    rw [← HX.out]
    refine (sameTyNode_any _ _ _ _ _ _ _ _ _ _ _ hl hl').mono ?_
    rintro e w1 ⟨rfl, hb1⟩
    rw [HQ.out]
    go_wp2_with fail
    go_ret
    exact ⟨ret_bool HF.out.symm, hbel.trans (hb1.mono (by omega))⟩
  have HQ : Hid (_ = true) := hq
  have H3 : Hid (len = len') := by simp only [Bool.and_eq_true, beq_iff_eq] at hq; show _ = _; omega
  have HY : Hid (ts = ts' → b = true) := fun h => HB.out.2 (by simp only [Bool.and_eq_true, beq_iff_eq] at hq; rw [hq.1.1, hq.1.2, h])
  have HNo : Hid (¬ ts = ts' → b = false) := fun h => by rw [Bool.eq_false_iff]; intro hb; exact h (congrArg Tr.A (HB.out.1 hb))
  clear hq
  have f2 := row_cell hX0 2
  have g2 := row_cell hX1 2
  simp only [List.getElem?_toArray, List.getElem?_cons_zero, List.getElem?_cons_succ] at f2 g2
  have htl : w.heap.size < X.heap.size := by omega
  have htl' : w.heap.size + 1 < X.heap.size := by omega
  go_enter Tryd.func31, Tryd.ntmps31
  go_wp2_with fail
  rw [← HX.out]
  refine (sameTyNode_any _ _ _ _ _ _ _ _ _ _ _ hl hl').mono ?_
  rintro e w1 ⟨rfl, hb1⟩
  rw [HQ.out]
  replace hX0 := (hb1.block _ htl).trans hX0
  replace hX1 := (hb1.block _ htl').trans hX1
  replace f2 := (bcell hb1 htl 2).trans f2
  replace g2 := (bcell hb1 htl' 2).trans g2
  have hz1 := hb1.size
  replace htl := Nat.lt_of_lt_of_le htl hz1
  replace htl' := Nat.lt_of_lt_of_le htl' hz1
  replace hbel : Below w.heap.size w w1 := hbel.trans (hb1.mono (by omega))
  clear hXs hX0 hX1
  go_wp2_with fail
  go_loopw [13] (fun i wr => ∃ j : Nat, j ≤ len ∧ i = .int .i64 j ∧ Hid (likeB ts ts' j) ∧ Below w1.heap.size w1 wr) (fun i _ => len - (intOf i).toNat)
  case atStart => exact ⟨0, by omega, rfl, rfl, Below.refl _ _⟩
  case round =>
    obtain ⟨j, hj, rfl, HA, hbr⟩ := hrel
    have hszr := hbr.size
    have p2 := (bcell hbr htl 2).trans f2
    have q2 := (bcell hbr htl' 2).trans g2
    have hbw : Below w.heap.size w wr := hbel.trans (hbr.mono (by omega))
    have htr : w.heap.size < wr.heap.size := by omega
    have htr' : w.heap.size + 1 < wr.heap.size := by omega
    by_cases hlt : j < len
    · have hlt1 : j < ts.length := by have := HL.out; omega
      have hlt2 : j < ts'.length := by have := HL'.out; have := H3.out; omega
      have hlt' : j < len' := by have := H3.out; omega
      obtain ⟨x, o, rfl, _, hxB, ao1, len1, cap1, c0, c1, c2, hs1⟩ := hs.get j hlt1
      obtain ⟨x', o', rfl, _, hxB', ao2, len2, cap2, c0', c1', c2', hs2⟩ := hs'.get j hlt2
      have e0 := (bcell hbw (by omega) _).trans c0
      have e1 := (bcell hbw (by omega) _).trans c1
      have e2 := (bcell hbw (by omega) _).trans c2
      have e0' := (bcell hbw (by omega) _).trans c0'
      have e1' := (bcell hbw (by omega) _).trans c1'
      have e2' := (bcell hbw (by omega) _).trans c2'
      have hxr : x < wr.heap.size := by omega
      have hxr' : x' < wr.heap.size := by omega
      have hd : 0 < d := by
        cases d with
        | zero => obtain ⟨_, rfl⟩ := hs; simp at hlt1
        | succ d => omega
      have hr1 := hs1.below hbw hB
      have hr2 := hs2.below hbw hB'
      have hBr : B ≤ wr.heap.size := by omega
      have hBr' : B' ≤ wr.heap.size := by omega
      have hj0 : (0 : Int) ≤ (j : Int) := by omega
      have hjl : (j : Int) < (len : Int) := by omega
      have hjl' : (j : Int) < (len' : Int) := by omega
      clear c0 c1 c2 c0' c1' c2'
      by_cases heq : ts[j] = ts'[j]
      · have HE : Hid (ts[j] = ts'[j]) := heq
        have HN : Hid (likeB ts ts' (j + 1)) := like_next HA.out hlt1 hlt2 heq
        clear heq
        go_wp2_with fail
        refine wp_region_below (by kernel_rfl) (by kernel_rfl) ?_
        repeat (first
          | go_big_quiet_skip
          | (go_big_quiet_want; unfold Oper.quiet; apply Exists.intro; refine ⟨fun w' hC => ?_, ?_⟩; (have y0 := (bcell hC htr 2).trans p2; have y1 := (bcell hC htr' 2).trans q2; have z0 := (bcell hC hxr _).trans e0; have z1 := (bcell hC hxr _).trans e1; have z2 := (bcell hC hxr _).trans e2; have z0' := (bcell hC hxr' _).trans e0'; have z1' := (bcell hC hxr' _).trans e1'; have z2' := (bcell hC hxr' _).trans e2'; unfold Oper.quietAt; go_simp; first | exact rfl | exact ⟨rfl, rfl⟩ | (go_at_call 31; refine (IH hd L B L' B' _ _ _ _ _ ts[j].A _ _ _ _ _ ts'[j].A true _ (Nat.le_trans hBr hC.size) (Nat.le_trans hBr' hC.size) (hr1.below hC hBr) (hr2.below hC hBr') (Iff.intro (fun _ => by rw [tr_eta, tr_eta]; exact HE.out) (fun _ => rfl))).mono ?_; rintro e w'' ⟨rfl, hw⟩; exact ⟨rfl, hC.trans (hw.mono hC.size)⟩)); go_big_quiet_on; simp only [Act.put, List.setIfInBounds_toArray, List.set_cons_zero, List.set_cons_succ]))
        refine wpQuiet_nil ?_
        intro w2 hb2
        have hbr2 : Below w1.heap.size w1 w2 := hbr.trans (hb2.mono hszr)
        go_wp2_with fail
        go_roundw
        case rel => exact ⟨j + 1, by omega, by go_num, HN, hbr2⟩
        case measure => simp [intOf]; omega
      · have HE : Hid (¬ ts[j] = ts'[j]) := heq
        have HN : Hid (b = false) := HNo.out (unlike_at hlt1 hlt2 heq)
        clear heq
        go_wp2_with fail
        refine wp_region_below (by kernel_rfl) (by kernel_rfl) ?_
        repeat (first
          | go_big_quiet_skip
          | (go_big_quiet_want; unfold Oper.quiet; apply Exists.intro; refine ⟨fun w' hC => ?_, ?_⟩; (have y0 := (bcell hC htr 2).trans p2; have y1 := (bcell hC htr' 2).trans q2; have z0 := (bcell hC hxr _).trans e0; have z1 := (bcell hC hxr _).trans e1; have z2 := (bcell hC hxr _).trans e2; have z0' := (bcell hC hxr' _).trans e0'; have z1' := (bcell hC hxr' _).trans e1'; have z2' := (bcell hC hxr' _).trans e2'; unfold Oper.quietAt; go_simp; first | exact rfl | exact ⟨rfl, rfl⟩ | (go_at_call 31; refine (IH hd L B L' B' _ _ _ _ _ ts[j].A _ _ _ _ _ ts'[j].A false _ (Nat.le_trans hBr hC.size) (Nat.le_trans hBr' hC.size) (hr1.below hC hBr) (hr2.below hC hBr') (Iff.intro (fun h => nomatch h) (fun h => (HE.out (by rw [tr_eta, tr_eta] at h; exact h)).elim))).mono ?_; rintro e w'' ⟨rfl, hw⟩; exact ⟨rfl, hC.trans (hw.mono hC.size)⟩)); go_big_quiet_on; simp only [Act.put, List.setIfInBounds_toArray, List.set_cons_zero, List.set_cons_succ]))
        refine wpQuiet_nil ?_
        intro w2 hb2
        go_wp2_with fail
        go_ret
        exact ⟨ret_bool HN.out.symm, hbw.trans (hb2.mono (by omega))⟩
    · have HT : Hid (b = true) := HY.out (like_all HA.out (by have := HL.out; omega) (by have := HL'.out; have := H3.out; omega))
      go_wp2_with fail
      go_ret
      exact ⟨ret_bool HT.out.symm, hbw⟩

theorem rt_any (d : Nat) : SaidRt d := by
  induction d with
  | zero => exact rt_step 0 (fun h => by omega)
  | succ d ih => exact rt_step (d + 1) (fun _ => by simpa using ih)

end Go.Proofs.YtfjbgbnhjejchaaDoor
