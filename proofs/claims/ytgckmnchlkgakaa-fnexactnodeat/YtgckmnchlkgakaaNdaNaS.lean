/-
  The model's 'NodeAt'.
-/
import Derived.Test.YtgckmnchlkgakaaNdaZ18
import Derived.Test.YtgckmnchlkgakaaNdaZ26
import Derived.Test.YtgckmnchlkgakaaNdaZ33
import Derived.Test.YtgckmnchlkgakaaNdaLcM
namespace Go.Proofs.Ytgckmnchlkgakaa
open Go.RowKit
set_option linter.unusedVariables false
set_option linter.unusedSimpArgs false

set_option maxRecDepth 100000 in
set_option maxHeartbeats 2000000 in
theorem sNodeAt_any (D d L B : Nat) (t : Tm) (a1 : Option Addr) (l1 c1 : Nat) (a2 : Option Addr) (l2 c2 : Nat) (a3 : Option Addr) (l3 c3 : Nat) (n : Int) (w : World) (hB : B ≤ w.heap.size) (hf : Fm L B w D d t a1 l1 a2 l2 a3 l3) (hc : cntM t ≤ 1048576) :
    Calls Try.prog 24 #[.agg #[.int .i64 t.K, .int .i64 t.N, .string t.S, .string t.Z, .int .i64 t.T.K, .int .i64 t.T.N, .slice a1 l1 c1, .slice a2 l2 c2, .slice a3 l3 c3], .int .i64 n] w fun e w' => TellM w w' (D + 1) d e (natM t n).1 (natM t n).2 := by
  obtain ⟨X, hX⟩ : ∃ X, X = ((w.alloc (.cells #[.int .i64 t.K, .int .i64 t.N, .string t.S, .string t.Z, .int .i64 t.T.K, .int .i64 t.T.N, .slice a1 l1 c1, .slice a2 l2 c2, .slice a3 l3 c3] 36)).alloc (.cells #[.int .i64 0, .int .i64 0, .string ⟨#[]⟩, .string ⟨#[]⟩, .int .i64 0, .int .i64 0, .slice none 0 0, .slice none 0 0, .slice none 0 0] 36)) := ⟨_, rfl⟩
  have hXs : X.heap.size = w.heap.size + 2 := by rw [hX]; simp
  have hXb : Below w.heap.size w X := by rw [hX]; exact ((Below.refl _ _).alloc (Nat.le_refl _) _).alloc (by simp) _
  have hX1 : X.heap[w.heap.size + 1]? = some (.cells #[.int .i64 0, .int .i64 0, .string ⟨#[]⟩, .string ⟨#[]⟩, .int .i64 0, .int .i64 0, .slice none 0 0, .slice none 0 0, .slice none 0 0] 36 (0, 0)) := by rw [hX]; exact heap_new (by simp)
  have hfX := Fm.below hXb hB hf
  have HX : Hid (X = _) := hX
  have hX0 : X.heap[w.heap.size]? = some (.cells #[.int .i64 t.K, .int .i64 t.N, .string t.S, .string t.Z, .int .i64 t.T.K, .int .i64 t.T.N, .slice a1 l1 c1, .slice a2 l2 c2, .slice a3 l3 c3] 36 (0, 0)) := by rw [HX.out, Below.heap_alloc _ _ _ (by simp)]; exact heap_new rfl
  clear hX
  cases hq : okM t
  · have HQ : Hid (okM t = false) := hq
    have HV : Hid (natM t n = (zTm, false)) := by show _ = _; unfold natM; rw [show nodT t = [] by simp [nodT, hq], nthM_no (by simp)]
    clear hq
    go_enter Try.func24, Try.ntmps24
    go_wp2_with fail
    rw [← HX.out]
    refine (sTermOk_any D d L B t _ _ _ _ _ _ _ _ _ X (by omega) hfX).mono ?_
    rintro e w1 ⟨rfl, hb1⟩
    rw [HQ.out]
    have hz1 := hb1.size
    have hbw1 : Below w.heap.size w w1 := hXb.trans (hb1.mono (by omega))
    have x1 := (hb1.block (w.heap.size + 1) (by omega)).trans hX1
    obtain ⟨p0, p1, p2, p3, p4, p5, p6, p7, p8⟩ := Nine.box x1
    have pf := row_free x1
    go_wp2_with fail
    obtain ⟨Y, hYe⟩ : ∃ Y, Y = set9 w1 (w.heap.size + 1) 0 (.int .i64 0) (.int .i64 0) (.string ⟨#[]⟩) (.string ⟨#[]⟩) (.int .i64 0) (.int .i64 0) (.slice none 0 0) (.slice none 0 0) (.slice none 0 0) := ⟨_, rfl⟩
    have hYb : Below w.heap.size w Y := by rw [hYe]; exact set9_below hbw1 (by omega)
    refine bodyPost_ret (v := .tuple #[.agg #[.int .i64 0, .int .i64 0, .string ⟨#[]⟩, .string ⟨#[]⟩, .int .i64 0, .int .i64 0, .slice none 0 0, .slice none 0 0, .slice none 0 0], .bool false]) (by simp [results, Try.results24, go_sem, p0, p1, p2, p3, p4, p5, p6, p7, p8]) rfl ?_
    have hfin : TellM w Y (D + 1) d (.returned (.tuple #[.agg #[.int .i64 0, .int .i64 0, .string ⟨#[]⟩, .string ⟨#[]⟩, .int .i64 0, .int .i64 0, .slice none 0 0, .slice none 0 0, .slice none 0 0], .bool false])) zTm false := ⟨none, 0, 0, none, 0, 0, none, 0, 0, rfl, hYb, zTm_fmO _ _ _ _ _ hYb.size⟩
    rw [hYe] at hfin
    rw [HV.out]
    exact hfin
  have HQ : Hid (okM t = true) := hq
  have HNT : Hid (nodT t = allW t) := by show _ = _; simp [nodT, hq]
  obtain ⟨m, hm, hm6⟩ := okM_some hq
  have hll : (nodT t).length ≤ 150 := nodT_len t
  clear hq
  go_enter Try.func24, Try.ntmps24
  go_wp2_with fail
  rw [← HX.out]
  refine (sTermOk_any D d L B t _ _ _ _ _ _ _ _ _ X (by omega) hfX).mono ?_
  rintro e w0 ⟨rfl, hb0⟩
  rw [HQ.out]
  have hz0 := hb0.size
  have hbw0 : Below w.heap.size w w0 := hXb.trans (hb0.mono (by omega))
  have x00 := (hb0.block w.heap.size (by omega)).trans hX0
  have x01 := (hb0.block (w.heap.size + 1) (by omega)).trans hX1
  obtain ⟨f0, f1, f2, f3, f4, f5, f6, f7, f8⟩ := Nine.box x00
  have hba : Below w.heap.size w (w0.alloc (.cells #[] 36)) := hbw0.alloc (by omega) _
  have x1a := (((Below.refl _ w0).alloc (Nat.le_refl _) (.cells #[] 36)).block (w.heap.size + 1) (by omega)).trans x01
  go_wp2_with fail
  refine (la_any 24 D d d L B w.heap.size t _ _ _ _ _ _ _ _ _ _ [] m _ (Nat.le_refl _) hB (by simp; omega) (Fm.below hba hB hf) hm (trow_emp (heap_new rfl) (by omega)) (by simp; omega)).mono ?_
  rintro e w1 ⟨v, rfl, hk, hT⟩
  rw [List.nil_append, ← HNT.out] at hT
  have hz1 : w0.heap.size + 1 ≤ w1.heap.size := by have := hk.size; simpa using this
  have hbw1 : Below w.heap.size w w1 := hba.trans ⟨hk.os, hk.tape, hk.output, hk.size, fun k hk2 => hk.block k (by simp; omega) (fun e => by have e1 : w0.heap.size = k := by { simpa [Value.ownBlock] using e }; omega)⟩
  have x1 : w1.heap[w.heap.size + 1]? = _ := (hk.block (w.heap.size + 1) (by simp; omega) (fun e => by have e1 : w0.heap.size = w.heap.size + 1 := by { simpa [Value.ownBlock] using e }; omega)).trans x1a
  obtain ⟨p0, p1, p2, p3, p4, p5, p6, p7, p8⟩ := Nine.box x1
  have pf := row_free x1
  clear f0 f1 f2 f3 f4 f5 f6 f7 f8 hk x1a x00 x01 hba hfX hX1 hX0
  have HLT : Hid (natM t n = nthM (nodT t) n) := rfl
  have HCN : Hid (∀ r ∈ nodT t, cntM r ≤ 1048576) := fun r h => Nat.le_trans (nodT_cnt h) hc
  obtain ⟨A, hA⟩ : ∃ A, nodT t = A := ⟨_, rfl⟩
  rw [hA] at hT HLT HCN hll
  clear hA
  obtain ⟨ao, cp, rfl⟩ := trow_form hT
  obtain ⟨nA, hnA⟩ : ∃ x, A.length = x := ⟨_, rfl⟩
  have HNA : Hid (A.length = nA) := hnA
  rw [hnA] at hT hll ⊢
  clear hnA
  by_cases hn : 0 ≤ n ∧ n < nA
  · obtain ⟨i, rfl⟩ : ∃ i : Nat, n = i := ⟨n.toNat, by omega⟩
    have hi : i < A.length := by have := HNA.out; omega
    have HV : Hid (natM t i = (A[i], true)) := by show _ = _; rw [HLT.out, nthM_at hi]
    have HNA2 := HNA.out
    have KI : Hid (∀ W, Calls Try.prog 50 #[.int .i64 i, .int .i64 0, .int .i64 ((nA : Int) - 1)] W fun e w' => e = .returned (.bool true) ∧ w' = W) := fun W => l1In3_any i 0 ((nA : Int) - 1) true (by have : (i : Int) ≤ (nA : Int) - 1 := by { omega }; simp [this]) W
    obtain ⟨g, cap', e, hgb, hgw, q1, n1, k1, q2, n2, k2, q3, n3, k3, h9, hfi⟩ := trow_at hT i hi
    injection e with e1 e2 e3
    subst e1
    subst e3
    have hci := HCN.out A[i] (List.getElem_mem hi)
    obtain ⟨R, hR⟩ : ∃ R, A[i] = R := ⟨_, rfl⟩
    rw [hR] at h9 hfi hci HV
    have hix : (i : Int) < (nA : Int) := hn.2
    obtain ⟨e0, e1, e2', e3, e4, e5, e6, e7, e8⟩ := h9
    have K := lm_any D d L B R q1 n1 k1 q2 n2 k2 q3 n3 k3 w1 (by omega) hfi hci
    clear HNA2 e2 hR hT hn
    go_wp2_with fail
    refine (KI.out _).mono ?_
    rintro e w1' ⟨rfl, hw1⟩
    obtain rfl : w1 = w1' := hw1.symm
    go_wp2_with fail
    refine K.mono ?_
    rintro e w2 ⟨b1, m1, s1, b2, s2, b3, s3, rfl, hb2, ho2⟩
    have hz2 := hb2.size
    have hbw2 : Below w.heap.size w w2 := hbw1.trans (hb2.mono (by omega))
    have x2 := (hb2.block (w.heap.size + 1) (by omega)).trans x1
    clear p0 p1 p2 p3 p4 p5 p6 p7 p8 pf e0 e1 e2' e3 e4 e5 e6 e7 e8
    obtain ⟨p0, p1, p2, p3, p4, p5, p6, p7, p8⟩ := Nine.box x2
    have pf := row_free x2
    go_wp2_with fail
    obtain ⟨Y, hYe⟩ : ∃ Y, Y = set9 w2 (w.heap.size + 1) 0 (.int .i64 R.K) (.int .i64 R.N) (.string R.S) (.string R.Z) (.int .i64 R.T.K) (.int .i64 R.T.N) (.slice b1 m1 s1) (.slice b2 n2 s2) (.slice b3 n3 s3) := ⟨_, rfl⟩
    have hYb : Below w.heap.size w Y := by rw [hYe]; exact set9_below hbw2 (by omega)
    have hYs : Y.heap.size = w2.heap.size := by rw [hYe]; exact set9_size _ _ _ _ _ _ _ _ _ _ _ _
    have hYo : ∀ k, k ≠ w.heap.size + 1 → Y.heap[k]? = w2.heap[k]? := fun k hk => by rw [hYe]; exact set9_other k hk
    refine bodyPost_ret (v := .tuple #[.agg #[.int .i64 R.K, .int .i64 R.N, .string R.S, .string R.Z, .int .i64 R.T.K, .int .i64 R.T.N, .slice b1 m1 s1, .slice b2 n2 s2, .slice b3 n3 s3], .bool true]) (by simp [results, Try.results24, go_sem, p0, p1, p2, p3, p4, p5, p6, p7, p8]) rfl ?_
    have hfin : TellM w Y (D + 1) d (.returned (.tuple #[.agg #[.int .i64 R.K, .int .i64 R.N, .string R.S, .string R.Z, .int .i64 R.T.K, .int .i64 R.T.N, .slice b1 m1 s1, .slice b2 n2 s2, .slice b3 n3 s3], .bool true])) R true := ⟨_, _, _, _, _, _, _, _, _, rfl, hYb, ho2.keep (fun k hk1 hk2 => hYo k (by omega)) (by omega) (by omega)⟩
    rw [hYe] at hfin
    rw [HV.out]
    exact hfin
  · have HV : Hid (natM t n = (zTm, false)) := by show _ = _; rw [HLT.out, nthM_no (by have := HNA.out; omega)]
    have KI : Hid (∀ W, Calls Try.prog 50 #[.int .i64 n, .int .i64 0, .int .i64 ((nA : Int) - 1)] W fun e w' => e = .returned (.bool false) ∧ w' = W) := fun W => l1In3_any n 0 ((nA : Int) - 1) false (by
      by_cases h0 : 0 ≤ n
      · have : ¬ n ≤ (nA : Int) - 1 := by omega
        simp [this]
      · simp [h0]) W
    clear hn
    go_wp2_with fail
    refine (KI.out _).mono ?_
    rintro e w1' ⟨rfl, hw1⟩
    obtain rfl : w1 = w1' := hw1.symm
    go_wp2_with fail
    obtain ⟨Y, hYe⟩ : ∃ Y, Y = set9 w1 (w.heap.size + 1) 0 (.int .i64 0) (.int .i64 0) (.string ⟨#[]⟩) (.string ⟨#[]⟩) (.int .i64 0) (.int .i64 0) (.slice none 0 0) (.slice none 0 0) (.slice none 0 0) := ⟨_, rfl⟩
    have hYb : Below w.heap.size w Y := by rw [hYe]; exact set9_below hbw1 (by omega)
    refine bodyPost_ret (v := .tuple #[.agg #[.int .i64 0, .int .i64 0, .string ⟨#[]⟩, .string ⟨#[]⟩, .int .i64 0, .int .i64 0, .slice none 0 0, .slice none 0 0, .slice none 0 0], .bool false]) (by simp [results, Try.results24, go_sem, p0, p1, p2, p3, p4, p5, p6, p7, p8]) rfl ?_
    have hfin : TellM w Y (D + 1) d (.returned (.tuple #[.agg #[.int .i64 0, .int .i64 0, .string ⟨#[]⟩, .string ⟨#[]⟩, .int .i64 0, .int .i64 0, .slice none 0 0, .slice none 0 0, .slice none 0 0], .bool false])) zTm false := ⟨none, 0, 0, none, 0, 0, none, 0, 0, rfl, hYb, zTm_fmO _ _ _ _ _ hYb.size⟩
    rw [hYe] at hfin
    rw [HV.out]
    exact hfin

end Go.Proofs.Ytgckmnchlkgakaa
