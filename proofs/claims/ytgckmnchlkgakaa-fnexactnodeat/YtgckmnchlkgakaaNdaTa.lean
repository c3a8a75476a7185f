/-
  The program's 'termAt', 'LambdaAt'.
-/
import Derived.Test.YtgckmnchlkgakaaNdaZ10
import Derived.Test.YtgckmnchlkgakaaNdaTro
import Derived.Test.YtgckmnchlkgakaaNdaCtM
namespace Go.Proofs.Ytgckmnchlkgakaa
open Go.RowKit
set_option linter.unusedVariables false
set_option linter.unusedSimpArgs false

set_option maxRecDepth 100000 in
set_option maxHeartbeats 2000000 in
theorem termAt_any (D d L B base : Nat) (v : Value) (A : List Tm) (n : Int) (w : World) (hB : B ≤ w.heap.size) (hT : TRow L B base w D d v A) (hl : A.length ≤ 1000) (hc : ∀ r ∈ A, cntM r ≤ 1048576) :
    Calls Try.prog 52 #[v, .int .i64 n] w fun e w' => TellM w w' (D + 1) d e (nthM A n).1 (nthM A n).2 := by
  obtain ⟨X, hX⟩ : ∃ X, X = (w.alloc (.cells #[.int .i64 0, .int .i64 0, .string ⟨#[]⟩, .string ⟨#[]⟩, .int .i64 0, .int .i64 0, .slice none 0 0, .slice none 0 0, .slice none 0 0] 36)) := ⟨_, rfl⟩
  have hXs : X.heap.size = w.heap.size + 1 := by rw [hX]; simp
  have hXb : Below w.heap.size w X := by rw [hX]; exact (Below.refl _ _).alloc (Nat.le_refl _) _
  have x1 : X.heap[w.heap.size]? = some (.cells #[.int .i64 0, .int .i64 0, .string ⟨#[]⟩, .string ⟨#[]⟩, .int .i64 0, .int .i64 0, .slice none 0 0, .slice none 0 0, .slice none 0 0] 36 (0, 0)) := by rw [hX]; exact heap_new rfl
  have HX : Hid (X = _) := hX
  clear hX
  have hTX := trow_bel hT hXb hB
  obtain ⟨p0, p1, p2, p3, p4, p5, p6, p7, p8⟩ := Nine.box x1
  have pf := row_free x1
  have HCN : Hid (∀ r ∈ A, cntM r ≤ 1048576) := hc
  obtain ⟨ao, cp, rfl⟩ := trow_form hT
  obtain ⟨nA, hnA⟩ : ∃ x, A.length = x := ⟨_, rfl⟩
  have HNA : Hid (A.length = nA) := hnA
  rw [hnA] at hT hl ⊢
  clear hnA hTX hc
  by_cases hn0 : n < 0
  · have HV : Hid (nthM A n = (zTm, false)) := by show _ = _; rw [nthM_no (by omega)]
    go_enter Try.func52, Try.ntmps52
    go_wp2_with fail
    rw [← HX.out]
    obtain ⟨Y, hYe⟩ : ∃ Y, Y = X := ⟨_, rfl⟩
    have hYb : Below w.heap.size w Y := by rw [hYe]; exact hXb
    refine bodyPost_ret (v := .tuple #[.agg #[.int .i64 0, .int .i64 0, .string ⟨#[]⟩, .string ⟨#[]⟩, .int .i64 0, .int .i64 0, .slice none 0 0, .slice none 0 0, .slice none 0 0], .bool false]) (by simp [results, Try.results52, go_sem, p0, p1, p2, p3, p4, p5, p6, p7, p8]) rfl ?_
    have hfin : TellM w Y (D + 1) d (.returned (.tuple #[.agg #[.int .i64 0, .int .i64 0, .string ⟨#[]⟩, .string ⟨#[]⟩, .int .i64 0, .int .i64 0, .slice none 0 0, .slice none 0 0, .slice none 0 0], .bool false])) zTm false := ⟨none, 0, 0, none, 0, 0, none, 0, 0, rfl, hYb, zTm_fmO _ _ _ _ _ hYb.size⟩
    rw [hYe] at hfin
    rw [HV.out]
    exact hfin
  · by_cases hn1 : n < nA
    · obtain ⟨i, rfl⟩ : ∃ i : Nat, n = i := ⟨n.toNat, by omega⟩
      have hi : i < A.length := by have := HNA.out; omega
      have HV : Hid (nthM A i = (A[i], true)) := by show _ = _; rw [nthM_at hi]
      have HNA2 := HNA.out
      obtain ⟨g, cap', e, hgb, hgw, q1, n1, k1, q2, n2, k2, q3, n3, k3, h9, hfi⟩ := trow_at hT i hi
      injection e with e1 e2 e3
      subst e1
      subst e3
      have hci := HCN.out A[i] (List.getElem_mem hi)
      obtain ⟨R, hR⟩ : ∃ R, A[i] = R := ⟨_, rfl⟩
      rw [hR] at h9 hfi hci HV
      have hix : (i : Int) < (nA : Int) := hn1
      have hge : ¬ (nA : Int) ≤ (i : Int) := by omega
      obtain ⟨e0, e1, e2', e3, e4, e5, e6, e7, e8⟩ := h9
      have K := ct_any D d L B R q1 n1 k1 q2 n2 k2 q3 n3 k3 X (by omega) (Fm.below hXb hB hfi) hci
      have hXz : w.heap.size + 1 ≤ X.heap.size := by omega
      clear HNA2 e2 hR hT hXs
      go_enter Try.func52, Try.ntmps52
      go_wp2_with fail
      rw [← HX.out]
      refine K.mono ?_
      rintro e w2 ⟨b1, m1, s1, b2, s2, b3, s3, rfl, hb2, ho2⟩
      have hz2 := hb2.size
      have hbw2 : Below w.heap.size w w2 := hXb.trans (hb2.mono (by omega))
      have x2 := (hb2.block (w.heap.size) (by omega)).trans x1
      clear p0 p1 p2 p3 p4 p5 p6 p7 p8 pf e0 e1 e2' e3 e4 e5 e6 e7 e8
      obtain ⟨p0, p1, p2, p3, p4, p5, p6, p7, p8⟩ := Nine.box x2
      have pf := row_free x2
      go_wp2_with fail
      obtain ⟨Y, hYe⟩ : ∃ Y, Y = set9 w2 w.heap.size 0 (.int .i64 R.K) (.int .i64 R.N) (.string R.S) (.string R.Z) (.int .i64 R.T.K) (.int .i64 R.T.N) (.slice b1 m1 s1) (.slice b2 n2 s2) (.slice b3 n3 s3) := ⟨_, rfl⟩
      have hYb : Below w.heap.size w Y := by rw [hYe]; exact set9_below hbw2 (by omega)
      have hYs : Y.heap.size = w2.heap.size := by rw [hYe]; exact set9_size _ _ _ _ _ _ _ _ _ _ _ _
      have hYo : ∀ k, k ≠ w.heap.size → Y.heap[k]? = w2.heap[k]? := fun k hk => by rw [hYe]; exact set9_other k hk
      refine bodyPost_ret (v := .tuple #[.agg #[.int .i64 R.K, .int .i64 R.N, .string R.S, .string R.Z, .int .i64 R.T.K, .int .i64 R.T.N, .slice b1 m1 s1, .slice b2 n2 s2, .slice b3 n3 s3], .bool true]) (by simp [results, Try.results52, go_sem, p0, p1, p2, p3, p4, p5, p6, p7, p8]) rfl ?_
      have hfin : TellM w Y (D + 1) d (.returned (.tuple #[.agg #[.int .i64 R.K, .int .i64 R.N, .string R.S, .string R.Z, .int .i64 R.T.K, .int .i64 R.T.N, .slice b1 m1 s1, .slice b2 n2 s2, .slice b3 n3 s3], .bool true])) R true := ⟨_, _, _, _, _, _, _, _, _, rfl, hYb, ho2.keep (fun k hk1 hk2 => hYo k (by omega)) (by omega) (by omega)⟩
      rw [hYe] at hfin
      rw [HV.out]
      exact hfin
    · have HV : Hid (nthM A n = (zTm, false)) := by show _ = _; rw [nthM_no (by have := HNA.out; omega)]
      have hge : (nA : Int) ≤ n := by omega
      go_enter Try.func52, Try.ntmps52
      go_wp2_with fail
      rw [← HX.out]
      obtain ⟨Y, hYe⟩ : ∃ Y, Y = X := ⟨_, rfl⟩
      have hYb : Below w.heap.size w Y := by rw [hYe]; exact hXb
      refine bodyPost_ret (v := .tuple #[.agg #[.int .i64 0, .int .i64 0, .string ⟨#[]⟩, .string ⟨#[]⟩, .int .i64 0, .int .i64 0, .slice none 0 0, .slice none 0 0, .slice none 0 0], .bool false]) (by simp [results, Try.results52, go_sem, p0, p1, p2, p3, p4, p5, p6, p7, p8]) rfl ?_
      have hfin : TellM w Y (D + 1) d (.returned (.tuple #[.agg #[.int .i64 0, .int .i64 0, .string ⟨#[]⟩, .string ⟨#[]⟩, .int .i64 0, .int .i64 0, .slice none 0 0, .slice none 0 0, .slice none 0 0], .bool false])) zTm false := ⟨none, 0, 0, none, 0, 0, none, 0, 0, rfl, hYb, zTm_fmO _ _ _ _ _ hYb.size⟩
      rw [hYe] at hfin
      rw [HV.out]
      exact hfin

end Go.Proofs.Ytgckmnchlkgakaa
