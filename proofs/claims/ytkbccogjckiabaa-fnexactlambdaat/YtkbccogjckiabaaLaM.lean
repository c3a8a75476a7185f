/-
  'LambdaAt': the program's and the model's.
-/
import Derived.Test.YtkbccogjckiabaaLm1
import Derived.Test.YtkbccogjckiabaaLm2
import Derived.Test.YtkbccogjckiabaaCtM
import Derived.Test.YtkbccogjckiabaaLcM
namespace Go.Proofs.Ytkbccogjckiabaa
open Go.RowKit
set_option linter.unusedVariables false
set_option linter.unusedSimpArgs false

/-- The zero term. -/
def zTm : Tm := ⟨0, 0, ⟨#[]⟩, ⟨#[]⟩, ⟨0, 0, []⟩, [], []⟩
theorem zTm_fmO (L B : Nat) (w : World) (D d : Nat) (hLB : L ≤ B) : FmO L B w D d zTm none 0 none 0 none 0 :=
  FmO.mk (M1 := L) (M2 := L) (by show (0 : Nat) ≤ 9223372036854775807; omega) (by show (0 : Nat) ≤ 9223372036854775807; omega) (OwR.nil _ _ _ _ _) (OwR.nil _ _ _ _ _) (OwMR.nil _ _ _ _ _ _) (Nat.le_refl _) (Nat.le_refl _) hLB
theorem zTm_cnt : cntM zTm = 0 := by rw [cntM_eq]; rfl

theorem sub_le {l : List Tm} {x : Tm} (h : x ∈ l) : cntM x ≤ subMS l := by
  obtain ⟨i, hi, e⟩ := List.getElem_of_mem h
  have h1 := subMS_take l i hi
  have h2 := subMS_take_le l (i + 1)
  rw [← e]
  omega

theorem allW_cnt : ∀ (n : Nat) (t : Tm), cntM t ≤ n → ∀ r ∈ allW t, cntM r ≤ cntM t := by
  intro n
  induction n with
  | zero =>
    intro t ht r hr
    have h1 := cntM_eq t
    have h2 := cntMS_eq t.A
    have hA : t.A = [] := List.length_eq_zero_iff.1 (by omega)
    rw [allW_eq, hA] at hr
    simp at hr
    rw [hr]; omega
  | succ n ih =>
    intro t ht r hr
    rw [allW_eq, List.mem_cons] at hr
    rcases hr with rfl | hr
    · omega
    · rw [List.mem_flatten] at hr
      obtain ⟨l, hl, hrl⟩ := hr
      rw [List.mem_map] at hl
      obtain ⟨x, hx, rfl⟩ := hl
      have h1 := cntM_eq t
      have h2 := cntMS_eq t.A
      have h3 := sub_le hx
      have h4 : 0 < t.A.length := List.length_pos_of_mem hx
      have h5 := ih x (by omega) r hrl
      omega

theorem lamT_cnt {t r : Tm} (hm : r ∈ lamT t) : cntM r ≤ cntM t := by
  unfold lamT at hm
  split at hm
  · exact allW_cnt _ t (Nat.le_refl _) _ (List.mem_filter.1 hm).1
  · simp at hm

/-- The n-th of a row of terms. -/
def nthM (A : List Tm) (n : Int) : Tm × Bool := if 0 ≤ n then (match A[n.toNat]? with | some r => (r, true) | none => (zTm, false)) else (zTm, false)
theorem nthM_at {A : List Tm} {i : Nat} (h : i < A.length) : nthM A (i : Int) = (A[i], true) := by
  unfold nthM
  rw [if_pos (by omega), Int.toNat_natCast, List.getElem?_eq_getElem h]
theorem nthM_no {A : List Tm} {n : Int} (h : ¬ (0 ≤ n ∧ n < A.length)) : nthM A n = (zTm, false) := by
  unfold nthM
  by_cases h0 : 0 ≤ n
  · rw [if_pos h0, List.getElem?_eq_none (by omega)]
  · rw [if_neg h0]
/-- The n-th function of a term. -/
def latM (t : Tm) (n : Int) : Tm × Bool := nthM (lamT t) n
theorem latM_cnt (t : Tm) (n : Int) : cntM (latM t n).1 ≤ cntM t := by
  unfold latM
  by_cases h : 0 ≤ n ∧ n < (lamT t).length
  · obtain ⟨i, rfl⟩ : ∃ i : Nat, n = i := ⟨n.toNat, by omega⟩
    have hi : i < (lamT t).length := by omega
    rw [nthM_at hi]
    exact lamT_cnt (List.getElem_mem hi)
  · rw [nthM_no h, zTm_cnt]; omega

/-- What is told of a term: it lies in memory of its own. -/
def TellM (w w' : World) (D d : Nat) (e : Ending) (R : Tm) (b : Bool) : Prop :=
  ∃ b1 m1 e1 b2 m2 e2 b3 m3 e3, e = .returned (.tuple #[.agg #[.int .i64 R.K, .int .i64 R.N, .string R.S, .string R.Z, .int .i64 R.T.K, .int .i64 R.T.N, .slice b1 m1 e1, .slice b2 m2 e2, .slice b3 m3 e3], .bool b]) ∧ Below w.heap.size w w' ∧ FmO w.heap.size w'.heap.size w' D d R b1 m1 b2 m2 b3 m3

set_option maxRecDepth 100000 in
set_option maxHeartbeats 2000000 in
theorem lambdaAt_any (D d L B : Nat) (t : Tm) (a1 : Option Addr) (l1 c1 : Nat) (a2 : Option Addr) (l2 c2 : Nat) (a3 : Option Addr) (l3 c3 : Nat) (n : Int) (w : World) (hB : B ≤ w.heap.size) (hf : Fm L B w D d t a1 l1 a2 l2 a3 l3) (hc : cntM t ≤ 1048576) :
    Calls Try.prog 16 #[.agg #[.int .i64 t.K, .int .i64 t.N, .string t.S, .string t.Z, .int .i64 t.T.K, .int .i64 t.T.N, .slice a1 l1 c1, .slice a2 l2 c2, .slice a3 l3 c3], .int .i64 n] w fun e w' => TellM w w' (D + 1) d e (latM t n).1 (latM t n).2 := by
  obtain ⟨X, hX⟩ : ∃ X, X = ((w.alloc (.cells #[.int .i64 t.K, .int .i64 t.N, .string t.S, .string t.Z, .int .i64 t.T.K, .int .i64 t.T.N, .slice a1 l1 c1, .slice a2 l2 c2, .slice a3 l3 c3] 35)).alloc (.cells #[.int .i64 0, .int .i64 0, .string ⟨#[]⟩, .string ⟨#[]⟩, .int .i64 0, .int .i64 0, .slice none 0 0, .slice none 0 0, .slice none 0 0] 35)) := ⟨_, rfl⟩
  have hXs : X.heap.size = w.heap.size + 2 := by rw [hX]; simp
  have hXb : Below w.heap.size w X := by rw [hX]; exact ((Below.refl _ _).alloc (Nat.le_refl _) _).alloc (by simp) _
  have hX1 : X.heap[w.heap.size + 1]? = some (.cells #[.int .i64 0, .int .i64 0, .string ⟨#[]⟩, .string ⟨#[]⟩, .int .i64 0, .int .i64 0, .slice none 0 0, .slice none 0 0, .slice none 0 0] 35 (0, 0)) := by rw [hX]; exact heap_new (by simp)
  have hfX := Fm.below hXb hB hf
  have HX : Hid (X = _) := hX
  have hll := lamT_len t
  clear hX
  go_enter Try.func16, Try.ntmps16
  go_wp2_with fail
  rw [← HX.out]
  refine (lambdasOf_any D d L B t _ _ _ _ _ _ _ _ _ X (by omega) hfX).mono ?_
  rintro e w1 ⟨v, rfl, hb1, hT⟩
  have hz1 := hb1.size
  have hbw1 : Below w.heap.size w w1 := hXb.trans (hb1.mono (by omega))
  have x1 := (hb1.block (w.heap.size + 1) (by omega)).trans hX1
  obtain ⟨p0, p1, p2, p3, p4, p5, p6, p7, p8⟩ := Nine.box x1
  have pf := row_free x1
  have HLT : Hid (latM t n = nthM (lamT t) n) := rfl
  have HCN : Hid (∀ r ∈ lamT t, cntM r ≤ 1048576) := fun r h => Nat.le_trans (lamT_cnt h) hc
  obtain ⟨A, hA⟩ : ∃ A, lamT t = A := ⟨_, rfl⟩
  rw [hA] at hT HLT HCN hll
  clear hA
  obtain ⟨ao, cp, rfl⟩ := trow_form hT
  obtain ⟨nA, hnA⟩ : ∃ x, A.length = x := ⟨_, rfl⟩
  have HNA : Hid (A.length = nA) := hnA
  rw [hnA] at hT hll ⊢
  clear hnA
  by_cases hn0 : n < 0
  · have HV : Hid (latM t n = (zTm, false)) := by show _ = _; rw [HLT.out, nthM_no (by omega)]
    go_wp2_with fail
    obtain ⟨Y, hYe⟩ : ∃ Y, Y = set9 w1 (w.heap.size + 1) 0 (.int .i64 0) (.int .i64 0) (.string ⟨#[]⟩) (.string ⟨#[]⟩) (.int .i64 0) (.int .i64 0) (.slice none 0 0) (.slice none 0 0) (.slice none 0 0) := ⟨_, rfl⟩
    have hYb : Below w.heap.size w Y := by rw [hYe]; exact set9_below hbw1 (by omega)
    refine bodyPost_ret (v := .tuple #[.agg #[.int .i64 0, .int .i64 0, .string ⟨#[]⟩, .string ⟨#[]⟩, .int .i64 0, .int .i64 0, .slice none 0 0, .slice none 0 0, .slice none 0 0], .bool false]) (by simp [results, Try.results16, go_sem, p0, p1, p2, p3, p4, p5, p6, p7, p8]) rfl ?_
    have hfin : TellM w Y (D + 1) d (.returned (.tuple #[.agg #[.int .i64 0, .int .i64 0, .string ⟨#[]⟩, .string ⟨#[]⟩, .int .i64 0, .int .i64 0, .slice none 0 0, .slice none 0 0, .slice none 0 0], .bool false])) zTm false := ⟨none, 0, 0, none, 0, 0, none, 0, 0, rfl, hYb, zTm_fmO _ _ _ _ _ hYb.size⟩
    rw [hYe] at hfin
    rw [HV.out]
    exact hfin
  · by_cases hn1 : n < nA
    · obtain ⟨i, rfl⟩ : ∃ i : Nat, n = i := ⟨n.toNat, by omega⟩
      have hi : i < A.length := by have := HNA.out; omega
      have HV : Hid (latM t i = (A[i], true)) := by show _ = _; rw [HLT.out, nthM_at hi]
      have HNA2 := HNA.out
      obtain ⟨g, cap', e, hgb, hgw, q1, n1, k1, q2, n2, k2, q3, n3, k3, h9, hfi⟩ := trow_at hT i hi
      injection e with e1 e2 e3
      subst e1
      subst e3
      have hci := HCN.out A[i] (List.getElem_mem hi)
      obtain ⟨R, hR⟩ : ∃ R, A[i] = R := ⟨_, rfl⟩
      rw [hR] at h9 hfi hci HV
      have hix : (i : Int) < (nA : Int) := hn1
      have hge : ¬ (nA : Int) ≤ (i : Int) := by omega
      obtain ⟨e0, e1, e2', e3, e4, e5, e6, e7, e8⟩ := h9
      have K := ct_any D d L B R q1 n1 k1 q2 n2 k2 q3 n3 k3 w1 (by omega) hfi hci
      clear HNA2 e2 hR hT
      go_wp2_with fail
      refine K.mono ?_
      rintro e w2 ⟨b1, m1, s1, b2, s2, b3, s3, rfl, hb2, ho2⟩
      have hz2 := hb2.size
      have hbw2 : Below w.heap.size w w2 := hbw1.trans (hb2.mono (by omega))
      have x2 := (hb2.block (w.heap.size + 1) (by omega)).trans x1
      clear p0 p1 p2 p3 p4 p5 p6 p7 p8 pf e0 e1 e2' e3 e4 e5 e6 e7 e8
      obtain ⟨p0, p1, p2, p3, p4, p5, p6, p7, p8⟩ := Nine.box x2
      have pf := row_free x2
      go_wp2_with fail
      obtain ⟨Y, hYe⟩ : ∃ Y, Y = set9 w2 (w.heap.size + 1) 0 (.int .i64 R.K) (.int .i64 R.N) (.string R.S) (.string R.Z) (.int .i64 R.T.K) (.int .i64 R.T.N) (.slice b1 m1 s1) (.slice b2 n2 s2) (.slice b3 n3 s3) := ⟨_, rfl⟩
      have hYb : Below w.heap.size w Y := by rw [hYe]; exact set9_below hbw2 (by omega)
      have hYs : Y.heap.size = w2.heap.size := by rw [hYe]; exact set9_size _ _ _ _ _ _ _ _ _ _ _ _
      have hYo : ∀ k, k ≠ w.heap.size + 1 → Y.heap[k]? = w2.heap[k]? := fun k hk => by rw [hYe]; exact set9_other k hk
      refine bodyPost_ret (v := .tuple #[.agg #[.int .i64 R.K, .int .i64 R.N, .string R.S, .string R.Z, .int .i64 R.T.K, .int .i64 R.T.N, .slice b1 m1 s1, .slice b2 n2 s2, .slice b3 n3 s3], .bool true]) (by simp [results, Try.results16, go_sem, p0, p1, p2, p3, p4, p5, p6, p7, p8]) rfl ?_
      have hfin : TellM w Y (D + 1) d (.returned (.tuple #[.agg #[.int .i64 R.K, .int .i64 R.N, .string R.S, .string R.Z, .int .i64 R.T.K, .int .i64 R.T.N, .slice b1 m1 s1, .slice b2 n2 s2, .slice b3 n3 s3], .bool true])) R true := ⟨_, _, _, _, _, _, _, _, _, rfl, hYb, ho2.keep (fun k hk1 hk2 => hYo k (by omega)) (by omega) (by omega)⟩
      rw [hYe] at hfin
      rw [HV.out]
      exact hfin
    · have HV : Hid (latM t n = (zTm, false)) := by show _ = _; rw [HLT.out, nthM_no (by have := HNA.out; omega)]
      have hge : (nA : Int) ≤ n := by omega
      go_wp2_with fail
      obtain ⟨Y, hYe⟩ : ∃ Y, Y = set9 w1 (w.heap.size + 1) 0 (.int .i64 0) (.int .i64 0) (.string ⟨#[]⟩) (.string ⟨#[]⟩) (.int .i64 0) (.int .i64 0) (.slice none 0 0) (.slice none 0 0) (.slice none 0 0) := ⟨_, rfl⟩
      have hYb : Below w.heap.size w Y := by rw [hYe]; exact set9_below hbw1 (by omega)
      refine bodyPost_ret (v := .tuple #[.agg #[.int .i64 0, .int .i64 0, .string ⟨#[]⟩, .string ⟨#[]⟩, .int .i64 0, .int .i64 0, .slice none 0 0, .slice none 0 0, .slice none 0 0], .bool false]) (by simp [results, Try.results16, go_sem, p0, p1, p2, p3, p4, p5, p6, p7, p8]) rfl ?_
      have hfin : TellM w Y (D + 1) d (.returned (.tuple #[.agg #[.int .i64 0, .int .i64 0, .string ⟨#[]⟩, .string ⟨#[]⟩, .int .i64 0, .int .i64 0, .slice none 0 0, .slice none 0 0, .slice none 0 0], .bool false])) zTm false := ⟨none, 0, 0, none, 0, 0, none, 0, 0, rfl, hYb, zTm_fmO _ _ _ _ _ hYb.size⟩
      rw [hYe] at hfin
      rw [HV.out]
      exact hfin

theorem l1In3_any (x lo hi : Int) (b : Bool) (hb : b = (decide (lo ≤ x) && decide (x ≤ hi))) (w : World) : Calls Try.prog 42 #[.int .i64 x, .int .i64 lo, .int .i64 hi] w fun e w' => e = .returned (.bool b) ∧ w' = w := by
  by_cases h1 : lo ≤ x
  · by_cases h2 : x ≤ hi
    · have HB : Hid (b = true) := by show _ = _; rw [hb]; simp [h1, h2]
      clear hb
      go_enter Try.func42, Try.ntmps42
      go_wp2_with fail
      go_ret
      exact ⟨ret_bool (by rw [HB.out]), rfl⟩
    · have HB : Hid (b = false) := by show _ = _; rw [hb]; simp [h2]
      clear hb
      go_enter Try.func42, Try.ntmps42
      go_wp2_with fail
      go_ret
      exact ⟨ret_bool (by rw [HB.out]), rfl⟩
  · have HB : Hid (b = false) := by show _ = _; rw [hb]; simp [h1]
    clear hb
    go_enter Try.func42, Try.ntmps42
    go_wp2_with fail
    go_ret
    exact ⟨ret_bool (by rw [HB.out]), rfl⟩

set_option maxRecDepth 100000 in
set_option maxHeartbeats 2000000 in
theorem sLambdaAt_any (D d L B : Nat) (t : Tm) (a1 : Option Addr) (l1 c1 : Nat) (a2 : Option Addr) (l2 c2 : Nat) (a3 : Option Addr) (l3 c3 : Nat) (n : Int) (w : World) (hB : B ≤ w.heap.size) (hf : Fm L B w D d t a1 l1 a2 l2 a3 l3) (hc : cntM t ≤ 1048576) :
    Calls Try.prog 15 #[.agg #[.int .i64 t.K, .int .i64 t.N, .string t.S, .string t.Z, .int .i64 t.T.K, .int .i64 t.T.N, .slice a1 l1 c1, .slice a2 l2 c2, .slice a3 l3 c3], .int .i64 n] w fun e w' => TellM w w' (D + 1) d e (latM t n).1 (latM t n).2 := by
  obtain ⟨X, hX⟩ : ∃ X, X = ((w.alloc (.cells #[.int .i64 t.K, .int .i64 t.N, .string t.S, .string t.Z, .int .i64 t.T.K, .int .i64 t.T.N, .slice a1 l1 c1, .slice a2 l2 c2, .slice a3 l3 c3] 35)).alloc (.cells #[.int .i64 0, .int .i64 0, .string ⟨#[]⟩, .string ⟨#[]⟩, .int .i64 0, .int .i64 0, .slice none 0 0, .slice none 0 0, .slice none 0 0] 35)) := ⟨_, rfl⟩
  have hXs : X.heap.size = w.heap.size + 2 := by rw [hX]; simp
  have hXb : Below w.heap.size w X := by rw [hX]; exact ((Below.refl _ _).alloc (Nat.le_refl _) _).alloc (by simp) _
  have hX1 : X.heap[w.heap.size + 1]? = some (.cells #[.int .i64 0, .int .i64 0, .string ⟨#[]⟩, .string ⟨#[]⟩, .int .i64 0, .int .i64 0, .slice none 0 0, .slice none 0 0, .slice none 0 0] 35 (0, 0)) := by rw [hX]; exact heap_new (by simp)
  have hfX := Fm.below hXb hB hf
  have HX : Hid (X = _) := hX
  have hll := lamT_len t
  clear hX
  go_enter Try.func15, Try.ntmps15
  go_wp2_with fail
  rw [← HX.out]
  refine (l6Lambdas_any D d L B t _ _ _ _ _ _ _ _ _ X (by omega) hfX).mono ?_
  rintro e w1 ⟨v, rfl, hb1, hT⟩
  have hz1 := hb1.size
  have hbw1 : Below w.heap.size w w1 := hXb.trans (hb1.mono (by omega))
  have x1 := (hb1.block (w.heap.size + 1) (by omega)).trans hX1
  obtain ⟨p0, p1, p2, p3, p4, p5, p6, p7, p8⟩ := Nine.box x1
  have pf := row_free x1
  have HLT : Hid (latM t n = nthM (lamT t) n) := rfl
  have HCN : Hid (∀ r ∈ lamT t, cntM r ≤ 1048576) := fun r h => Nat.le_trans (lamT_cnt h) hc
  obtain ⟨A, hA⟩ : ∃ A, lamT t = A := ⟨_, rfl⟩
  rw [hA] at hT HLT HCN hll
  clear hA
  obtain ⟨ao, cp, rfl⟩ := trow_form hT
  obtain ⟨nA, hnA⟩ : ∃ x, A.length = x := ⟨_, rfl⟩
  have HNA : Hid (A.length = nA) := hnA
  rw [hnA] at hT hll ⊢
  clear hnA
  by_cases hn : 0 ≤ n ∧ n < nA
  · obtain ⟨i, rfl⟩ : ∃ i : Nat, n = i := ⟨n.toNat, by omega⟩
    have hi : i < A.length := by have := HNA.out; omega
    have HV : Hid (latM t i = (A[i], true)) := by show _ = _; rw [HLT.out, nthM_at hi]
    have HNA2 := HNA.out
    have KI : Hid (∀ W, Calls Try.prog 42 #[.int .i64 i, .int .i64 0, .int .i64 ((nA : Int) - 1)] W fun e w' => e = .returned (.bool true) ∧ w' = W) := fun W => l1In3_any i 0 ((nA : Int) - 1) true (by have : (i : Int) ≤ (nA : Int) - 1 := by { omega }; simp [this]) W
    obtain ⟨g, cap', e, hgb, hgw, q1, n1, k1, q2, n2, k2, q3, n3, k3, h9, hfi⟩ := trow_at hT i hi
    injection e with e1 e2 e3
    subst e1
    subst e3
    have hci := HCN.out A[i] (List.getElem_mem hi)
    obtain ⟨R, hR⟩ : ∃ R, A[i] = R := ⟨_, rfl⟩
    rw [hR] at h9 hfi hci HV
    have hix : (i : Int) < (nA : Int) := hn.2
    obtain ⟨e0, e1, e2', e3, e4, e5, e6, e7, e8⟩ := h9
    have K := lm_any D d L B R q1 n1 k1 q2 n2 k2 q3 n3 k3 w1 (by omega) hfi hci
    clear HNA2 e2 hR hT hn
    go_wp2_with fail
    refine (KI.out _).mono ?_
    rintro e w1' ⟨rfl, hw1⟩
    obtain rfl : w1 = w1' := hw1.symm
    go_wp2_with fail
    refine K.mono ?_
    rintro e w2 ⟨b1, m1, s1, b2, s2, b3, s3, rfl, hb2, ho2⟩
    have hz2 := hb2.size
    have hbw2 : Below w.heap.size w w2 := hbw1.trans (hb2.mono (by omega))
    have x2 := (hb2.block (w.heap.size + 1) (by omega)).trans x1
    clear p0 p1 p2 p3 p4 p5 p6 p7 p8 pf e0 e1 e2' e3 e4 e5 e6 e7 e8
    obtain ⟨p0, p1, p2, p3, p4, p5, p6, p7, p8⟩ := Nine.box x2
    have pf := row_free x2
    go_wp2_with fail
    obtain ⟨Y, hYe⟩ : ∃ Y, Y = set9 w2 (w.heap.size + 1) 0 (.int .i64 R.K) (.int .i64 R.N) (.string R.S) (.string R.Z) (.int .i64 R.T.K) (.int .i64 R.T.N) (.slice b1 m1 s1) (.slice b2 n2 s2) (.slice b3 n3 s3) := ⟨_, rfl⟩
    have hYb : Below w.heap.size w Y := by rw [hYe]; exact set9_below hbw2 (by omega)
    have hYs : Y.heap.size = w2.heap.size := by rw [hYe]; exact set9_size _ _ _ _ _ _ _ _ _ _ _ _
    have hYo : ∀ k, k ≠ w.heap.size + 1 → Y.heap[k]? = w2.heap[k]? := fun k hk => by rw [hYe]; exact set9_other k hk
    refine bodyPost_ret (v := .tuple #[.agg #[.int .i64 R.K, .int .i64 R.N, .string R.S, .string R.Z, .int .i64 R.T.K, .int .i64 R.T.N, .slice b1 m1 s1, .slice b2 n2 s2, .slice b3 n3 s3], .bool true]) (by simp [results, Try.results15, go_sem, p0, p1, p2, p3, p4, p5, p6, p7, p8]) rfl ?_
    have hfin : TellM w Y (D + 1) d (.returned (.tuple #[.agg #[.int .i64 R.K, .int .i64 R.N, .string R.S, .string R.Z, .int .i64 R.T.K, .int .i64 R.T.N, .slice b1 m1 s1, .slice b2 n2 s2, .slice b3 n3 s3], .bool true])) R true := ⟨_, _, _, _, _, _, _, _, _, rfl, hYb, ho2.keep (fun k hk1 hk2 => hYo k (by omega)) (by omega) (by omega)⟩
    rw [hYe] at hfin
    rw [HV.out]
    exact hfin
  · have HV : Hid (latM t n = (zTm, false)) := by show _ = _; rw [HLT.out, nthM_no (by have := HNA.out; omega)]
    have KI : Hid (∀ W, Calls Try.prog 42 #[.int .i64 n, .int .i64 0, .int .i64 ((nA : Int) - 1)] W fun e w' => e = .returned (.bool false) ∧ w' = W) := fun W => l1In3_any n 0 ((nA : Int) - 1) false (by
      by_cases h0 : 0 ≤ n
      · have : ¬ n ≤ (nA : Int) - 1 := by omega
        simp [this]
      · simp [h0]) W
    clear hn
    go_wp2_with fail
    refine (KI.out _).mono ?_
    rintro e w1' ⟨rfl, hw1⟩
    obtain rfl : w1 = w1' := hw1.symm
    go_wp2_with fail
    obtain ⟨Y, hYe⟩ : ∃ Y, Y = set9 w1 (w.heap.size + 1) 0 (.int .i64 0) (.int .i64 0) (.string ⟨#[]⟩) (.string ⟨#[]⟩) (.int .i64 0) (.int .i64 0) (.slice none 0 0) (.slice none 0 0) (.slice none 0 0) := ⟨_, rfl⟩
    have hYb : Below w.heap.size w Y := by rw [hYe]; exact set9_below hbw1 (by omega)
    refine bodyPost_ret (v := .tuple #[.agg #[.int .i64 0, .int .i64 0, .string ⟨#[]⟩, .string ⟨#[]⟩, .int .i64 0, .int .i64 0, .slice none 0 0, .slice none 0 0, .slice none 0 0], .bool false]) (by simp [results, Try.results15, go_sem, p0, p1, p2, p3, p4, p5, p6, p7, p8]) rfl ?_
    have hfin : TellM w Y (D + 1) d (.returned (.tuple #[.agg #[.int .i64 0, .int .i64 0, .string ⟨#[]⟩, .string ⟨#[]⟩, .int .i64 0, .int .i64 0, .slice none 0 0, .slice none 0 0, .slice none 0 0], .bool false])) zTm false := ⟨none, 0, 0, none, 0, 0, none, 0, 0, rfl, hYb, zTm_fmO _ _ _ _ _ hYb.size⟩
    rw [hYe] at hfin
    rw [HV.out]
    exact hfin

end Go.Proofs.Ytkbccogjckiabaa
