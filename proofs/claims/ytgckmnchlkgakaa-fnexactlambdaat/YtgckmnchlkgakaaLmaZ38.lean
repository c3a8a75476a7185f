/-
  The model's 'LambdaAt'.
-/
import Derived.Test.YtgckmnchlkgakaaLmaZ10
import Derived.Test.YtgckmnchlkgakaaLmaZ25
import Derived.Test.YtgckmnchlkgakaaLmaLm21
import Derived.Test.YtgckmnchlkgakaaLmaLcM
import Derived.Test.YtgckmnchlkgakaaLmaOb
import Derived.Test.YtgckmnchlkgakaaLmaTr
import Derived.Deep.QuietTactic
import Derived.BigQuiet
import Derived.Test.YtgckmnchlkgakaaLmaNw
import Derived.Deep.RegionWith
import Derived.Laws.IdiomStrings
namespace Go.Proofs.Ytgckmnchlkgakaa
open Go.RowKit
set_option linter.unusedVariables false
set_option linter.unusedSimpArgs false

set_option maxRecDepth 100000 in
set_option maxHeartbeats 2000000 in
theorem sLambdaAt_any (D d L B : Nat) (t : Tm) (a1 : Option Addr) (l1 c1 : Nat) (a2 : Option Addr) (l2 c2 : Nat) (a3 : Option Addr) (l3 c3 : Nat) (n : Int) (w : World) (hB : B ≤ w.heap.size) (hf : Fm L B w D d t a1 l1 a2 l2 a3 l3) (hc : cntM t ≤ 1048576) :
    Calls Try.prog 21 #[.agg #[.int .i64 t.K, .int .i64 t.N, .string t.S, .string t.Z, .int .i64 t.T.K, .int .i64 t.T.N, .slice a1 l1 c1, .slice a2 l2 c2, .slice a3 l3 c3], .int .i64 n] w fun e w' => TellM w w' (D + 1) d e (latM t n).1 (latM t n).2 := by
  obtain ⟨X, hX⟩ : ∃ X, X = ((w.alloc (.cells #[.int .i64 t.K, .int .i64 t.N, .string t.S, .string t.Z, .int .i64 t.T.K, .int .i64 t.T.N, .slice a1 l1 c1, .slice a2 l2 c2, .slice a3 l3 c3] 36)).alloc (.cells #[.int .i64 0, .int .i64 0, .string ⟨#[]⟩, .string ⟨#[]⟩, .int .i64 0, .int .i64 0, .slice none 0 0, .slice none 0 0, .slice none 0 0] 36)) := ⟨_, rfl⟩
  have hXs : X.heap.size = w.heap.size + 2 := by rw [hX]; simp
  have hXb : Below w.heap.size w X := by rw [hX]; exact ((Below.refl _ _).alloc (Nat.le_refl _) _).alloc (by simp) _
  have hX1 : X.heap[w.heap.size + 1]? = some (.cells #[.int .i64 0, .int .i64 0, .string ⟨#[]⟩, .string ⟨#[]⟩, .int .i64 0, .int .i64 0, .slice none 0 0, .slice none 0 0, .slice none 0 0] 36 (0, 0)) := by rw [hX]; exact heap_new (by simp)
  have hfX := Fm.below hXb hB hf
  have HX : Hid (X = _) := hX
  have hll := lamT_len t
  clear hX
  go_enter Try.func21, Try.ntmps21
  go_wp2_with fail
  rw [← HX.out]
  refine (l6Lambdas_any D d L B t _ _ _ _ _ _ _ _ _ X (by omega) hfX).mono ?_
  rintro e w1 ⟨v, rfl, hb1, hT⟩
  have hz1 := hb1.size
  have hbw1 : Below w.heap.size w w1 := hXb.trans (hb1.mono (by omega))
  have x1 := (hb1.block (w.heap.size + 1) (by omega)).trans hX1
  obtain ⟨p0, p1, p2, p3, p4, p5, p6, p7, p8⟩ := Nine.box x1
  have pf := row_free x1
  have HLT : Hid (latM t n = nthM (lamT t) n) := rfl
  have HCN : Hid (∀ r ∈ lamT t, cntM r ≤ 1048576) := fun r h => Nat.le_trans (lamT_cnt h) hc
  obtain ⟨A, hA⟩ : ∃ A, lamT t = A := ⟨_, rfl⟩
  rw [hA] at hT HLT HCN hll
  clear hA
  obtain ⟨ao, cp, rfl⟩ := trow_form hT
  obtain ⟨nA, hnA⟩ : ∃ x, A.length = x := ⟨_, rfl⟩
  have HNA : Hid (A.length = nA) := hnA
  rw [hnA] at hT hll ⊢
  clear hnA
  by_cases hn : 0 ≤ n ∧ n < nA
  · obtain ⟨i, rfl⟩ : ∃ i : Nat, n = i := ⟨n.toNat, by omega⟩
    have hi : i < A.length := by have := HNA.out; omega
    have HV : Hid (latM t i = (A[i], true)) := by show _ = _; rw [HLT.out, nthM_at hi]
    have HNA2 := HNA.out
    have KI : Hid (∀ W, Calls Try.prog 50 #[.int .i64 i, .int .i64 0, .int .i64 ((nA : Int) - 1)] W fun e w' => e = .returned (.bool true) ∧ w' = W) := fun W => l1In3_any i 0 ((nA : Int) - 1) true (by have : (i : Int) ≤ (nA : Int) - 1 := by { omega }; simp [this]) W
    obtain ⟨g, cap', e, hgb, hgw, q1, n1, k1, q2, n2, k2, q3, n3, k3, h9, hfi⟩ := trow_at hT i hi
    injection e with e1 e2 e3
    subst e1
    subst e3
    have hci := HCN.out A[i] (List.getElem_mem hi)
    obtain ⟨R, hR⟩ : ∃ R, A[i] = R := ⟨_, rfl⟩
    rw [hR] at h9 hfi hci HV
    have hix : (i : Int) < (nA : Int) := hn.2
    obtain ⟨e0, e1, e2', e3, e4, e5, e6, e7, e8⟩ := h9
    have K := lm_any D d L B R q1 n1 k1 q2 n2 k2 q3 n3 k3 w1 (by omega) hfi hci
    clear HNA2 e2 hR hT hn
    go_wp2_with fail
    refine (KI.out _).mono ?_
    rintro e w1' ⟨rfl, hw1⟩
    obtain rfl : w1 = w1' := hw1.symm
    go_wp2_with fail
    refine K.mono ?_
    rintro e w2 ⟨b1, m1, s1, b2, s2, b3, s3, rfl, hb2, ho2⟩
    have hz2 := hb2.size
    have hbw2 : Below w.heap.size w w2 := hbw1.trans (hb2.mono (by omega))
    have x2 := (hb2.block (w.heap.size + 1) (by omega)).trans x1
    clear p0 p1 p2 p3 p4 p5 p6 p7 p8 pf e0 e1 e2' e3 e4 e5 e6 e7 e8
    obtain ⟨p0, p1, p2, p3, p4, p5, p6, p7, p8⟩ := Nine.box x2
    have pf := row_free x2
    go_wp2_with fail
    obtain ⟨Y, hYe⟩ : ∃ Y, Y = set9 w2 (w.heap.size + 1) 0 (.int .i64 R.K) (.int .i64 R.N) (.string R.S) (.string R.Z) (.int .i64 R.T.K) (.int .i64 R.T.N) (.slice b1 m1 s1) (.slice b2 n2 s2) (.slice b3 n3 s3) := ⟨_, rfl⟩
    have hYb : Below w.heap.size w Y := by rw [hYe]; exact set9_below hbw2 (by omega)
    have hYs : Y.heap.size = w2.heap.size := by rw [hYe]; exact set9_size _ _ _ _ _ _ _ _ _ _ _ _
    have hYo : ∀ k, k ≠ w.heap.size + 1 → Y.heap[k]? = w2.heap[k]? := fun k hk => by rw [hYe]; exact set9_other k hk
    refine bodyPost_ret (v := .tuple #[.agg #[.int .i64 R.K, .int .i64 R.N, .string R.S, .string R.Z, .int .i64 R.T.K, .int .i64 R.T.N, .slice b1 m1 s1, .slice b2 n2 s2, .slice b3 n3 s3], .bool true]) (by simp [results, Try.results21, go_sem, p0, p1, p2, p3, p4, p5, p6, p7, p8]) rfl ?_
    have hfin : TellM w Y (D + 1) d (.returned (.tuple #[.agg #[.int .i64 R.K, .int .i64 R.N, .string R.S, .string R.Z, .int .i64 R.T.K, .int .i64 R.T.N, .slice b1 m1 s1, .slice b2 n2 s2, .slice b3 n3 s3], .bool true])) R true := ⟨_, _, _, _, _, _, _, _, _, rfl, hYb, ho2.keep (fun k hk1 hk2 => hYo k (by omega)) (by omega) (by omega)⟩
    rw [hYe] at hfin
    rw [HV.out]
    exact hfin
  · have HV : Hid (latM t n = (zTm, false)) := by show _ = _; rw [HLT.out, nthM_no (by have := HNA.out; omega)]
    have KI : Hid (∀ W, Calls Try.prog 50 #[.int .i64 n, .int .i64 0, .int .i64 ((nA : Int) - 1)] W fun e w' => e = .returned (.bool false) ∧ w' = W) := fun W => l1In3_any n 0 ((nA : Int) - 1) false (by
      by_cases h0 : 0 ≤ n
      · have : ¬ n ≤ (nA : Int) - 1 := by omega
        simp [this]
      · simp [h0]) W
    clear hn
    go_wp2_with fail
    refine (KI.out _).mono ?_
    rintro e w1' ⟨rfl, hw1⟩
    obtain rfl : w1 = w1' := hw1.symm
    go_wp2_with fail
    obtain ⟨Y, hYe⟩ : ∃ Y, Y = set9 w1 (w.heap.size + 1) 0 (.int .i64 0) (.int .i64 0) (.string ⟨#[]⟩) (.string ⟨#[]⟩) (.int .i64 0) (.int .i64 0) (.slice none 0 0) (.slice none 0 0) (.slice none 0 0) := ⟨_, rfl⟩
    have hYb : Below w.heap.size w Y := by rw [hYe]; exact set9_below hbw1 (by omega)
    refine bodyPost_ret (v := .tuple #[.agg #[.int .i64 0, .int .i64 0, .string ⟨#[]⟩, .string ⟨#[]⟩, .int .i64 0, .int .i64 0, .slice none 0 0, .slice none 0 0, .slice none 0 0], .bool false]) (by simp [results, Try.results21, go_sem, p0, p1, p2, p3, p4, p5, p6, p7, p8]) rfl ?_
    have hfin : TellM w Y (D + 1) d (.returned (.tuple #[.agg #[.int .i64 0, .int .i64 0, .string ⟨#[]⟩, .string ⟨#[]⟩, .int .i64 0, .int .i64 0, .slice none 0 0, .slice none 0 0, .slice none 0 0], .bool false])) zTm false := ⟨none, 0, 0, none, 0, 0, none, 0, 0, rfl, hYb, zTm_fmO _ _ _ _ _ hYb.size⟩
    rw [hYe] at hfin
    rw [HV.out]
    exact hfin

end Go.Proofs.Ytgckmnchlkgakaa

/-
  Rows of names: held against each other; marked; and whether they still bear their marks.
-/
namespace Go.Proofs.Ytgckmnchlkgakaa
open Go.RowKit
set_option linter.unusedVariables false
set_option linter.unusedSimpArgs false

theorem below_drewN {B : Nat} {w wr : World} (h : Below B w wr) (n : Nat) : Below B w (wr.drewN n) := ⟨h.os, h.tape, h.output, h.size, h.block⟩

/-- Digits of n ahead of acc. -/
def dg : Nat → Nat → List UInt8 → List UInt8
  | 0, _, acc => acc
  | f + 1, n, acc => if n = 0 then acc else dg f (n / 10) (UInt8.ofNat (48 + n % 10) :: acc)
theorem dg_zero (f : Nat) (acc : List UInt8) : dg f 0 acc = acc := by cases f <;> simp [dg]
theorem dg_step (f n : Nat) (acc : List UInt8) (h : 0 < n) (hf : n < f) : dg f n acc = dg (f - 1) (n / 10) (UInt8.ofNat (48 + n % 10) :: acc) := by
  cases f with
  | zero => omega
  | succ f => simp [dg]; intro e; omega

/-- The text of a mark. -/
def mt (k : Nat) : List UInt8 := if k = 0 then [109, 48] else 109 :: dg (k + 1) k []

theorem conv_byte (w : World) (g : Nat) (b : UInt8) (x : Int) (hx : x = (b.toNat : Int)) (hg : g = w.heap.size) : (convert 76 9 (.slice (some ⟨g, 0, none⟩) 1 1)).run Try.prog (w.alloc (.cells #[.int .u8 x] 5)) = .ok (.string ⟨#[b]⟩) (w.alloc (.cells #[.int .u8 x] 5)) := by
  refine run_convert_bytes_back _ _ _ _ ⟨g, 0, none⟩ 1 [b] Try.underlying76 Try.underlying5 Try.underlying9 ?_
  intro j hj
  have hj0 : j = 0 := by simpa using hj
  subst hj0
  show (w.alloc _).cell? ⟨g, 0, none⟩ = _
  rw [row_cell (heap_new hg), hx]
  rfl

theorem str_cons (b : UInt8) (a : List UInt8) : (⟨#[b]⟩ : ByteArray) ++ ⟨a.toArray⟩ = ⟨(b :: a).toArray⟩ := by
  apply ByteArray.ext
  simp

set_option maxRecDepth 100000 in
set_option maxHeartbeats 1000000 in
theorem markText_any (k : Nat) (hk : k ≤ 4611686018427387904) (w : World) : Calls Try.prog 44 #[.int .i64 k] w fun e w' => e = .returned (tk (mt k)) ∧ Below w.heap.size w w' := by
  by_cases h0 : k = 0
  · subst h0
    go_enter Try.func44, Try.ntmps44
    go_wp2_with fail
    go_ret
    exact ⟨rfl, Below.refl _ _⟩
  · have hb : ¬ (k : Int) ≤ 0 := by omega
    have HM : Hid (mt k = 109 :: dg (k + 1) k []) := by show _ = _; simp [mt, h0]
    clear h0
    go_enter Try.func44, Try.ntmps44
    go_wp2_with fail
    go_loopw [0, 3] (fun kk o wr => ∃ (n f : Nat) (acc : List UInt8), kk = .int .i64 n ∧ o = .string ⟨acc.toArray⟩ ∧ n < f ∧ n + acc.length ≤ 4611686018427387904 ∧ Below w.heap.size w wr ∧ Hid (dg f n acc = dg (k + 1) k [])) (fun kk _ _ => (intOf kk).toNat)
    case atStart => exact ⟨k, k + 1, [], rfl, rfl, by omega, by simpa using hk, Below.refl _ _, rfl⟩
    case round =>
      obtain ⟨n, f, acc, rfl, rfl, hf, hl, hbr, HD⟩ := hrel
      by_cases hn : 0 < n
      · obtain ⟨b, hbv⟩ : ∃ b : UInt8, b = UInt8.ofNat (48 + n % 10) := ⟨_, rfl⟩
        have hx : 48 + (n : Int) % 10 = ((b.toNat : Nat) : Int) := by
          have : b.toNat = 48 + n % 10 := by rw [hbv]; simp; omega
          rw [this]; omega
        have hcv := conv_byte wr wr.heap.size b (48 + (n : Int) % 10) hx rfl
        have HD2 : Hid (dg (f - 1) (n / 10) (b :: acc) = dg (k + 1) k []) := by show _ = _; rw [← HD.out, dg_step f n acc hn hf, hbv]
        have hdv : n / 10 < n := by omega
        have hla : acc.length ≤ 4611686018427387904 := by omega
        clear hbv hx
        go_wp2_with fail
        go_roundw
        case rel => exact ⟨n / 10, f - 1, b :: acc, by go_num, by rw [str_cons], by omega, by simp only [List.length_cons]; omega, hbr.alloc (by have := hbr.size; omega) _, HD2⟩
        case measure => simp [intOf]; omega
      · have hn0 : n = 0 := by omega
        subst hn0
        rw [dg_zero] at HD
        have hla : acc.length ≤ 4611686018427387904 := by omega
        go_wp2_with fail
        go_ret
        exact ⟨by rw [HM.out, ← HD.out]; exact congrArg Ending.returned (congrArg Value.string (str_cons 109 acc)), hbr⟩

end Go.Proofs.Ytgckmnchlkgakaa
