/-
  What the model's 'FreeOf' comes to: the same names as the program's.
-/
import Derived.Test.YtdihgldfncjbpaaFzLf2
import Derived.Test.YtdihgldfncjbpaaFzFre
import Derived.Test.YtdihgldfncjbpaaFzLkM
import Derived.Test.YtdihgldfncjbpaaFzZ4
import Derived.Test.YtdihgldfncjbpaaFzZ11
import Derived.Laws.IdiomStrings
namespace Go.Proofs.Ytdihgldfncjbpaa
open Go.RowKit
set_option linter.unusedVariables false
set_option linter.unusedSimpArgs false

theorem toks_lit {base : Nat} {w : World} {g : Nat} (hg : w.heap[g]? = some (.cells #[] 9 (0, 0))) (hb : base ≤ g) : Toks base w (.slice (some ⟨g, 0, none⟩) 0 0) [] :=
  ⟨rfl, Or.inr ⟨g, 0, #[], rfl, hb, hg, by simp, by unfold maxLen; simp, by simp, by simp⟩⟩

set_option maxRecDepth 100000 in
set_option maxHeartbeats 1000000 in
theorem sFreeOf_any (D d L B : Nat) (t : Tm) (a1 : Option Addr) (l1 c1 : Nat) (a2 : Option Addr) (l2 c2 : Nat) (a3 : Option Addr) (l3 c3 : Nat) (w : World) (hB : B ≤ w.heap.size) (hf : Fm L B w D d t a1 l1 a2 l2 a3 l3) :
    Calls Try.prog 32 #[.agg #[.int .i64 t.K, .int .i64 t.N, .string t.S, .string t.Z, .int .i64 t.T.K, .int .i64 t.T.N, .slice a1 l1 c1, .slice a2 l2 c2, .slice a3 l3 c3]] w fun e w' => ∃ v, e = .returned v ∧ Below w.heap.size w w' ∧ Toks w.heap.size w' v (freeT t) := by
  obtain ⟨X, hX⟩ : ∃ X, X = w.alloc (.cells #[.int .i64 t.K, .int .i64 t.N, .string t.S, .string t.Z, .int .i64 t.T.K, .int .i64 t.T.N, .slice a1 l1 c1, .slice a2 l2 c2, .slice a3 l3 c3] 27) := ⟨_, rfl⟩
  have hXs : X.heap.size = w.heap.size + 1 := by rw [hX]; simp
  have hXb : Below w.heap.size w X := by rw [hX]; exact (Below.refl _ _).alloc (Nat.le_refl _) _
  have hX1 : X.heap[w.heap.size]? = some (.cells #[.int .i64 t.K, .int .i64 t.N, .string t.S, .string t.Z, .int .i64 t.T.K, .int .i64 t.T.N, .slice a1 l1 c1, .slice a2 l2 c2, .slice a3 l3 c3] 27 (0, 0)) := by rw [hX]; exact heap_new rfl
  have hf1 := Fm.below hXb hB hf
  have HX : Hid (X = _) := hX
  clear hX
  cases hok : okM t with
  | false =>
    have HE : Hid (freeT t = []) := by show _ = _; simp [freeT, hok]
    have HF : Hid (okM t = false) := hok
    clear hok
    go_enter Try.func32, Try.ntmps32
    go_wp2_with fail
    rw [← HX.out]
    refine (sTermOk_any D d L B t _ _ _ _ _ _ _ _ _ _ (by omega) hf1).mono ?_
    rintro e w1 ⟨rfl, hb1⟩
    rw [HF.out]
    have hbw1 : Below w.heap.size w w1 := hXb.trans (hb1.mono (by omega))
    have hz1 := hbw1.size
    go_wp2_with fail
    go_ret
    exact ⟨_, rfl, hbw1.alloc (by omega) _, by rw [HE.out]; exact toks_lit (heap_new rfl) (by omega)⟩
  | true =>
    obtain ⟨m, hm, hm6⟩ := okM_some hok
    have HE : Hid (freeT t = freeW 24 t [] []) := by show _ = _; simp [freeT, hok]
    have HF : Hid (okM t = true) := hok
    have HM : Hid (nodesM 24 t = some m) := hm
    clear hok hm
    go_enter Try.func32, Try.ntmps32
    go_wp2_with fail
    rw [← HX.out]
    refine (sTermOk_any D d L B t _ _ _ _ _ _ _ _ _ _ (by omega) hf1).mono ?_
    rintro e w1 ⟨rfl, hb1⟩
    rw [HF.out]
    have hz1 := hb1.size
    have hbw1 : Below w.heap.size w w1 := hXb.trans (hb1.mono (by omega))
    have y1 := (hb1.block _ (by omega)).trans hX1
    obtain ⟨f0, f1, f2, f3, f4, f5, f6, f7, f8⟩ := Nine.box y1
    have hlt1 : w.heap.size < w1.heap.size := by omega
    have hA : Below w1.heap.size w1 ((w1.alloc (.cells #[] 9)).alloc (.cells #[] 9)) := ((Below.refl _ _).alloc (Nat.le_refl _) _).alloc (by simp) _
    have hbA : Below w.heap.size w ((w1.alloc (.cells #[] 9)).alloc (.cells #[] 9)) := hbw1.trans (hA.mono (by omega))
    have hT1 : Toks w.heap.size ((w1.alloc (.cells #[] 9)).alloc (.cells #[] 9)) (.slice (some ⟨w1.heap.size, 0, none⟩) 0 0) [] := toks_lit (by rw [Below.heap_alloc _ _ _ (by simp)]; exact heap_new rfl) (by omega)
    have hT2 : Toks w.heap.size ((w1.alloc (.cells #[] 9)).alloc (.cells #[] 9)) (.slice (some ⟨w1.heap.size + 1, 0, none⟩) 0 0) [] := toks_lit (heap_new (by simp)) (by omega)
    have hfA : Fm L B ((w1.alloc (.cells #[] 9)).alloc (.cells #[] 9)) D d t a1 l1 a2 l2 a3 l3 := Fm.below hbA hB hf
    go_wp2_with fail
    refine (lf_any 24 D d L B w.heap.size t a1 l1 c1 a2 l2 c2 a3 l3 c3 _ _ [] [] m _ hB (by simp; omega) hfA HM.out hT1 hT2 (fun g hg e => by simp [Value.ownBlock] at hg e; omega) (by simp) (by simp; omega)).mono ?_
    rintro e w2 ⟨v2, rfl, hk2, hT3⟩
    have hb2 := hk2.below hT2 (by simp; omega)
    go_wp2_with fail
    go_ret
    exact ⟨_, rfl, hbA.trans hb2, by rw [HE.out]; exact hT3⟩

end Go.Proofs.Ytdihgldfncjbpaa

/-
  Rows of names: held against each other; marked; and whether they still bear their marks.
-/
namespace Go.Proofs.Ytdihgldfncjbpaa
open Go.RowKit
set_option linter.unusedVariables false
set_option linter.unusedSimpArgs false

theorem tk_inj {a b : List UInt8} (h : tk a = tk b) : a = b := by
  unfold tk at h
  injection h with h
  have := congrArg (fun s : ByteArray => s.data.toList) h
  simpa using this
theorem tk_list (a : List UInt8) : (⟨a.toArray⟩ : ByteArray).toList = a := by rw [ByteArray.toList_eq]

theorem below_drewN {B : Nat} {w wr : World} (h : Below B w wr) (n : Nat) : Below B w (wr.drewN n) := ⟨h.os, h.tape, h.output, h.size, h.block⟩

/-- Digits of n ahead of acc. -/
def dg : Nat → Nat → List UInt8 → List UInt8
  | 0, _, acc => acc
  | f + 1, n, acc => if n = 0 then acc else dg f (n / 10) (UInt8.ofNat (48 + n % 10) :: acc)
theorem dg_zero (f : Nat) (acc : List UInt8) : dg f 0 acc = acc := by cases f <;> simp [dg]
theorem dg_step (f n : Nat) (acc : List UInt8) (h : 0 < n) (hf : n < f) : dg f n acc = dg (f - 1) (n / 10) (UInt8.ofNat (48 + n % 10) :: acc) := by
  cases f with
  | zero => omega
  | succ f => simp [dg]; intro e; omega

/-- The text of a mark. -/
def mt (k : Nat) : List UInt8 := if k = 0 then [109, 48] else 109 :: dg (k + 1) k []

theorem conv_byte (w : World) (g : Nat) (b : UInt8) (x : Int) (hx : x = (b.toNat : Int)) (hg : g = w.heap.size) : (convert 59 9 (.slice (some ⟨g, 0, none⟩) 1 1)).run Try.prog (w.alloc (.cells #[.int .u8 x] 5)) = .ok (.string ⟨#[b]⟩) (w.alloc (.cells #[.int .u8 x] 5)) := by
  refine run_convert_bytes_back _ _ _ _ ⟨g, 0, none⟩ 1 [b] Try.underlying59 Try.underlying5 Try.underlying9 ?_
  intro j hj
  have hj0 : j = 0 := by simpa using hj
  subst hj0
  show (w.alloc _).cell? ⟨g, 0, none⟩ = _
  rw [row_cell (heap_new hg), hx]
  rfl

theorem str_cons (b : UInt8) (a : List UInt8) : (⟨#[b]⟩ : ByteArray) ++ ⟨a.toArray⟩ = ⟨(b :: a).toArray⟩ := by
  apply ByteArray.ext
  simp

set_option maxRecDepth 100000 in
set_option maxHeartbeats 1000000 in
theorem markText_any (k : Nat) (hk : k ≤ 4611686018427387904) (w : World) : Calls Try.prog 69 #[.int .i64 k] w fun e w' => e = .returned (tk (mt k)) ∧ Below w.heap.size w w' := by
  by_cases h0 : k = 0
  · subst h0
    go_enter Try.func69, Try.ntmps69
    go_wp2_with fail
    go_ret
    exact ⟨rfl, Below.refl _ _⟩
  · have hb : ¬ (k : Int) ≤ 0 := by omega
    have HM : Hid (mt k = 109 :: dg (k + 1) k []) := by show _ = _; simp [mt, h0]
    clear h0
    go_enter Try.func69, Try.ntmps69
    go_wp2_with fail
    go_loopw [0, 3] (fun kk o wr => ∃ (n f : Nat) (acc : List UInt8), kk = .int .i64 n ∧ o = .string ⟨acc.toArray⟩ ∧ n < f ∧ n + acc.length ≤ 4611686018427387904 ∧ Below w.heap.size w wr ∧ Hid (dg f n acc = dg (k + 1) k [])) (fun kk _ _ => (intOf kk).toNat)
    case atStart => exact ⟨k, k + 1, [], rfl, rfl, by omega, by simpa using hk, Below.refl _ _, rfl⟩
    case round =>
      obtain ⟨n, f, acc, rfl, rfl, hf, hl, hbr, HD⟩ := hrel
      by_cases hn : 0 < n
      · obtain ⟨b, hbv⟩ : ∃ b : UInt8, b = UInt8.ofNat (48 + n % 10) := ⟨_, rfl⟩
        have hx : 48 + (n : Int) % 10 = ((b.toNat : Nat) : Int) := by
          have : b.toNat = 48 + n % 10 := by rw [hbv]; simp; omega
          rw [this]; omega
        have hcv := conv_byte wr wr.heap.size b (48 + (n : Int) % 10) hx rfl
        have HD2 : Hid (dg (f - 1) (n / 10) (b :: acc) = dg (k + 1) k []) := by show _ = _; rw [← HD.out, dg_step f n acc hn hf, hbv]
        have hdv : n / 10 < n := by omega
        have hla : acc.length ≤ 4611686018427387904 := by omega
        clear hbv hx
        go_wp2_with fail
        go_roundw
        case rel => exact ⟨n / 10, f - 1, b :: acc, by go_num, by rw [str_cons], by omega, by simp only [List.length_cons]; omega, hbr.alloc (by have := hbr.size; omega) _, HD2⟩
        case measure => simp [intOf]; omega
      · have hn0 : n = 0 := by omega
        subst hn0
        rw [dg_zero] at HD
        have hla : acc.length ≤ 4611686018427387904 := by omega
        go_wp2_with fail
        go_ret
        exact ⟨by rw [HM.out, ← HD.out]; exact congrArg Ending.returned (congrArg Value.string (str_cons 109 acc)), hbr⟩

end Go.Proofs.Ytdihgldfncjbpaa

/-
  Rows of names: held against each other; marked; and whether they still bear their marks.
-/
namespace Go.Proofs.Ytdihgldfncjbpaa
open Go.RowKit
set_option linter.unusedVariables false
set_option linter.unusedSimpArgs false

set_option maxRecDepth 100000 in
set_option maxHeartbeats 1000000 in
theorem eqStringS_any {base base' : Nat} (v u : Value) (P Q : List (List UInt8)) (w : World) (h : Toks base w v P) (k : Toks base' w u Q) (hl : P.length ≤ 100000) (hl2 : Q.length ≤ 100000) :
    Calls Try.prog 34 #[v, u] w fun e w' => e = .returned (.bool (decide (P = Q))) ∧ Below w.heap.size w w' := by
  obtain ⟨ao, cap, rfl⟩ := toks_form h
  obtain ⟨ao', cap', rfl⟩ := toks_form k
  by_cases hn : P.length = Q.length
  · have hne : ((P.length : Int) != (Q.length : Int)) = false := by simp [hn]
    have HL : Hid (P.length = Q.length) := hn
    clear hn
    go_enter Try.func34, Try.ntmps34
    go_wp2_with fail
    go_loopw [5] (fun i wr => ∃ j : Nat, j ≤ P.length ∧ i = .int .i64 j ∧ Below w.heap.size w wr ∧ Hid (P.take j = Q.take j)) (fun i _ => P.length - (intOf i).toNat)
    case atStart => exact ⟨0, by omega, rfl, Below.refl _ _, rfl⟩
    case round =>
      obtain ⟨j, hj, rfl, hbr, HN⟩ := hrel
      by_cases hlt : j < P.length
      · obtain ⟨g, cp, e, hg, hgw, hc⟩ := toks_at (toks_bel h hbr) j hlt
        obtain ⟨g', cp', e', hg', hgw', hc'⟩ := toks_at (toks_bel k hbr) j (by have := HL.out; omega)
        injection e with e1 e2 e3
        injection e' with f1 f2 f3
        subst e1 e3 f1 f3
        rw [Nat.zero_add] at hc hc'
        unfold tk at hc hc'
        have hlq : j < Q.length := by have := HL.out; omega
        by_cases he : P[j] = Q[j]
        · have HN2 : Hid (P.take (j + 1) = Q.take (j + 1)) := by show _ = _; rw [List.take_succ_eq_append_getElem hlt, List.take_succ_eq_append_getElem (by have := HL.out; omega), HN.out, he]
          have hb : ((⟨P[j].toArray⟩ : ByteArray).toList != (⟨Q[j].toArray⟩ : ByteArray).toList) = false := by rw [he]; simp
          have hb2 : ((⟨P[j].toArray⟩ : ByteArray).toList == (⟨Q[j].toArray⟩ : ByteArray).toList) = true := by rw [he]; simp
          generalize (⟨P[j].toArray⟩ : ByteArray) = z1 at *
          generalize (⟨Q[j].toArray⟩ : ByteArray) = z2 at *
          clear he
          go_wp2_with fail
          go_quiet (fail)
          go_wp2_with fail
          go_roundw
          case rel => exact ⟨j + 1, by omega, by go_num, below_drewN hbr _, HN2⟩
          case measure => simp [intOf]; omega
        · have HE : Hid (decide (P = Q) = false) := by show _ = _; rw [decide_eq_false_iff_not]; intro e; subst e; exact he rfl
          have hb : ((⟨P[j].toArray⟩ : ByteArray).toList != (⟨Q[j].toArray⟩ : ByteArray).toList) = true := by rw [tk_list, tk_list, bne_iff_ne]; exact he
          have hb2 : ((⟨P[j].toArray⟩ : ByteArray).toList == (⟨Q[j].toArray⟩ : ByteArray).toList) = false := by rw [tk_list, tk_list, beq_eq_false_iff_ne]; exact he
          generalize (⟨P[j].toArray⟩ : ByteArray) = z1 at *
          generalize (⟨Q[j].toArray⟩ : ByteArray) = z2 at *
          clear he
          go_wp2_with fail
          go_quiet (fail)
          go_wp2_with fail
          go_ret
          exact ⟨ret_bool HE.out.symm, below_drewN hbr _⟩
      · have HE : Hid (decide (P = Q) = true) := by
          show _ = _
          rw [decide_eq_true_eq]
          have := HN.out
          have h2 := HL.out
          rwa [List.take_of_length_le (by omega), List.take_of_length_le (by omega)] at this
        go_wp2_with fail
        go_ret
        exact ⟨ret_bool HE.out.symm, hbr⟩
  · have HE : Hid (decide (P = Q) = false) := by show _ = _; rw [decide_eq_false_iff_not]; intro e; exact hn (by rw [e])
    have hne : ((P.length : Int) != (Q.length : Int)) = true := by rw [bne_iff_ne]; omega
    clear hn
    go_enter Try.func34, Try.ntmps34
    go_wp2_with fail
    go_ret
    exact ⟨ret_bool HE.out.symm, Below.refl _ _⟩

end Go.Proofs.Ytdihgldfncjbpaa
