/-
  What the model's 'l18Put' comes to, in plain words.
-/
import Derived.Test.YtbdmdgghhefmcaaPfoZ30
import Derived.Test.YtbdmdgghhefmcaaPfoPf3
import Derived.Test.YtbdmdgghhefmcaaPfoZ35
import Derived.Test.YtbdmdgghhefmcaaPfoLcM
import Derived.Deep.CutBlock
import Derived.Test.YtbdmdgghhefmcaaPfoZ3
import Derived.Test.YtbdmdgghhefmcaaPfoZ14
import Derived.BigQuiet
import Derived.Deep.RegionWith
import Derived.Laws.IdiomStrings
namespace Go.Proofs.Ytbdmdgghhefmcaa
open Go.RowKit
set_option linter.unusedVariables false
set_option linter.unusedSimpArgs false

def spR (F : List (List UInt8)) (x : Tm) (qs : List Way9) (t : Tm) : Tm × Bool := if putOk F qs = true then (putF t qs x, true) else (zTm, false)
theorem spR_yes {F : List (List UInt8)} {x : Tm} {qs : List Way9} {t : Tm} (h : putOk F qs = true) : spR F x qs t = (putF t qs x, true) := by unfold spR; rw [if_pos h]
theorem spR_no {F : List (List UInt8)} {x : Tm} {qs : List Way9} {t : Tm} (h : putOk F qs = false) : spR F x qs t = (zTm, false) := by unfold spR; rw [if_neg (by rw [h]; simp)]
theorem putOk_cat {F : List (List UInt8)} {f : Nat → List Way9} : ∀ {n i : Nat}, i < n → putOk F (f i) = false → putOk F (catU f n) = false := by
  intro n
  induction n with
  | zero => intro i h; omega
  | succ n ih =>
    intro i hi h
    show putOk F (catU f n ++ f n) = false
    rw [putOk_app]
    by_cases e : i = n
    · subst e; rw [h, Bool.and_false]
    · rw [ih (show i < n by omega) h, Bool.false_and]
theorem freeAt_no {F : List (List UInt8)} {N : List (List UInt8)} {k : Nat} (hk : k < N.length) (h : N[k] ∈ F) : freeAt F ([], N) = false := by
  rw [Bool.eq_false_iff]
  intro h1
  unfold freeAt at h1
  have := List.all_eq_true.1 h1 _ h
  simp at this
theorem freeAt_yes {F : List (List UInt8)} {N : List (List UInt8)} (h : ∀ k (hk : k < N.length), ¬ N[k] ∈ F) : freeAt F ([], N) = true := by
  unfold freeAt
  rw [List.all_eq_true]
  intro n hn
  simp only [Bool.not_eq_true', decide_eq_false_iff_not]
  intro h1
  obtain ⟨k, hk, rfl⟩ := List.getElem_of_mem h1
  exact h k hk hn

theorem nest9_otherS (W : World) (r : Nat) (a0 a1 a2 a3 a4 a5 a6 a7 a8 : Value) (k : Nat) (hk : k ≠ r) : (((((((((W.setCell ⟨r, 0, none⟩ a0).setCell ⟨r, 1, none⟩ a1).setCell ⟨r, 2, none⟩ a2).setCell ⟨r, 3, none⟩ a3).setCell ⟨r, 4, none⟩ a4).setCell ⟨r, 5, none⟩ a5).setCell ⟨r, 6, none⟩ a6).setCell ⟨r, 7, none⟩ a7).setCell ⟨r, 8, none⟩ a8).heap[k]? = W.heap[k]? := by (repeat rw [row_other _ _ _ hk])
theorem nest9_belowS (W : World) (r : Nat) (a0 a1 a2 a3 a4 a5 a6 a7 a8 : Value) : Below r W (((((((((W.setCell ⟨r, 0, none⟩ a0).setCell ⟨r, 1, none⟩ a1).setCell ⟨r, 2, none⟩ a2).setCell ⟨r, 3, none⟩ a3).setCell ⟨r, 4, none⟩ a4).setCell ⟨r, 5, none⟩ a5).setCell ⟨r, 6, none⟩ a6).setCell ⟨r, 7, none⟩ a7).setCell ⟨r, 8, none⟩ a8) := set9_below (o := 0) (Below.refl _ _) (Nat.le_refl _)
theorem nest9_rowS {W : World} {r : Nat} {v0 v1 v2 v3 v4 v5 v6 v7 v8 : Value} {ty : TypeId} {fr : Nat × Nat} (h : W.heap[r]? = some (.cells #[v0, v1, v2, v3, v4, v5, v6, v7, v8] ty fr)) (a0 a1 a2 a3 a4 a5 a6 a7 a8 : Value) : (((((((((W.setCell ⟨r, 0, none⟩ a0).setCell ⟨r, 1, none⟩ a1).setCell ⟨r, 2, none⟩ a2).setCell ⟨r, 3, none⟩ a3).setCell ⟨r, 4, none⟩ a4).setCell ⟨r, 5, none⟩ a5).setCell ⟨r, 6, none⟩ a6).setCell ⟨r, 7, none⟩ a7).setCell ⟨r, 8, none⟩ a8).heap[r]? = some (.cells #[a0, a1, a2, a3, a4, a5, a6, a7, a8] ty fr) := by
  have e0 : (W.setCell ⟨r, 0, none⟩ a0).heap[r]? = some (.cells #[a0, v1, v2, v3, v4, v5, v6, v7, v8] ty fr) := by rw [row_set h]; rfl
  have e1 : ((W.setCell ⟨r, 0, none⟩ a0).setCell ⟨r, 1, none⟩ a1).heap[r]? = some (.cells #[a0, a1, v2, v3, v4, v5, v6, v7, v8] ty fr) := by rw [row_set e0]; rfl
  have e2 : (((W.setCell ⟨r, 0, none⟩ a0).setCell ⟨r, 1, none⟩ a1).setCell ⟨r, 2, none⟩ a2).heap[r]? = some (.cells #[a0, a1, a2, v3, v4, v5, v6, v7, v8] ty fr) := by rw [row_set e1]; rfl
  have e3 : ((((W.setCell ⟨r, 0, none⟩ a0).setCell ⟨r, 1, none⟩ a1).setCell ⟨r, 2, none⟩ a2).setCell ⟨r, 3, none⟩ a3).heap[r]? = some (.cells #[a0, a1, a2, a3, v4, v5, v6, v7, v8] ty fr) := by rw [row_set e2]; rfl
  have e4 : (((((W.setCell ⟨r, 0, none⟩ a0).setCell ⟨r, 1, none⟩ a1).setCell ⟨r, 2, none⟩ a2).setCell ⟨r, 3, none⟩ a3).setCell ⟨r, 4, none⟩ a4).heap[r]? = some (.cells #[a0, a1, a2, a3, a4, v5, v6, v7, v8] ty fr) := by rw [row_set e3]; rfl
  have e5 : ((((((W.setCell ⟨r, 0, none⟩ a0).setCell ⟨r, 1, none⟩ a1).setCell ⟨r, 2, none⟩ a2).setCell ⟨r, 3, none⟩ a3).setCell ⟨r, 4, none⟩ a4).setCell ⟨r, 5, none⟩ a5).heap[r]? = some (.cells #[a0, a1, a2, a3, a4, a5, v6, v7, v8] ty fr) := by rw [row_set e4]; rfl
  have e6 : (((((((W.setCell ⟨r, 0, none⟩ a0).setCell ⟨r, 1, none⟩ a1).setCell ⟨r, 2, none⟩ a2).setCell ⟨r, 3, none⟩ a3).setCell ⟨r, 4, none⟩ a4).setCell ⟨r, 5, none⟩ a5).setCell ⟨r, 6, none⟩ a6).heap[r]? = some (.cells #[a0, a1, a2, a3, a4, a5, a6, v7, v8] ty fr) := by rw [row_set e5]; rfl
  have e7 : ((((((((W.setCell ⟨r, 0, none⟩ a0).setCell ⟨r, 1, none⟩ a1).setCell ⟨r, 2, none⟩ a2).setCell ⟨r, 3, none⟩ a3).setCell ⟨r, 4, none⟩ a4).setCell ⟨r, 5, none⟩ a5).setCell ⟨r, 6, none⟩ a6).setCell ⟨r, 7, none⟩ a7).heap[r]? = some (.cells #[a0, a1, a2, a3, a4, a5, a6, a7, v8] ty fr) := by rw [row_set e6]; rfl
  have e8 : (((((((((W.setCell ⟨r, 0, none⟩ a0).setCell ⟨r, 1, none⟩ a1).setCell ⟨r, 2, none⟩ a2).setCell ⟨r, 3, none⟩ a3).setCell ⟨r, 4, none⟩ a4).setCell ⟨r, 5, none⟩ a5).setCell ⟨r, 6, none⟩ a6).setCell ⟨r, 7, none⟩ a7).setCell ⟨r, 8, none⟩ a8).heap[r]? = some (.cells #[a0, a1, a2, a3, a4, a5, a6, a7, a8] ty fr) := by rw [row_set e7]; rfl
  exact e8

def SaidSp (l : Nat) : Prop := ∀ (D d L B D0 d0 L0 B0 base : Nat) (t x : Tm) (a1 : Option Addr) (l1 c1 : Nat) (a2 : Option Addr) (l2 c2 : Nat) (a3 : Option Addr) (l3 c3 : Nat) (b1 : Option Addr) (m1 e1 : Nat) (b2 : Option Addr) (m2 e2 : Nat) (b3 : Option Addr) (m3 e3 : Nat) (m : Nat) (s : ByteArray) (F : List (List UInt8)) (fo : Option Addr) (fn fc : Nat) (w : World), B ≤ w.heap.size → B0 ≤ w.heap.size →
    Fm L B w D d t a1 l1 a2 l2 a3 l3 → Fm L0 B0 w D0 d0 x b1 m1 b2 m2 b3 m3 → nodesM l t = some m → m ≤ 1000 → cntM t ≤ 1048576 → cntM x ≤ 1048576 → Toks base w (.slice fo fn fc) F → F.length ≤ 100000 →
    Calls Try.prog 27 #[.agg #[.int .i64 t.K, .int .i64 t.N, .string t.S, .string t.Z, .int .i64 t.T.K, .int .i64 t.T.N, .slice a1 l1 c1, .slice a2 l2 c2, .slice a3 l3 c3], .string s, .agg #[.int .i64 x.K, .int .i64 x.N, .string x.S, .string x.Z, .int .i64 x.T.K, .int .i64 x.T.N, .slice b1 m1 e1, .slice b2 m2 e2, .slice b3 m3 e3], .slice fo fn fc] w fun e w' => PutE w w' e (spR F x (usesP (bs s) l t) t)

end Go.Proofs.Ytbdmdgghhefmcaa

/-
  Rows of names: held against each other; marked; and whether they still bear their marks.
-/
namespace Go.Proofs.Ytbdmdgghhefmcaa
open Go.RowKit
set_option linter.unusedVariables false
set_option linter.unusedSimpArgs false

theorem below_drewN {B : Nat} {w wr : World} (h : Below B w wr) (n : Nat) : Below B w (wr.drewN n) := ⟨h.os, h.tape, h.output, h.size, h.block⟩

/-- Digits of n ahead of acc. -/
def dg : Nat → Nat → List UInt8 → List UInt8
  | 0, _, acc => acc
  | f + 1, n, acc => if n = 0 then acc else dg f (n / 10) (UInt8.ofNat (48 + n % 10) :: acc)
theorem dg_zero (f : Nat) (acc : List UInt8) : dg f 0 acc = acc := by cases f <;> simp [dg]
theorem dg_step (f n : Nat) (acc : List UInt8) (h : 0 < n) (hf : n < f) : dg f n acc = dg (f - 1) (n / 10) (UInt8.ofNat (48 + n % 10) :: acc) := by
  cases f with
  | zero => omega
  | succ f => simp [dg]; intro e; omega

/-- The text of a mark. -/
def mt (k : Nat) : List UInt8 := if k = 0 then [109, 48] else 109 :: dg (k + 1) k []

theorem conv_byte (w : World) (g : Nat) (b : UInt8) (x : Int) (hx : x = (b.toNat : Int)) (hg : g = w.heap.size) : (convert 88 9 (.slice (some ⟨g, 0, none⟩) 1 1)).run Try.prog (w.alloc (.cells #[.int .u8 x] 5)) = .ok (.string ⟨#[b]⟩) (w.alloc (.cells #[.int .u8 x] 5)) := by
  refine run_convert_bytes_back _ _ _ _ ⟨g, 0, none⟩ 1 [b] Try.underlying88 Try.underlying5 Try.underlying9 ?_
  intro j hj
  have hj0 : j = 0 := by simpa using hj
  subst hj0
  show (w.alloc _).cell? ⟨g, 0, none⟩ = _
  rw [row_cell (heap_new hg), hx]
  rfl

theorem str_cons (b : UInt8) (a : List UInt8) : (⟨#[b]⟩ : ByteArray) ++ ⟨a.toArray⟩ = ⟨(b :: a).toArray⟩ := by
  apply ByteArray.ext
  simp

set_option maxRecDepth 100000 in
set_option maxHeartbeats 1000000 in
theorem markText_any (k : Nat) (hk : k ≤ 4611686018427387904) (w : World) : Calls Try.prog 47 #[.int .i64 k] w fun e w' => e = .returned (tk (mt k)) ∧ Below w.heap.size w w' := by
  by_cases h0 : k = 0
  · subst h0
    go_enter Try.func47, Try.ntmps47
    go_wp2_with fail
    go_ret
    exact ⟨rfl, Below.refl _ _⟩
  · have hb : ¬ (k : Int) ≤ 0 := by omega
    have HM : Hid (mt k = 109 :: dg (k + 1) k []) := by show _ = _; simp [mt, h0]
    clear h0
    go_enter Try.func47, Try.ntmps47
    go_wp2_with fail
    go_loopw [0, 3] (fun kk o wr => ∃ (n f : Nat) (acc : List UInt8), kk = .int .i64 n ∧ o = .string ⟨acc.toArray⟩ ∧ n < f ∧ n + acc.length ≤ 4611686018427387904 ∧ Below w.heap.size w wr ∧ Hid (dg f n acc = dg (k + 1) k [])) (fun kk _ _ => (intOf kk).toNat)
    case atStart => exact ⟨k, k + 1, [], rfl, rfl, by omega, by simpa using hk, Below.refl _ _, rfl⟩
    case round =>
      obtain ⟨n, f, acc, rfl, rfl, hf, hl, hbr, HD⟩ := hrel
      by_cases hn : 0 < n
      · obtain ⟨b, hbv⟩ : ∃ b : UInt8, b = UInt8.ofNat (48 + n % 10) := ⟨_, rfl⟩
        have hx : 48 + (n : Int) % 10 = ((b.toNat : Nat) : Int) := by
          have : b.toNat = 48 + n % 10 := by rw [hbv]; simp; omega
          rw [this]; omega
        have hcv := conv_byte wr wr.heap.size b (48 + (n : Int) % 10) hx rfl
        have HD2 : Hid (dg (f - 1) (n / 10) (b :: acc) = dg (k + 1) k []) := by show _ = _; rw [← HD.out, dg_step f n acc hn hf, hbv]
        have hdv : n / 10 < n := by omega
        have hla : acc.length ≤ 4611686018427387904 := by omega
        clear hbv hx
        go_wp2_with fail
        go_roundw
        case rel => exact ⟨n / 10, f - 1, b :: acc, by go_num, by rw [str_cons], by omega, by simp only [List.length_cons]; omega, hbr.alloc (by have := hbr.size; omega) _, HD2⟩
        case measure => simp [intOf]; omega
      · have hn0 : n = 0 := by omega
        subst hn0
        rw [dg_zero] at HD
        have hla : acc.length ≤ 4611686018427387904 := by omega
        go_wp2_with fail
        go_ret
        exact ⟨by rw [HM.out, ← HD.out]; exact congrArg Ending.returned (congrArg Value.string (str_cons 109 acc)), hbr⟩

end Go.Proofs.Ytbdmdgghhefmcaa
