/-
  What the model's 'Beta' comes to.
-/
import Derived.Test.YtcepgedbmffkdaaGreatFbtZ30
import Derived.Test.YtcepgedbmffkdaaGreatFbtBt2
import Derived.Test.YtcepgedbmffkdaaGreatFbtZ24
import Derived.Lib.Join
import Derived.Test.YtcepgedbmffkdaaGreatFbtZ1
import Derived.Test.YtcepgedbmffkdaaGreatFbtZ3
import Derived.Test.YtcepgedbmffkdaaGreatFbtZ17
import Derived.Lib.ItoaLen
import Derived.Test.YtcepgedbmffkdaaGreatFbtZ2
import Derived.Test.YtcepgedbmffkdaaGreatFbtZ9
import Derived.BigQuiet
import Derived.Deep.RegionWith
import Derived.Laws.IdiomStrings
namespace Go.Proofs.YtcepgedbmffkdaaGreat
open Go.RowKit
set_option linter.unusedVariables false
set_option linter.unusedSimpArgs false

set_option maxRecDepth 100000 in
set_option maxHeartbeats 16000000 in
theorem sBeta_any (SP : ∀ l, SaidSput l) (D d L B : Nat) (t : Tm) (a1 : Option Addr) (l1 c1 : Nat) (a2 : Option Addr) (l2 c2 : Nat) (a3 : Option Addr) (l3 c3 : Nat) (w : World) (hB : B ≤ w.heap.size) (hf : Fm L B w D d t a1 l1 a2 l2 a3 l3) (hct : cntM t ≤ 1048576) :
    Calls Tryz.prog 6 #[.agg #[.int .i64 t.K, .int .i64 t.N, .string t.S, .string t.Z, .int .i64 t.T.K, .int .i64 t.T.N, .slice a1 l1 c1, .slice a2 l2 c2, .slice a3 l3 c3]] w fun e w' => PutE w w' e (betaT t) := by
  obtain ⟨X, hX⟩ : ∃ X, X = (w.alloc (.cells #[.int .i64 t.K, .int .i64 t.N, .string t.S, .string t.Z, .int .i64 t.T.K, .int .i64 t.T.N, .slice a1 l1 c1, .slice a2 l2 c2, .slice a3 l3 c3] 34)).alloc (.cells #[.int .i64 0, .int .i64 0, .string ⟨#[]⟩, .string ⟨#[]⟩, .int .i64 0, .int .i64 0, .slice none 0 0, .slice none 0 0, .slice none 0 0] 34) := ⟨_, rfl⟩
  have hXs : X.heap.size = w.heap.size + 2 := by rw [hX]; simp
  have hXb : Below w.heap.size w X := by rw [hX]; exact ((Below.refl _ _).alloc (Nat.le_refl _) _).alloc (by simp) _
  have hX0 : X.heap[w.heap.size]? = some (.cells #[.int .i64 t.K, .int .i64 t.N, .string t.S, .string t.Z, .int .i64 t.T.K, .int .i64 t.T.N, .slice a1 l1 c1, .slice a2 l2 c2, .slice a3 l3 c3] 34 (0, 0)) := by rw [hX, Below.heap_alloc _ _ _ (by simp)]; exact heap_new rfl
  have hX1 : X.heap[w.heap.size + 1]? = some (.cells #[.int .i64 0, .int .i64 0, .string ⟨#[]⟩, .string ⟨#[]⟩, .int .i64 0, .int .i64 0, .slice none 0 0, .slice none 0 0, .slice none 0 0] 34 (0, 0)) := by rw [hX]; exact heap_new (by simp)
  have HX : Hid (X = _) := hX
  clear hX
  have hBX : B ≤ X.heap.size := by omega
  have hfX := Fm.below hXb hB hf
  obtain ⟨x0, x1, x2, x3, x4, x5, x6, x7, x8⟩ := Nine.box hX0
  have K1 := sReady_any D d L B t a1 l1 c1 a2 l2 c2 a3 l3 c3 X hBX hfX
  obtain ⟨rd, hrd⟩ : ∃ rd, rdyM t = rd := ⟨_, rfl⟩
  rw [hrd] at K1
  have HRD : Hid (rdyM t = rd) := hrd
  go_enter Tryz.func6, Tryz.ntmps6
  go_upto_region 1 with fail
  rw [← HX.out]
  go_wp2_with fail
  refine K1.mono ?_
  rintro e w1 ⟨rfl, hb1⟩
  have z1 := hb1.size
  clear K1 x0 x1 x2 x3 x4 x5 x6 x7 x8 hrd
  cases rd with
  | false =>
    have rr := (hb1.block (w.heap.size + 1) (by omega)).trans hX1
    obtain ⟨y0, y1, y2, y3, y4, y5, y6, y7, y8⟩ := Nine.box rr
    have yf := row_free rr
    have HFIN : Hid (PutE w (((((((((w1.setCell ⟨w.heap.size + 1, 0, none⟩ (.int .i64 0)).setCell ⟨w.heap.size + 1, 1, none⟩ (.int .i64 0)).setCell ⟨w.heap.size + 1, 2, none⟩ (.string ⟨#[]⟩)).setCell ⟨w.heap.size + 1, 3, none⟩ (.string ⟨#[]⟩)).setCell ⟨w.heap.size + 1, 4, none⟩ (.int .i64 0)).setCell ⟨w.heap.size + 1, 5, none⟩ (.int .i64 0)).setCell ⟨w.heap.size + 1, 6, none⟩ (.slice none 0 0)).setCell ⟨w.heap.size + 1, 7, none⟩ (.slice none 0 0)).setCell ⟨w.heap.size + 1, 8, none⟩ (.slice none 0 0)) (.returned (.tuple #[.agg #[.int .i64 0, .int .i64 0, .string ⟨#[]⟩, .string ⟨#[]⟩, .int .i64 0, .int .i64 0, .slice none 0 0, .slice none 0 0, .slice none 0 0], .bool false])) (betaT t)) := by
      show PutE _ _ _ _
      rw [betaT_not HRD.out]
      exact put_none (hXb.trans (hb1.mono (by omega))) (by omega) rr
    go_wp2_with fail
    (try simp only [Exit.inBlock, Exit.then]); refine bodyPost_ret (v := .tuple #[.agg #[.int .i64 0, .int .i64 0, .string ⟨#[]⟩, .string ⟨#[]⟩, .int .i64 0, .int .i64 0, .slice none 0 0, .slice none 0 0, .slice none 0 0], .bool false]) (by simp [results, Tryz.results6, go_sem, y0, y1, y2, y3, y4, y5, y6, y7, y8]) rfl ?_
    exact HFIN.out
  | true =>
    obtain ⟨n, hn, hn2⟩ := okM_some (rdyM_ok HRD.out)
    have KB := sbeta_any SP 24 D d L B t a1 l1 c1 a2 l2 c2 a3 l3 c3 n n w1 (by omega) (Fm.below hb1 hBX hfX) hn hn (by omega) hct
    obtain ⟨R, hR⟩ : ∃ R, betaM 24 t = R := ⟨_, rfl⟩
    rw [hR] at KB
    have HR : Hid (betaM 24 t = R) := hR
    obtain ⟨P, ok⟩ := R
    have rt := (hb1.block w.heap.size (by omega)).trans hX0
    obtain ⟨x0, x1, x2, x3, x4, x5, x6, x7, x8⟩ := Nine.box rt
    clear hR
    go_wp2_with fail
    refine KB.mono ?_
    rintro e w2 ⟨D6, d6, za, la, ca, zb, lb, cb, zc, lc, cc, rfl, hb2, hO2⟩
    have z2 := hb2.size
    clear KB x0 x1 x2 x3 x4 x5 x6 x7 x8
    obtain ⟨Y, hY⟩ : ∃ Y, Y = w2.alloc (.cells #[.int .i64 P.K, .int .i64 P.N, .string P.S, .string P.Z, .int .i64 P.T.K, .int .i64 P.T.N, .slice za la ca, .slice zb lb cb, .slice zc lc cc] 34) := ⟨_, rfl⟩
    have hYb : Below w2.heap.size w2 Y := by rw [hY]; exact (Below.refl _ _).alloc (Nat.le_refl _) _
    have hYs : Y.heap.size = w2.heap.size + 1 := by rw [hY]; simp
    have hY0 : Y.heap[w2.heap.size]? = some (.cells #[.int .i64 P.K, .int .i64 P.N, .string P.S, .string P.Z, .int .i64 P.T.K, .int .i64 P.T.N, .slice za la ca, .slice zb lb cb, .slice zc lc cc] 34 (0, 0)) := by rw [hY]; exact heap_new rfl
    have HY : Hid (Y = _) := hY
    clear hY
    have hYX : Below X.heap.size X Y := hb1.trans ((hb2.trans (hYb.mono z2)).mono z1)
    have hYw : Below w.heap.size w Y := hXb.trans (hYX.mono (by omega))
    cases ok with
    | false =>
      have KC := lm_any D d L B t a1 l1 c1 a2 l2 c2 a3 l3 c3 Y (by have := (hYX).size; omega) (Fm.below hYX hBX hfX) hct
      have rt := (hYX).block w.heap.size (by omega) |>.trans hX0
      obtain ⟨x0, x1, x2, x3, x4, x5, x6, x7, x8⟩ := Nine.box rt
      go_upto_region 4 with fail
      rw [← HY.out]
      go_wp2_with fail
      refine KC.mono ?_
      rintro e w9 ⟨r1, s1, v1, r2, v2, r3, v3, rfl, hb9, hO9⟩
      have z9 := hb9.size
      have hwz := (hYX).size
      have rr := (hb9.block (w.heap.size + 1) (by omega)).trans ((hYX).block (w.heap.size + 1) (by omega) |>.trans hX1)
      obtain ⟨y0, y1, y2, y3, y4, y5, y6, y7, y8⟩ := Nine.box rr
      have yf := row_free rr
      have HFIN : Hid (PutE w (set9 w9 (w.heap.size + 1) 0 (.int .i64 t.K) (.int .i64 t.N) (.string t.S) (.string t.Z) (.int .i64 t.T.K) (.int .i64 t.T.N) (.slice r1 s1 v1) (.slice r2 l2 v2) (.slice r3 l3 v3)) (.returned (.tuple #[.agg #[.int .i64 t.K, .int .i64 t.N, .string t.S, .string t.Z, .int .i64 t.T.K, .int .i64 t.T.N, .slice r1 s1 v1, .slice r2 l2 v2, .slice r3 l3 v3], .bool false])) (betaT t)) := by
        obtain ⟨bn, hfO, hnd, hrg⟩ := hO9
        exact put_finP ((hYw).trans (hb9.mono (by omega))) (by omega) hfO hnd (fun g hg => by have := hrg g hg; omega) (betaT_no HRD.out (by rw [HR.out])) _ rfl
      clear x0 x1 x2 x3 x4 x5 x6 x7 x8 KC hO9
      go_wp2_with fail
      (try simp only [Exit.inBlock, Exit.then]); refine bodyPost_ret (v := .tuple #[.agg #[.int .i64 t.K, .int .i64 t.N, .string t.S, .string t.Z, .int .i64 t.T.K, .int .i64 t.T.N, .slice r1 s1 v1, .slice r2 l2 v2, .slice r3 l3 v3], .bool false]) (by simp [results, Tryz.results6, go_sem, y0, y1, y2, y3, y4, y5, y6, y7, y8]) rfl ?_
      exact HFIN.out
    | true =>
      obtain ⟨bn, hfO, hnd, hrg⟩ := hO2
      have hfY := FldO.keep (fun k hk => hYb.block k (hrg k hk).2) hfO
      have KT := sTermOk_any D6 d6 0 w2.heap.size P za la ca zb lb cb zc lc cc Y (by omega) (FmO.fm ⟨bn, hfY, hnd, fun k hk => ⟨by omega, (hrg k hk).2⟩⟩)
      obtain ⟨oT, hoT⟩ : ∃ oT, okM P = oT := ⟨_, rfl⟩
      rw [hoT] at KT
      have HOT : Hid (okM P = oT) := hoT
      obtain ⟨q0, q1, q2, q3, q4, q5, q6, q7, q8⟩ := Nine.box hY0
      clear hoT
      go_upto_region 4 with fail
      rw [← HY.out]
      go_wp2_with fail
      refine KT.mono ?_
      rintro e w3 ⟨rfl, hb3⟩
      have z3 := hb3.size
      have h3X : Below X.heap.size X w3 := hYX.trans (hb3.mono (by omega))
      have h3w : Below w.heap.size w w3 := hYw.trans (hb3.mono (by omega))
      clear KT q0 q1 q2 q3 q4 q5 q6 q7 q8
      cases oT with
      | false =>
        have KC := lm_any D d L B t a1 l1 c1 a2 l2 c2 a3 l3 c3 w3 (by have := (h3X).size; omega) (Fm.below h3X hBX hfX) hct
        have rt := (h3X).block w.heap.size (by omega) |>.trans hX0
        obtain ⟨x0, x1, x2, x3, x4, x5, x6, x7, x8⟩ := Nine.box rt
        go_wp2_with fail
        refine KC.mono ?_
        rintro e w9 ⟨r1, s1, v1, r2, v2, r3, v3, rfl, hb9, hO9⟩
        have z9 := hb9.size
        have hwz := (h3X).size
        have rr := (hb9.block (w.heap.size + 1) (by omega)).trans ((h3X).block (w.heap.size + 1) (by omega) |>.trans hX1)
        obtain ⟨y0, y1, y2, y3, y4, y5, y6, y7, y8⟩ := Nine.box rr
        have yf := row_free rr
        have HFIN : Hid (PutE w (set9 w9 (w.heap.size + 1) 0 (.int .i64 t.K) (.int .i64 t.N) (.string t.S) (.string t.Z) (.int .i64 t.T.K) (.int .i64 t.T.N) (.slice r1 s1 v1) (.slice r2 l2 v2) (.slice r3 l3 v3)) (.returned (.tuple #[.agg #[.int .i64 t.K, .int .i64 t.N, .string t.S, .string t.Z, .int .i64 t.T.K, .int .i64 t.T.N, .slice r1 s1 v1, .slice r2 l2 v2, .slice r3 l3 v3], .bool false])) (betaT t)) := by
          obtain ⟨bn, hfO, hnd, hrg⟩ := hO9
          exact put_finP ((h3w).trans (hb9.mono (by omega))) (by omega) hfO hnd (fun g hg => by have := hrg g hg; omega) (betaT_big HRD.out (by rw [HR.out]; exact HOT.out)) _ rfl
        clear x0 x1 x2 x3 x4 x5 x6 x7 x8 KC hO9
        go_wp2_with fail
        (try simp only [Exit.inBlock, Exit.then]); refine bodyPost_ret (v := .tuple #[.agg #[.int .i64 t.K, .int .i64 t.N, .string t.S, .string t.Z, .int .i64 t.T.K, .int .i64 t.T.N, .slice r1 s1 v1, .slice r2 l2 v2, .slice r3 l3 v3], .bool false]) (by simp [results, Tryz.results6, go_sem, y0, y1, y2, y3, y4, y5, y6, y7, y8]) rfl ?_
        exact HFIN.out
      | true =>
        have rr := (h3X.block (w.heap.size + 1) (by omega)).trans hX1
        obtain ⟨y0, y1, y2, y3, y4, y5, y6, y7, y8⟩ := Nine.box rr
        have yf := row_free rr
        obtain ⟨q0, q1, q2, q3, q4, q5, q6, q7, q8⟩ := Nine.box ((hb3.block w2.heap.size (by omega)).trans hY0)
        have HFIN : Hid (PutE w (set9 w3 (w.heap.size + 1) 0 (.int .i64 P.K) (.int .i64 P.N) (.string P.S) (.string P.Z) (.int .i64 P.T.K) (.int .i64 P.T.N) (.slice za la ca) (.slice zb lb cb) (.slice zc lc cc)) (.returned (.tuple #[.agg #[.int .i64 P.K, .int .i64 P.N, .string P.S, .string P.Z, .int .i64 P.T.K, .int .i64 P.T.N, .slice za la ca, .slice zb lb cb, .slice zc lc cc], .bool true])) (betaT t)) :=
          put_finP h3w (by omega) (FldO.keep (fun k hk => hb3.block k (by have := hrg k hk; omega)) hfY) hnd (fun g hg => by have := hrg g hg; omega) (by rw [betaT_yes HRD.out (by rw [HR.out]) (by rw [HR.out]; exact HOT.out), HR.out]) _ rfl
        clear hfO hnd hrg hfY
        go_wp2_with fail
        (try simp only [Exit.inBlock, Exit.then]); refine bodyPost_ret (v := .tuple #[.agg #[.int .i64 P.K, .int .i64 P.N, .string P.S, .string P.Z, .int .i64 P.T.K, .int .i64 P.T.N, .slice za la ca, .slice zb lb cb, .slice zc lc cc], .bool true]) (by simp [results, Tryz.results6, go_sem, y0, y1, y2, y3, y4, y5, y6, y7, y8]) rfl ?_
        exact HFIN.out

end Go.Proofs.YtcepgedbmffkdaaGreat

/-
  The tokens and the text of a type, in plain words: no walk, no statement.
-/
namespace Go.Proofs.YtcepgedbmffkdaaGreat
open Go.RowKit
set_option linter.unusedVariables false
set_option linter.unusedSimpArgs false

theorem okT_le {t : Tr} (h : okT t = true) : ∃ m, nodesW 6 t = some m ∧ m ≤ 60 := by
  cases hm : nodesW 6 t with
  | none => simp [okT, nodesT, hm] at h
  | some m =>
    refine ⟨m, rfl, ?_⟩
    by_cases h6 : m ≤ 60
    · exact h6
    · simp [okT, nodesT, hm, h6] at h

end Go.Proofs.YtcepgedbmffkdaaGreat

/-
  The tokens and the text of a term, in plain words: no walk, no statement.
-/
namespace Go.Proofs.YtcepgedbmffkdaaGreat
open Go.RowKit
set_option linter.unusedVariables false
set_option linter.unusedSimpArgs false

def sb (s : ByteArray) : List UInt8 := s.data.toList
/-- What a right node is, its kind aside. -/
structure NodeIs (t : Tm) : Prop where
  k1 : 1 ≤ t.K
  k17 : t.K ≤ 17
  n1 : shL t.K ≤ t.N
  n2 : t.N ≤ shM t.K
  a : (t.A.length : Int) = shP t.K
  nm : namesB (shN t.K) t.S t.Z = true
  ty : shT t.K = true → okT t.T = true
  zt : shT t.K = false → t.T.K = 0
  ts : (t.Ts.length : Int) ≤ shS t.K
  each : ∀ x ∈ t.Ts, okT x = true

theorem NodeIs.of {t : Tm} (h : nodeM t = true) : NodeIs t := by
  simp only [nodeM, Bool.and_eq_true, decide_eq_true_eq, kOk, typesB] at h
  obtain ⟨⟨⟨⟨⟨hk, hn⟩, ha⟩, _⟩, hnm⟩, ⟨hty, hts⟩, heach⟩ := h
  refine ⟨hk.1, hk.2, hn.1, hn.2, ha, hnm, fun hs => ?_, fun hs => ?_, hts, fun x hx => List.all_eq_true.1 heach x hx⟩
  · rw [if_pos hs] at hty; exact hty
  · rw [if_neg (by simp [hs])] at hty
    simp only [zeroT, Bool.and_eq_true, beq_iff_eq] at hty
    exact hty.1.1

theorem nameW_sz {s : ByteArray} (h : nameW s = true) : 1 ≤ s.size ∧ s.size ≤ 8 := by
  simp only [nameW, Bool.and_eq_true, decide_eq_true_eq] at h
  exact ⟨h.1.1.1, h.1.1.2⟩

/-- The names of a right node have eight bytes at most. -/
theorem NodeIs.names {t : Tm} (h : NodeIs t) : t.S.size ≤ 8 ∧ t.Z.size ≤ 8 := by
  have h1 := h.nm
  have hz : ∀ s : ByteArray, isNil s = true → s.size ≤ 8 := fun s hs => by
    rw [isNil_size] at hs
    have := of_decide_eq_true hs
    omega
  unfold namesB at h1
  split at h1
  · simp only [Bool.and_eq_true] at h1; exact ⟨hz _ h1.1, hz _ h1.2⟩
  · split at h1
    · simp only [Bool.and_eq_true] at h1; exact ⟨(nameW_sz h1.1).2, hz _ h1.2⟩
    · simp only [Bool.and_eq_true] at h1; exact ⟨(nameW_sz h1.1.1).2, (nameW_sz h1.1.2).2⟩

theorem all_nil {n : Nat} : ∀ x ∈ ([] : List (List UInt8)), x.length ≤ n := fun x hx => by cases hx
theorem all_cons {y : List UInt8} {a : List (List UInt8)} {n : Nat} (hy : y.length ≤ n) (ha : ∀ x ∈ a, x.length ≤ n) : ∀ x ∈ y :: a, x.length ≤ n := fun x hx => by
  rcases List.mem_cons.1 hx with rfl | hx
  · exact hy
  · exact ha x hx
theorem nodesM_inv2 {l : Nat} {t : Tm} {m : Nat} (h : nodesM (l + 1) t = some m) : NodeIs t ∧ (∃ b, nodesG (nodesM l) t.A = some b ∧ m = 1 + b) := by
  simp only [nodesM] at h
  cases hn : nodeM t with
  | false => simp [hn] at h
  | true =>
    refine ⟨NodeIs.of hn, ?_⟩
    simp only [hn, if_true] at h
    cases hz : nodesG (nodesM l) t.A with
    | none => simp [hz] at h
    | some b => simp [hz] at h; exact ⟨b, rfl, h.symm⟩

end Go.Proofs.YtcepgedbmffkdaaGreat

/-
  How much a right term is of: no walk.
-/
namespace Go.Proofs.YtcepgedbmffkdaaGreat
open Go.RowKit Go.PlainAid
set_option linter.unusedVariables false
set_option linter.unusedSimpArgs false

theorem nodes_cntW : ∀ (l : Nat) (t : Tr) (m : Nat), nodesW l t = some m → cnt t = m := by
  intro l
  induction l with
  | zero => intro t m h; simp [nodesW] at h
  | succ l ih =>
    intro t m h
    simp only [nodesW] at h
    split at h
    · cases h1 : nodesL (nodesW l) t.A with
      | none => simp [h1] at h
      | some s =>
        simp [h1] at h
        have key : ∀ (ts : List Tr) (s : Nat), nodesL (nodesW l) ts = some s → cntS ts = s := by
          intro ts
          induction ts with
          | nil => intro s hs; simp [nodesL] at hs; simp [cntS]; omega
          | cons x ts ihl =>
            intro s hs
            simp only [nodesL] at hs
            cases hx : nodesW l x with
            | none => simp [hx] at hs
            | some a =>
              cases hy : nodesL (nodesW l) ts with
              | none => simp [hx, hy] at hs
              | some b =>
                simp [hx, hy] at hs
                have h2 := ihl b hy
                have h3 := ih x a hx
                simp only [cntS, List.map_cons, List.sum_cons] at *
                omega
        rw [cnt_eq, key _ _ h1]
        omega
    · simp at h

theorem okT_cnt {t : Tr} (h : okT t = true) : cnt t ≤ 60 := by
  obtain ⟨m, hm, h6⟩ := okT_le h
  rw [nodes_cntW _ _ _ hm]
  exact h6
theorem tys_cnt : ∀ (ts : List Tr), (∀ x ∈ ts, okT x = true) → cntS ts ≤ 60 * ts.length
  | [], _ => by simp [cntS]
  | x :: ts, h => by
    have h1 := okT_cnt (h x (by simp))
    have h2 := tys_cnt ts fun y hy => h y (by simp [hy])
    simp only [cntS, List.map_cons, List.sum_cons, List.length_cons] at *
    omega

theorem nodesM_cnt : ∀ (l : Nat) (t : Tm) (m : Nat), nodesM l t = some m → cntM t ≤ 200 * m := by
  intro l
  induction l with
  | zero => intro t m h; simp [nodesM] at h
  | succ l ih =>
    intro t m h
    have hnd := (nodesM_inv h).1
    obtain ⟨hn, b, hb, rfl⟩ := nodesM_inv2 h
    have hnm := hn.names
    have hT : cntS t.T.A ≤ 60 := by
      by_cases hs : shT t.K = true
      · have h1 := okT_cnt (hn.ty hs)
        rw [cnt_eq] at h1
        omega
      · have hz := hnd
        unfold nodeM at hz
        simp only [Bool.and_eq_true] at hz
        have hz1 := hz.2
        unfold typesB at hz1
        simp only [Bool.and_eq_true] at hz1
        have hz2 := hz1.1.1
        rw [if_neg hs] at hz2
        unfold zeroT at hz2
        simp only [Bool.and_eq_true, beq_iff_eq] at hz2
        have : t.T.A = [] := List.length_eq_zero_iff.1 (by have := hz2.2; omega)
        rw [this]; simp [cntS]
    have hTs := tys_cnt t.Ts hn.each
    have h2 : t.Ts.length ≤ 2 := by have := hn.ts; have := (shS_bd t.K).2; omega
    have hA := nodeM_len hnd
    have hsub : ∀ (ys : List Tm) (s : Nat), nodesG (nodesM l) ys = some s → subMS ys ≤ 200 * s := by
      intro ys
      induction ys with
      | nil => intro s hs; simp [subMS]
      | cons y ys ihy =>
        intro s hs
        simp only [nodesG] at hs
        cases hy : nodesM l y with
        | none => simp [hy] at hs
        | some a =>
          cases hz : nodesG (nodesM l) ys with
          | none => simp [hy, hz] at hs
          | some c =>
            simp [hy, hz] at hs
            have e1 := ih y a hy
            have e2 := ihy c hz
            simp only [subMS, List.map_cons, List.sum_cons] at *
            omega
    have h3 := hsub _ _ hb
    have h4 := cntM_eq t
    have h5 := cntMS_eq t.A
    have h6 : ownM t = t.S.size + t.Z.size + cntS t.T.A + cntS t.Ts := rfl
    omega

end Go.Proofs.YtcepgedbmffkdaaGreat

/-
  Rows of names: held against each other; marked; and whether they still bear their marks.
-/
namespace Go.Proofs.YtcepgedbmffkdaaGreat
open Go.RowKit
set_option linter.unusedVariables false
set_option linter.unusedSimpArgs false

theorem below_drewN {B : Nat} {w wr : World} (h : Below B w wr) (n : Nat) : Below B w (wr.drewN n) := ⟨h.os, h.tape, h.output, h.size, h.block⟩

/-- Digits of n ahead of acc. -/
def dg : Nat → Nat → List UInt8 → List UInt8
  | 0, _, acc => acc
  | f + 1, n, acc => if n = 0 then acc else dg f (n / 10) (UInt8.ofNat (48 + n % 10) :: acc)
theorem dg_zero (f : Nat) (acc : List UInt8) : dg f 0 acc = acc := by cases f <;> simp [dg]
theorem dg_step (f n : Nat) (acc : List UInt8) (h : 0 < n) (hf : n < f) : dg f n acc = dg (f - 1) (n / 10) (UInt8.ofNat (48 + n % 10) :: acc) := by
  cases f with
  | zero => omega
  | succ f => simp [dg]; intro e; omega

/-- The text of a mark. -/
def mt (k : Nat) : List UInt8 := if k = 0 then [109, 48] else 109 :: dg (k + 1) k []

theorem conv_byte (w : World) (g : Nat) (b : UInt8) (x : Int) (hx : x = (b.toNat : Int)) (hg : g = w.heap.size) : (convert 138 9 (.slice (some ⟨g, 0, none⟩) 1 1)).run Tryz.prog (w.alloc (.cells #[.int .u8 x] 5)) = .ok (.string ⟨#[b]⟩) (w.alloc (.cells #[.int .u8 x] 5)) := by
  refine run_convert_bytes_back _ _ _ _ ⟨g, 0, none⟩ 1 [b] Tryz.underlying138 Tryz.underlying5 Tryz.underlying9 ?_
  intro j hj
  have hj0 : j = 0 := by simpa using hj
  subst hj0
  show (w.alloc _).cell? ⟨g, 0, none⟩ = _
  rw [row_cell (heap_new hg), hx]
  rfl

theorem str_cons (b : UInt8) (a : List UInt8) : (⟨#[b]⟩ : ByteArray) ++ ⟨a.toArray⟩ = ⟨(b :: a).toArray⟩ := by
  apply ByteArray.ext
  simp

set_option maxRecDepth 100000 in
set_option maxHeartbeats 1000000 in
theorem markText_any (k : Nat) (hk : k ≤ 4611686018427387904) (w : World) : Calls Tryz.prog 54 #[.int .i64 k] w fun e w' => e = .returned (tk (mt k)) ∧ Below w.heap.size w w' := by
  by_cases h0 : k = 0
  · subst h0
    go_enter Tryz.func54, Tryz.ntmps54
    go_wp2_with fail
    go_ret
    exact ⟨rfl, Below.refl _ _⟩
  · have hb : ¬ (k : Int) ≤ 0 := by omega
    have HM : Hid (mt k = 109 :: dg (k + 1) k []) := by show _ = _; simp [mt, h0]
    clear h0
    go_enter Tryz.func54, Tryz.ntmps54
    go_wp2_with fail
    go_loopw [0, 3] (fun kk o wr => ∃ (n f : Nat) (acc : List UInt8), kk = .int .i64 n ∧ o = .string ⟨acc.toArray⟩ ∧ n < f ∧ n + acc.length ≤ 4611686018427387904 ∧ Below w.heap.size w wr ∧ Hid (dg f n acc = dg (k + 1) k [])) (fun kk _ _ => (intOf kk).toNat)
    case atStart => exact ⟨k, k + 1, [], rfl, rfl, by omega, by simpa using hk, Below.refl _ _, rfl⟩
    case round =>
      obtain ⟨n, f, acc, rfl, rfl, hf, hl, hbr, HD⟩ := hrel
      by_cases hn : 0 < n
      · obtain ⟨b, hbv⟩ : ∃ b : UInt8, b = UInt8.ofNat (48 + n % 10) := ⟨_, rfl⟩
        have hx : 48 + (n : Int) % 10 = ((b.toNat : Nat) : Int) := by
          have : b.toNat = 48 + n % 10 := by rw [hbv]; simp; omega
          rw [this]; omega
        have hcv := conv_byte wr wr.heap.size b (48 + (n : Int) % 10) hx rfl
        have HD2 : Hid (dg (f - 1) (n / 10) (b :: acc) = dg (k + 1) k []) := by show _ = _; rw [← HD.out, dg_step f n acc hn hf, hbv]
        have hdv : n / 10 < n := by omega
        have hla : acc.length ≤ 4611686018427387904 := by omega
        clear hbv hx
        go_wp2_with fail
        go_roundw
        case rel => exact ⟨n / 10, f - 1, b :: acc, by go_num, by rw [str_cons], by omega, by simp only [List.length_cons]; omega, hbr.alloc (by have := hbr.size; omega) _, HD2⟩
        case measure => simp [intOf]; omega
      · have hn0 : n = 0 := by omega
        subst hn0
        rw [dg_zero] at HD
        have hla : acc.length ≤ 4611686018427387904 := by omega
        go_wp2_with fail
        go_ret
        exact ⟨by rw [HM.out, ← HD.out]; exact congrArg Ending.returned (congrArg Value.string (str_cons 109 acc)), hbr⟩

end Go.Proofs.YtcepgedbmffkdaaGreat
