/-
  A term is marked from any number on.
-/
import Derived.Test.YtbdmdgghhefmcaaPfoMkM
import Derived.Test.YtbdmdgghhefmcaaPfoZ31
import Derived.Lib.Join
import Derived.Test.YtbdmdgghhefmcaaPfoZ1
import Derived.Test.YtbdmdgghhefmcaaPfoZ5
import Derived.Test.YtbdmdgghhefmcaaPfoTi
import Derived.Lib.ItoaLen
import Derived.Test.YtbdmdgghhefmcaaPfoZ14
import Derived.Test.YtbdmdgghhefmcaaPfoZ3
import Derived.BigQuiet
import Derived.Deep.RegionWith
namespace Go.Proofs.Ytbdmdgghhefmcaa
open Go.RowKit
set_option linter.unusedVariables false
set_option linter.unusedSimpArgs false

set_option maxRecDepth 100000 in
set_option maxHeartbeats 1000000 in
theorem markTermM_from (D d : Nat) (t : Tm) (a1 : Option Addr) (l1 c1 : Nat) (a2 : Option Addr) (l2 c2 : Nat) (a3 : Option Addr) (l3 c3 : Nat) (bs : List Nat) (w : World) (hf : FldO w D (OwM w D d) t a1 l1 a2 l2 a3 l3 bs) (hnd : bs.Nodup) (hin : ∀ b ∈ bs, b < w.heap.size) (hc : cntM t ≤ 1048576) (k : Int) (hk1 : 1 ≤ k) (hk2 : k ≤ 1000000000) :
    Calls Try.prog 12 #[.agg #[.int .i64 t.K, .int .i64 t.N, .string t.S, .string t.Z, .int .i64 t.T.K, .int .i64 t.T.N, .slice a1 l1 c1, .slice a2 l2 c2, .slice a3 l3 c3], .int .i64 k] w fun e w' => ∃ k' : Int, e = .returned (.int .i64 k') ∧ k ≤ k' ∧ k' ≤ k + 6 * (cntM t : Int) ∧ Chg bs w w' ∧ BrF w' D d a1 l1 a2 l2 a3 l3 k k' bs := by
  obtain ⟨p1, p2, p3, rfl, _, _, hO1, hO2, hO3⟩ := hf
  have hn12 := (List.nodup_append.1 hnd).1
  have hn3 := (List.nodup_append.1 hnd).2.1
  have hd3 := (List.nodup_append.1 hnd).2.2
  have hn1 := (List.nodup_append.1 hn12).1
  have hn2 := (List.nodup_append.1 hn12).2.1
  have hd2 := (List.nodup_append.1 hn12).2.2
  have hce := cntM_eq t
  unfold ownM at hce
  obtain ⟨X, hX⟩ : ∃ X, X = w.alloc (.cells #[.int .i64 t.K, .int .i64 t.N, .string t.S, .string t.Z, .int .i64 t.T.K, .int .i64 t.T.N, .slice a1 l1 c1, .slice a2 l2 c2, .slice a3 l3 c3] 35) := ⟨_, rfl⟩
  have hXb : Below w.heap.size w X := by rw [hX]; exact (Below.refl _ _).alloc (Nat.le_refl _) _
  have hXs : X.heap.size = w.heap.size + 1 := by rw [hX]; simp
  have hX1 : X.heap[w.heap.size]? = some (.cells #[.int .i64 t.K, .int .i64 t.N, .string t.S, .string t.Z, .int .i64 t.T.K, .int .i64 t.T.N, .slice a1 l1 c1, .slice a2 l2 c2, .slice a3 l3 c3] 35 (0, 0)) := by rw [hX]; exact heap_new rfl
  have HX : Hid (X = _) := hX
  have hnw : w.heap.size ∉ p1 ++ p2 ++ p3 := fun e => by have := hin _ e; omega
  clear hX
  go_enter Try.func12, Try.ntmps12
  go_wp2_with fail
  rw [← HX.out]
  have hin1 : ∀ b ∈ p1, b < X.heap.size := fun b hb => by have := hin b (by simp [hb]); omega
  refine (mk_any D _ _ _ _ _ _ p1 _ _ (hO1.keep fun b hb => hXb.block b (hin b (by simp [hb]))) hn1 hin1 (by omega) (by omega)).mono ?_
  rintro e w1 ⟨rfl, hc1, hM1⟩
  have hz1 := hc1.size
  have y1 := (hc1.block w.heap.size (by omega) (fun e => hnw (by simp [e]))).trans hX1
  obtain ⟨f0, f1, f2, f3, f4, f5, f6, f7, f8⟩ := Nine.box y1
  have hO2' : Ow w1 D a2 l2 t.Ts p2 := hO2.keep fun b hb => (hc1.block b (by have := hin b (by simp [hb]); omega) (fun e => hd2 b e b hb rfl)).trans (hXb.block b (hin b (by simp [hb])))
  have hin2 : ∀ b ∈ p2, b < w1.heap.size := fun b hb => by have := hin b (by simp [hb]); omega
  go_wp2_with fail
  refine (mkS_any D _ _ _ _ p2 _ _ hO2' hn2 hin2 (by omega) (by omega)).mono ?_
  rintro e w2 ⟨rfl, hc2, hM2⟩
  have hz2 := hc2.size
  have y2 := (hc2.block w.heap.size (by omega) (fun e => hnw (by simp [e]))).trans y1
  clear f0 f1 f2 f3 f4 f5 f6 f7 f8
  obtain ⟨f0, f1, f2, f3, f4, f5, f6, f7, f8⟩ := Nine.box y2
  have hO3' : OwM w2 D d a3 l3 t.A p3 := hO3.keep fun b hb => (hc2.block b (by have := hin b (by simp [hb]); omega) (fun e => hd3 b (by simp [e]) b hb rfl)).trans ((hc1.block b (by have := hin b (by simp [hb]); omega) (fun e => hd3 b (by simp [e]) b hb rfl)).trans (hXb.block b (hin b (by simp [hb]))))
  have hin3 : ∀ b ∈ p3, b < w2.heap.size := fun b hb => by have := hin b (by simp [hb]); omega
  go_wp2_with fail
  refine (mm_any D d _ _ _ _ p3 _ _ hO3' hn3 hin3 (by omega) (by omega)).mono ?_
  rintro e w3 ⟨k3, rfl, hk3, hc3, hBr⟩
  have hk3' := hBr.le
  go_wp2_with fail
  go_ret
  refine ⟨_, rfl, by omega, by omega, (((Below.chg hXb).trans (hc1.mono fun x hx => by simp [hx])).trans (hc2.mono fun x hx => by simp [hx])).trans (hc3.mono fun x hx => by simp [hx]), t.T.A, t.Ts, p1, p2, p3, rfl, ?_, hO1.dp, ?_, hO2.dp, hBr⟩
  · exact (hM1.keep fun b hb => hc2.block b (by have := hin1 b hb; omega) (fun e => hd2 b hb b e rfl)).keep fun b hb => hc3.block b (by have := hin1 b hb; omega) (fun e => hd3 b (by simp [hb]) b e rfl)
  · exact hM2.keep fun b hb => hc3.block b (by have := hin2 b hb; omega) (fun e => hd3 b (by simp [hb]) b e rfl)

end Go.Proofs.Ytbdmdgghhefmcaa

/-
  The tokens and the text of a type, in plain words: no walk, no statement.
-/
namespace Go.Proofs.Ytbdmdgghhefmcaa
open Go.RowKit
set_option linter.unusedVariables false
set_option linter.unusedSimpArgs false

theorem okT_le {t : Tr} (h : okT t = true) : ∃ m, nodesW 6 t = some m ∧ m ≤ 60 := by
  cases hm : nodesW 6 t with
  | none => simp [okT, nodesT, hm] at h
  | some m =>
    refine ⟨m, rfl, ?_⟩
    by_cases h6 : m ≤ 60
    · exact h6
    · simp [okT, nodesT, hm, h6] at h

end Go.Proofs.Ytbdmdgghhefmcaa

/-
  The tokens and the text of a term, in plain words: no walk, no statement.
-/
namespace Go.Proofs.Ytbdmdgghhefmcaa
open Go.RowKit
set_option linter.unusedVariables false
set_option linter.unusedSimpArgs false

def sb (s : ByteArray) : List UInt8 := s.data.toList
/-- What a right node is, its kind aside. -/
structure NodeIs (t : Tm) : Prop where
  k1 : 1 ≤ t.K
  k17 : t.K ≤ 17
  n1 : shL t.K ≤ t.N
  n2 : t.N ≤ shM t.K
  a : (t.A.length : Int) = shP t.K
  nm : namesB (shN t.K) t.S t.Z = true
  ty : shT t.K = true → okT t.T = true
  zt : shT t.K = false → t.T.K = 0
  ts : (t.Ts.length : Int) ≤ shS t.K
  each : ∀ x ∈ t.Ts, okT x = true

theorem NodeIs.of {t : Tm} (h : nodeM t = true) : NodeIs t := by
  simp only [nodeM, Bool.and_eq_true, decide_eq_true_eq, kOk, typesB] at h
  obtain ⟨⟨⟨⟨⟨hk, hn⟩, ha⟩, _⟩, hnm⟩, ⟨hty, hts⟩, heach⟩ := h
  refine ⟨hk.1, hk.2, hn.1, hn.2, ha, hnm, fun hs => ?_, fun hs => ?_, hts, fun x hx => List.all_eq_true.1 heach x hx⟩
  · rw [if_pos hs] at hty; exact hty
  · rw [if_neg (by simp [hs])] at hty
    simp only [zeroT, Bool.and_eq_true, beq_iff_eq] at hty
    exact hty.1.1

theorem nameW_sz {s : ByteArray} (h : nameW s = true) : 1 ≤ s.size ∧ s.size ≤ 8 := by
  simp only [nameW, Bool.and_eq_true, decide_eq_true_eq] at h
  exact ⟨h.1.1.1, h.1.1.2⟩

/-- The names of a right node have eight bytes at most. -/
theorem NodeIs.names {t : Tm} (h : NodeIs t) : t.S.size ≤ 8 ∧ t.Z.size ≤ 8 := by
  have h1 := h.nm
  have hz : ∀ s : ByteArray, isNil s = true → s.size ≤ 8 := fun s hs => by
    rw [isNil_size] at hs
    have := of_decide_eq_true hs
    omega
  unfold namesB at h1
  split at h1
  · simp only [Bool.and_eq_true] at h1; exact ⟨hz _ h1.1, hz _ h1.2⟩
  · split at h1
    · simp only [Bool.and_eq_true] at h1; exact ⟨(nameW_sz h1.1).2, hz _ h1.2⟩
    · simp only [Bool.and_eq_true] at h1; exact ⟨(nameW_sz h1.1.1).2, (nameW_sz h1.1.2).2⟩

theorem all_nil {n : Nat} : ∀ x ∈ ([] : List (List UInt8)), x.length ≤ n := fun x hx => by cases hx
theorem all_cons {y : List UInt8} {a : List (List UInt8)} {n : Nat} (hy : y.length ≤ n) (ha : ∀ x ∈ a, x.length ≤ n) : ∀ x ∈ y :: a, x.length ≤ n := fun x hx => by
  rcases List.mem_cons.1 hx with rfl | hx
  · exact hy
  · exact ha x hx
theorem nodesM_inv2 {l : Nat} {t : Tm} {m : Nat} (h : nodesM (l + 1) t = some m) : NodeIs t ∧ (∃ b, nodesG (nodesM l) t.A = some b ∧ m = 1 + b) := by
  simp only [nodesM] at h
  cases hn : nodeM t with
  | false => simp [hn] at h
  | true =>
    refine ⟨NodeIs.of hn, ?_⟩
    simp only [hn, if_true] at h
    cases hz : nodesG (nodesM l) t.A with
    | none => simp [hz] at h
    | some b => simp [hz] at h; exact ⟨b, rfl, h.symm⟩

end Go.Proofs.Ytbdmdgghhefmcaa

/-
  How much a right term is of: no walk.
-/
namespace Go.Proofs.Ytbdmdgghhefmcaa
open Go.RowKit Go.PlainAid
set_option linter.unusedVariables false
set_option linter.unusedSimpArgs false

theorem nodes_cntW : ∀ (l : Nat) (t : Tr) (m : Nat), nodesW l t = some m → cnt t = m := by
  intro l
  induction l with
  | zero => intro t m h; simp [nodesW] at h
  | succ l ih =>
    intro t m h
    simp only [nodesW] at h
    split at h
    · cases h1 : nodesL (nodesW l) t.A with
      | none => simp [h1] at h
      | some s =>
        simp [h1] at h
        have key : ∀ (ts : List Tr) (s : Nat), nodesL (nodesW l) ts = some s → cntS ts = s := by
          intro ts
          induction ts with
          | nil => intro s hs; simp [nodesL] at hs; simp [cntS]; omega
          | cons x ts ihl =>
            intro s hs
            simp only [nodesL] at hs
            cases hx : nodesW l x with
            | none => simp [hx] at hs
            | some a =>
              cases hy : nodesL (nodesW l) ts with
              | none => simp [hx, hy] at hs
              | some b =>
                simp [hx, hy] at hs
                have h2 := ihl b hy
                have h3 := ih x a hx
                simp only [cntS, List.map_cons, List.sum_cons] at *
                omega
        rw [cnt_eq, key _ _ h1]
        omega
    · simp at h

theorem okT_cnt {t : Tr} (h : okT t = true) : cnt t ≤ 60 := by
  obtain ⟨m, hm, h6⟩ := okT_le h
  rw [nodes_cntW _ _ _ hm]
  exact h6
theorem tys_cnt : ∀ (ts : List Tr), (∀ x ∈ ts, okT x = true) → cntS ts ≤ 60 * ts.length
  | [], _ => by simp [cntS]
  | x :: ts, h => by
    have h1 := okT_cnt (h x (by simp))
    have h2 := tys_cnt ts fun y hy => h y (by simp [hy])
    simp only [cntS, List.map_cons, List.sum_cons, List.length_cons] at *
    omega

theorem nodesM_cnt : ∀ (l : Nat) (t : Tm) (m : Nat), nodesM l t = some m → cntM t ≤ 200 * m := by
  intro l
  induction l with
  | zero => intro t m h; simp [nodesM] at h
  | succ l ih =>
    intro t m h
    have hnd := (nodesM_inv h).1
    obtain ⟨hn, b, hb, rfl⟩ := nodesM_inv2 h
    have hnm := hn.names
    have hT : cntS t.T.A ≤ 60 := by
      by_cases hs : shT t.K = true
      · have h1 := okT_cnt (hn.ty hs)
        rw [cnt_eq] at h1
        omega
      · have hz := hnd
        unfold nodeM at hz
        simp only [Bool.and_eq_true] at hz
        have hz1 := hz.2
        unfold typesB at hz1
        simp only [Bool.and_eq_true] at hz1
        have hz2 := hz1.1.1
        rw [if_neg hs] at hz2
        unfold zeroT at hz2
        simp only [Bool.and_eq_true, beq_iff_eq] at hz2
        have : t.T.A = [] := List.length_eq_zero_iff.1 (by have := hz2.2; omega)
        rw [this]; simp [cntS]
    have hTs := tys_cnt t.Ts hn.each
    have h2 : t.Ts.length ≤ 2 := by have := hn.ts; have := (shS_bd t.K).2; omega
    have hA := nodeM_len hnd
    have hsub : ∀ (ys : List Tm) (s : Nat), nodesG (nodesM l) ys = some s → subMS ys ≤ 200 * s := by
      intro ys
      induction ys with
      | nil => intro s hs; simp [subMS]
      | cons y ys ihy =>
        intro s hs
        simp only [nodesG] at hs
        cases hy : nodesM l y with
        | none => simp [hy] at hs
        | some a =>
          cases hz : nodesG (nodesM l) ys with
          | none => simp [hy, hz] at hs
          | some c =>
            simp [hy, hz] at hs
            have e1 := ih y a hy
            have e2 := ihy c hz
            simp only [subMS, List.map_cons, List.sum_cons] at *
            omega
    have h3 := hsub _ _ hb
    have h4 := cntM_eq t
    have h5 := cntMS_eq t.A
    have h6 : ownM t = t.S.size + t.Z.size + cntS t.T.A + cntS t.Ts := rfl
    omega

end Go.Proofs.Ytbdmdgghhefmcaa

/-
  Whether a term still bears its marks: it answers the next number.
-/
namespace Go.Proofs.Ytbdmdgghhefmcaa
open Go.RowKit
set_option linter.unusedVariables false
set_option linter.unusedSimpArgs false

def SaidHM (D d : Nat) : Prop := ∀ (ao : Option Addr) (len cap : Nat) (bs : List Nat) (k k' : Int) (w : World), BrO w D d ao len k k' bs → (∀ b ∈ bs, b < w.heap.size) → 0 ≤ k → k' ≤ 4611686018427387904 →
    Calls Try.prog 36 #[.slice ao len cap, .int .i64 k] w fun e w' => e = .returned (.int .i64 k') ∧ Below w.heap.size w w'

set_option maxHeartbeats 400000 in
theorem hm_empty (ao : Option Addr) (cap : Nat) (k : Int) (w : World) :
    Calls Try.prog 36 #[.slice ao 0 cap, .int .i64 k] w fun e w' => e = .returned (.int .i64 k) ∧ Below w.heap.size w w' := by
  go_enter Try.func36, Try.ntmps36
  go_wp2_with fail
  refine wp_loop_rounds 1 ?_; rw [rounds_succ]
  go_wp2_with fail
  go_ret
  exact ⟨rfl, Below.refl _ _⟩

theorem hm_zero (D : Nat) : SaidHM D 0 := by
  intro ao len cap bs k k' w hb hin h0 h1
  obtain ⟨rfl, rfl, rfl⟩ := hb
  exact hm_empty ao cap k' w

set_option maxRecDepth 100000 in
set_option maxHeartbeats 2000000 in
theorem hm_succ (D d : Nat) (IH : SaidHM D d) : SaidHM D (d + 1) := by
  intro ao len cap bs k k' w hbr0 hin hk0 hk1
  rcases hbr0 with ⟨rfl, rfl, rfl⟩ | ⟨g, cs, bss, ks, rfl, hm, hg, hbl, rfl, h0, hl, hE⟩
  · exact hm_empty ao cap k' w
  have hgw := hin g (by simp)
  have HI : Hid (∀ b ∈ bss.flatten, b < w.heap.size) := fun b hb => hin b (List.mem_cons_of_mem _ hb)
  have HB : Hid (bss.length = len) := hbl
  have hst : ∀ i, i < len → ks i + 6 ≤ ks (i + 1) := fun i hi => (hE i hi (by omega)).le (fun _ _ _ _ _ h => h.le)
  have HCH : Hid (∀ i, i < len → 0 ≤ ks i ∧ ks i + 6 ≤ ks (i + 1) ∧ ks (i + 1) ≤ 4611686018427387904) := fun i hi => by
    have q1 := mono_chain (ks := ks) (n := len) (fun i hi => by have := hst i hi; omega) i 0 (by omega) (by omega)
    have q2 := mono_chain (ks := ks) (n := len) (fun i hi => by have := hst i hi; omega) len (i + 1) (by omega) (Nat.le_refl _)
    have := hst i hi
    refine ⟨by omega, by omega, by omega⟩
  have HE : Hid (∀ i (_ : i < len) (_ : i < bss.length), ElO w D (BrO w D d) g i (ks i) (ks (i + 1)) bss[i]) := hE
  have HKL : Hid (ks len = k') := hl
  have HK0 : Hid (ks 0 = k) := h0
  clear hE hin hg hbl hst hl h0
  go_enter Try.func36, Try.ntmps36
  go_wp2_with fail
  go_loopw [1, 5] (fun kv i wr => ∃ j : Nat, j ≤ len ∧ i = .int .i64 j ∧ kv = .int .i64 (ks j) ∧ Below w.heap.size w wr) (fun _ i _ => len - (intOf i).toNat)
  case atStart => exact ⟨0, by omega, rfl, by rw [HK0.out], Below.refl _ _⟩
  case round =>
    obtain ⟨j, hj, rfl, rfl, hbel⟩ := hrel
    have hszr := hbel.size
    by_cases hlt : j < len
    · have hjb : j < bss.length := by have := HB.out; omega
      obtain ⟨hka, hkb, hkc⟩ := HCH.out j hlt
      obtain ⟨a1, l1, c1, a2, l2, c2, a3, l3, c3, t1, t2, p1, p2, p3, h9, hp, hO1, hD1, hO2, hD2, hO3⟩ := HE.out j hlt hjb
      have hpin : ∀ b ∈ p1 ++ p2 ++ p3, b < w.heap.size := fun b hb => HI.out b (mem_part hjb (by rw [hp]; exact hb))
      have hk3 := hO3.le
      obtain ⟨kn, hkn⟩ : ∃ x, ks (j + 1) = x := ⟨_, rfl⟩
      obtain ⟨kj, hkj⟩ : ∃ x, ks j = x := ⟨_, rfl⟩
      rw [hkn, hkj] at hkb hO3 hk3
      rw [hkn] at hkc
      rw [hkj] at hka h9 hO1 hO2 ⊢
      have HKN : Hid (ks (j + 1) = kn) := hkn
      clear hkn hkj
      obtain ⟨e0, e1, e2, e3, e4, e5, e6, e7, e8⟩ := h9.below hbel hgw
      have hH1 : Hs 0 w.heap.size w D a1 l1 (markD D (kj + 6) t1) := hO1.hs fun b hb => ⟨Nat.zero_le _, hpin b (by simp [hb])⟩
      have hH2 : Hs 0 w.heap.size w D a2 l2 (markD D (kj + 6 + 2 * cntS t1) t2) := hO2.hs fun b hb => ⟨Nat.zero_le _, hpin b (by simp [hb])⟩
      have HH : Hid (_ ∧ _ ∧ _ ∧ _ ∧ _ ∧ _) := ⟨hH1, hH2, hD1, hD2, hO3, hpin⟩
      have H9 : Hid (Nine w g (j * 9) kj (kj + 1) (mtS (kj + 2)) (mtS (kj + 3)) (kj + 4) (kj + 5) (.slice a1 l1 c1) (.slice a2 l2 c2) (.slice a3 l3 c3)) := h9
      have hgr : g < wr.heap.size := by omega
      obtain ⟨s1, hs1⟩ : ∃ s, mtS (kj + 2) = s := ⟨_, rfl⟩
      obtain ⟨s2, hs2⟩ : ∃ s, mtS (kj + 3) = s := ⟨_, rfl⟩
      have M1 : Hid (∀ (V w' : World), Below V.heap.size V w' → Calls Try.prog 47 #[.int .i64 (kj + 1 + 1)] w' fun e w'' => e = .returned (.string s1) ∧ Below V.heap.size V w'') := fun V w' hC =>
        (markTextX_any (kj + 1 + 1) (by omega) (by omega) w').mono fun e w'' ⟨h1, h2⟩ => ⟨by rw [h1, ← hs1]; congr 2; congr 1; omega, hC.trans (h2.mono hC.size)⟩
      have M2 : Hid (∀ (V w' : World), Below V.heap.size V w' → Calls Try.prog 47 #[.int .i64 (kj + 1 + 1 + 1)] w' fun e w'' => e = .returned (.string s2) ∧ Below V.heap.size V w'') := fun V w' hC =>
        (markTextX_any (kj + 1 + 1 + 1) (by omega) (by omega) w').mono fun e w'' ⟨h1, h2⟩ => ⟨by rw [h1, ← hs2]; congr 2; congr 1; omega, hC.trans (h2.mono hC.size)⟩
      rw [hs1] at e2
      rw [hs2] at e3
      have hz1 : (s1.toList != s1.toList) = false := by simp
      have hz2 : (s2.toList != s2.toList) = false := by simp
      have HS2 : Hid (mtS (kj + 3) = s2) := hs2
      clear h9 hO1 hO2 hO3 hD1 hD2 hpin hH1 hH2 hs1 hs2
      go_wp2_with fail
      refine wp_region_below (by kernel_rfl) (by kernel_rfl) ?_
      repeat (first
        | go_big_quiet_skip
        | (go_big_quiet_want; unfold Oper.quiet; apply Exists.intro; refine ⟨fun w' hC => ?_, ?_⟩; (have g0 := (bcell hC hgr (j * 9 + 2)).trans e2; unfold Oper.quietAt; go_simp; first | exact rfl | exact ⟨rfl, rfl⟩ | (go_at_call 47; exact M1.out _ _ hC)); go_big_quiet_on; simp only [Act.put, List.setIfInBounds_toArray, List.set_cons_zero, List.set_cons_succ]))
      refine wpQuiet_nil ?_
      intro w3 hb3
      have hbw3 := hbel.trans (hb3.mono hszr)
      have hz3 := hb3.size
      have hg3 : g < w3.heap.size := by omega
      clear e0 e1 e2 e3 e4 e5 e6 e7 e8
      obtain ⟨e0, e1, e2, e3, e4, e5, e6, e7, e8⟩ := H9.out.below hbw3 hgw
      rw [HS2.out] at e3
      go_wp2_with fail
      refine wp_region_below (by kernel_rfl) (by kernel_rfl) ?_
      repeat (first
        | go_big_quiet_skip
        | (go_big_quiet_want; unfold Oper.quiet; apply Exists.intro; refine ⟨fun w' hC => ?_, ?_⟩; (have g0 := (bcell hC hg3 (j * 9 + 3)).trans e3; unfold Oper.quietAt; go_simp; first | exact rfl | exact ⟨rfl, rfl⟩ | (go_at_call 47; exact M2.out _ _ hC)); go_big_quiet_on; simp only [Act.put, List.setIfInBounds_toArray, List.set_cons_zero, List.set_cons_succ]))
      refine wpQuiet_nil ?_
      intro w4 hb4
      have hbw4 := hbw3.trans (hb4.mono hbw3.size)
      have hz4 := hb4.size
      clear e0 e1 e2 e3 e4 e5 e6 e7 e8
      obtain ⟨e0, e1, e2, e3, e4, e5, e6, e7, e8⟩ := H9.out.below hbw4 hgw
      have f4 : kj + 1 + 1 + 1 + 1 = kj + 4 := by omega
      have f5 : kj + 1 + 1 + 1 + 1 + 1 = kj + 5 := by omega
      rw [← f4] at e4
      rw [← f5] at e5
      clear f4 f5
      obtain ⟨hH1, hH2, hD1, hD2, hO3, hpin⟩ := HH.out
      go_wp2_with fail
      rw [show kj + 1 + 1 + 1 + 1 + 1 + 1 = kj + 6 from by omega]
      refine (hdS_any D 0 w.heap.size _ _ _ t1 _ _ (by omega) (hH1.below hbw4 (Nat.le_refl _)) hD1 (by omega) (by omega)).mono ?_
      rintro e w5 ⟨rfl, hb5⟩
      have hbw5 := hbw4.trans (hb5.mono hbw4.size)
      have hz5 := hb5.size
      have hq1 : ¬ kj + 6 + 2 * (cntS t1 : Int) < 0 := by omega
      clear e0 e1 e2 e3 e4 e5 e6 e7 e8 hH1 hH2 hD1 hD2 hO3 hpin
      obtain ⟨e0, e1, e2, e3, e4, e5, e6, e7, e8⟩ := H9.out.below hbw5 hgw
      obtain ⟨hH1, hH2, hD1, hD2, hO3, hpin⟩ := HH.out
      go_wp2_with fail
      refine (hdS_any D 0 w.heap.size _ _ _ t2 _ _ (by omega) (hH2.below hbw5 (Nat.le_refl _)) hD2 (by omega) (by omega)).mono ?_
      rintro e w6 ⟨rfl, hb6⟩
      have hbw6 := hbw5.trans (hb6.mono hbw5.size)
      have hz6 := hb6.size
      have hq2 : ¬ kj + 6 + 2 * (cntS t1 : Int) + 2 * (cntS t2 : Int) < 0 := by omega
      clear e0 e1 e2 e3 e4 e5 e6 e7 e8 hH1 hH2 hD1 hD2 hO3 hpin
      obtain ⟨e0, e1, e2, e3, e4, e5, e6, e7, e8⟩ := H9.out.below hbw6 hgw
      obtain ⟨hH1, hH2, hD1, hD2, hO3, hpin⟩ := HH.out
      go_wp2_with fail
      refine (IH _ _ _ p3 _ kn _ (hO3.keep fun b hb => hbw6.block b (hpin b (by simp [hb]))) (fun b hb => Nat.lt_of_lt_of_le (hpin b (by simp [hb])) hbw6.size) (by omega) (by omega)).mono ?_
      rintro e w7 ⟨rfl, hb7⟩
      have hbw7 := hbw6.trans (hb7.mono hbw6.size)
      have hq3 : ¬ kn < 0 := by omega
      clear e0 e1 e2 e3 e4 e5 e6 e7 e8 hH1 hH2 hD1 hD2 hO3 hpin
      go_wp2_with fail
      go_roundw
      case rel => exact ⟨j + 1, by omega, by go_num, by rw [HKN.out], hbw7⟩
      case measure => simp [intOf]; omega
    · obtain rfl : j = len := by omega
      go_wp2_with fail
      go_ret
      exact ⟨ret_int HKL.out, hbel⟩

theorem hm_any (D : Nat) : ∀ d, SaidHM D d := by
  intro d
  induction d with
  | zero => exact hm_zero D
  | succ d ih => exact hm_succ D d ih

set_option maxRecDepth 100000 in
set_option maxHeartbeats 1000000 in
theorem heldTermM_any (D d : Nat) (t : Tm) (a1 : Option Addr) (l1 c1 : Nat) (a2 : Option Addr) (l2 c2 : Nat) (a3 : Option Addr) (l3 c3 : Nat) (bs : List Nat) (k' : Int) (w : World) (hf : BrF w D d a1 l1 a2 l2 a3 l3 1 k' bs) (hin : ∀ b ∈ bs, b < w.heap.size) (hk : k' ≤ 4611686018427387904) :
    Calls Try.prog 13 #[.agg #[.int .i64 t.K, .int .i64 t.N, .string t.S, .string t.Z, .int .i64 t.T.K, .int .i64 t.T.N, .slice a1 l1 c1, .slice a2 l2 c2, .slice a3 l3 c3], .int .i64 1] w fun e w' => e = .returned (.int .i64 k') ∧ Below w.heap.size w w' := by
  obtain ⟨t1, t2, p1, p2, p3, rfl, h1, d1, h2, d2, h3⟩ := hf
  have hk3 := h3.le
  have hH1 : Hs 0 w.heap.size w D a1 l1 (markD D 1 t1) := h1.hs fun b hb => ⟨Nat.zero_le _, hin b (by simp [hb])⟩
  have hH2 : Hs 0 w.heap.size w D a2 l2 (markD D (1 + 2 * cntS t1) t2) := h2.hs fun b hb => ⟨Nat.zero_le _, hin b (by simp [hb])⟩
  have hXb : Below w.heap.size w (w.alloc (.cells #[.int .i64 t.K, .int .i64 t.N, .string t.S, .string t.Z, .int .i64 t.T.K, .int .i64 t.T.N, .slice a1 l1 c1, .slice a2 l2 c2, .slice a3 l3 c3] 35)) := (Below.refl _ _).alloc (Nat.le_refl _) _
  have hq1 : ¬ 1 + 2 * (cntS t1 : Int) < 0 := by omega
  have hq2 : ¬ 1 + 2 * (cntS t1 : Int) + 2 * (cntS t2 : Int) < 0 := by omega
  have hq3 : ¬ k' < 0 := by omega
  go_enter Try.func13, Try.ntmps13
  go_wp2_with fail
  refine (hd_any D 0 w.heap.size _ _ _ _ _ t1 _ _ (by simp) (hH1.below hXb (Nat.le_refl _)) d1 (by omega) (by omega)).mono ?_
  rintro e w1 ⟨rfl, hb1⟩
  have hbw1 : Below w.heap.size w w1 := hXb.trans (hb1.mono (by simp))
  have hz1 := hb1.size
  simp only [World.size_alloc] at hz1
  have y1 := (hb1.block w.heap.size (by simp)).trans (heap_new rfl)
  obtain ⟨f0, f1, f2, f3, f4, f5, f6, f7, f8⟩ := Nine.box y1
  go_wp2_with fail
  refine (hdS_any D 0 w.heap.size _ _ _ t2 _ _ (by omega) (hH2.below hbw1 (Nat.le_refl _)) d2 (by omega) (by omega)).mono ?_
  rintro e w2 ⟨rfl, hb2⟩
  have hbw2 : Below w.heap.size w w2 := hbw1.trans (hb2.mono hbw1.size)
  have hz2 := hb2.size
  have y2 := (hb2.block w.heap.size (by omega)).trans y1
  clear f0 f1 f2 f3 f4 f5 f6 f7 f8
  obtain ⟨f0, f1, f2, f3, f4, f5, f6, f7, f8⟩ := Nine.box y2
  go_wp2_with fail
  refine (hm_any D d _ _ _ p3 _ k' _ (h3.keep fun b hb => hbw2.block b (hin b (by simp [hb]))) (fun b hb => Nat.lt_of_lt_of_le (hin b (by simp [hb])) hbw2.size) (by omega) hk).mono ?_
  rintro e w3 ⟨rfl, hb3⟩
  go_wp2_with fail
  go_ret
  exact ⟨rfl, hbw2.trans (hb3.mono hbw2.size)⟩

end Go.Proofs.Ytbdmdgghhefmcaa
