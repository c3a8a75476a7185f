/-
  What the model's 'l2Look', 'TermOk', 'NodesOf' come to.
-/
import Derived.Test.YtibbdhmbgnjmoaaGreatFlaOne
import Derived.Test.YtibbdhmbgnjmoaaGreatFlaZ22
import Derived.Test.YtibbdhmbgnjmoaaGreatFlaZ27
import Derived.Test.YtibbdhmbgnjmoaaGreatFlaZ7
namespace Go.Proofs.YtibbdhmbgnjmoaaGreat
open Go.RowKit Go.PlainAid
set_option linter.unusedVariables false
set_option linter.unusedSimpArgs false

/-- What 'l2Look' answers, c being the count ahead of it. -/
def lookM (l c : Nat) (t : Tm) : Bool := match nodesM l t with | some m => decide (c + m ≤ 150) | none => false

theorem Fm.grown {L B p : Nat} {w w' : World} {D d : Nat} (hg : w.grownBy w' (some p)) (hB : B ≤ p) (hp : p < w.heap.size) {t : Tm} {a1 a2 a3 : Option Addr} {l1 l2 l3 : Nat} (h : Fm L B w D d t a1 l1 a2 l2 a3 l3) : Fm L B w' D d t a1 l1 a2 l2 a3 l3 :=
  Fm.keep (fun k _ hk => hg.block k (by omega) (by simp; omega)) (Nat.le_refl _) (Nat.le_refl _) h
theorem grown_below {w w' w'' : World} {p : Nat} (hg : w.grownBy w' (some p)) (hb : Below w'.heap.size w' w'') : w.grownBy w'' (some p) :=
  ⟨hb.os.trans hg.os, hb.tape.trans hg.tape, hb.output.trans hg.output, Nat.le_trans hg.size hb.size, fun i hi hr => (hb.block i (Nat.lt_of_lt_of_le hi hg.size)).trans (hg.block i hi hr)⟩

theorem lkm_world {w : World} {p : Nat} {v : Value} {t : TypeId} (hcell : w.heap[p]? = some (.cells #[v] t (0, 0))) (hp : p < w.heap.size) (u : Value) (cs : Array Value) (t' : TypeId) :
    w.grownBy ((w.setCell ⟨p, 0, none⟩ u).alloc (.cells cs t')) (some p) ∧ ((w.setCell ⟨p, 0, none⟩ u).alloc (.cells cs t')).heap[p]? = some (.cells #[u] t (0, 0)) ∧
    ((w.setCell ⟨p, 0, none⟩ u).alloc (.cells cs t')).heap[w.heap.size]? = some (.cells cs t' (0, 0)) := by
  refine ⟨⟨rfl, rfl, rfl, ?_, ?_⟩, ?_, ?_⟩
  · simp
  · intro k hk hr
    rw [Below.heap_alloc _ _ _ (by simpa using hk), row_other _ _ _ (by simpa using hr)]
  · rw [Below.heap_alloc _ _ _ (by simpa using hp), row_set hcell]
    rfl
  · exact heap_new (by simp)

def SaidLkM (l : Nat) : Prop := ∀ (D d L B p c : Nat) (t : Tm) (a1 : Option Addr) (l1 c1 : Nat) (a2 : Option Addr) (l2 c2 : Nat) (a3 : Option Addr) (l3 c3 : Nat) (w : World), B ≤ p → p < w.heap.size → w.heap[p]? = some (.cells #[.int .i64 c] 3 (0, 0)) → c ≤ 150 → Fm L B w D d t a1 l1 a2 l2 a3 l3 →
    Calls Tryz.prog 41 #[.agg #[.int .i64 t.K, .int .i64 t.N, .string t.S, .string t.Z, .int .i64 t.T.K, .int .i64 t.T.N, .slice a1 l1 c1, .slice a2 l2 c2, .slice a3 l3 c3], .int .i64 l, .pointer (some ⟨p, 0, none⟩)] w fun e w' =>
      e = .returned (.bool (lookM l c t)) ∧ w.grownBy w' (some p) ∧ ∃ c' : Int, w'.heap[p]? = some (.cells #[.int .i64 c'] 3 (0, 0)) ∧ (∀ m, nodesM l t = some m → c + m ≤ 150 → c' = c + m)

theorem lookM_no {l c : Nat} {t : Tm} (h : lookM l c t = false) : ∀ m, nodesM l t = some m → c + m ≤ 150 → False := by
  intro m hm hle
  simp only [lookM, hm, decide_eq_false_iff_not] at h
  exact h hle
theorem lookM_some {l c m : Nat} {t : Tm} (h : nodesM l t = some m) : lookM l c t = decide (c + m ≤ 150) := by simp [lookM, h]
theorem lookM_deep {l c : Nat} {t : Tm} (h : nodeM t = false) : lookM (l + 1) c t = false := by simp [lookM, nodesM, h]
theorem lookM_full {l c : Nat} {t : Tm} (h : 150 < c + 1) : lookM l c t = false := by
  unfold lookM
  split
  · rename_i m hm
    have := nodesM_pos _ _ _ hm
    simp; omega
  · rfl

set_option maxHeartbeats 400000 in
theorem lkm_zero : SaidLkM 0 := by
  intro D d L B p c t a1 l1 c1 a2 l2 c2 a3 l3 c3 w hBp hp hcell hc hf
  have f := row_cell hcell 0
  have r := row_free hcell 0
  simp at f
  have hpn : ¬ w.heap.size = p := by omega
  have HWW : Hid (_ ∧ _ ∧ _) := lkm_world hcell hp (.int .i64 ((c : Int) + 1)) #[.int .i64 t.K, .int .i64 t.N, .string t.S, .string t.Z, .int .i64 t.T.K, .int .i64 t.T.N, .slice a1 l1 c1, .slice a2 l2 c2, .slice a3 l3 c3] 34
  clear hcell
  go_enter Tryz.func41, Tryz.ntmps41
  go_wp2_with fail
  go_ret
  exact ⟨ret_bool rfl, HWW.out.1, _, HWW.out.2.1, fun m hm => by simp [nodesM] at hm⟩

/-- What the loop over a term's parts keeps. -/
structure LkRelM (w wr : World) (l p c j : Nat) (cs : Array Value) (m : Nat) (ts : List Tm) : Prop where
  grown : w.grownBy wr (some p)
  box : wr.heap[w.heap.size]? = some (.cells cs 34 (0, 0))
  cell : wr.heap[p]? = some (.cells #[.int .i64 ((c : Int) + 1 + m)] 3 (0, 0))
  nodes : nodesG (nodesM l) (ts.take j) = some m

set_option maxHeartbeats 1000000 in
theorem lkm_succ (l : Nat) (hl24 : l < 24) (IH : SaidLkM l) : SaidLkM (l + 1) := by
  intro D d L B p c t a1 l1 c1 a2 l2 c2 a3 l3 c3 w hBp hp hcell hc hf
  have hll := hf.m.len.2
  have HL : Hid (l3 = t.A.length) := hf.m.len.1
  have f := row_cell hcell 0
  have r := row_free hcell 0
  simp at f
  have hpn : ¬ w.heap.size = p := by omega
  obtain ⟨X, hX⟩ : ∃ X, X = (w.setCell ⟨p, 0, none⟩ (.int .i64 ((c : Int) + 1))).alloc (.cells #[.int .i64 t.K, .int .i64 t.N, .string t.S, .string t.Z, .int .i64 t.T.K, .int .i64 t.T.N, .slice a1 l1 c1, .slice a2 l2 c2, .slice a3 l3 c3] 34) := ⟨_, rfl⟩
  have hXW := lkm_world hcell hp (.int .i64 ((c : Int) + 1)) #[.int .i64 t.K, .int .i64 t.N, .string t.S, .string t.Z, .int .i64 t.T.K, .int .i64 t.T.N, .slice a1 l1 c1, .slice a2 l2 c2, .slice a3 l3 c3] 34
  rw [← hX] at hXW
  have hXs : X.heap.size = w.heap.size + 1 := by rw [hX]; simp
  have HWW : Hid (_ ∧ _ ∧ _) := hXW
  have HX : Hid (X = _) := hX
  have HXs : Hid (_ = _) := hXs
  clear hcell hX hXW hXs
  have hl0 : (((l : Int) + 1) == 0) = false := by simp; omega
  by_cases hfull : 150 < c + 1
  · have HO : Hid (lookM (l + 1) c t = false) := lookM_full hfull
    have h150 : decide (150 < (c : Int) + 1) = true := by simp; omega
    go_enter Tryz.func41, Tryz.ntmps41
    go_wp2_with fail
    go_ret
    rw [← HX.out]
    exact ⟨ret_bool HO.out.symm, HWW.out.1, _, HWW.out.2.1, fun m hm hle => (lookM_no HO.out m hm hle).elim⟩
  have h150 : decide (150 < (c : Int) + 1) = false := by simp; omega
  have hfX := Fm.grown HWW.out.1 hBp hp hf
  cases hok : nodeM t with
  | false =>
    have HO : Hid (lookM (l + 1) c t = false) := lookM_deep hok
    have HK : Hid (nodeM t = false) := hok
    clear hok
    go_enter Tryz.func41, Tryz.ntmps41
    go_wp2_with fail
    rw [← HX.out]
    refine (l2One_any D d L B t _ _ _ _ _ _ _ _ _ _ (by have := HXs.out; omega) hfX).mono ?_
    rintro e w1 ⟨rfl, hb1⟩
    rw [HK.out]
    go_wp2_with fail
    go_ret
    exact ⟨ret_bool HO.out.symm, grown_below HWW.out.1 hb1, _, (hb1.block p (by have := HXs.out; omega)).trans HWW.out.2.1, fun m hm hle => (lookM_no HO.out m hm hle).elim⟩
  | true =>
    have HO : Hid (nodesM (l + 1) t = (nodesG (nodesM l) t.A).map (1 + ·)) := by show _ = _; simp only [nodesM]; rw [hok]; rfl
    have hlen3 := nodeM_len hok
    have HK : Hid (nodeM t = true) := hok
    clear hok
    go_enter Tryz.func41, Tryz.ntmps41
    go_wp2_with fail
    rw [← HX.out]
    refine (l2One_any D d L B t _ _ _ _ _ _ _ _ _ _ (by have := HXs.out; omega) hfX).mono ?_
    rintro e w1 ⟨rfl, hb1⟩
    rw [HK.out]
    have hR0 : LkRelM w w1 l p c 0 #[.int .i64 t.K, .int .i64 t.N, .string t.S, .string t.Z, .int .i64 t.T.K, .int .i64 t.T.N, .slice a1 l1 c1, .slice a2 l2 c2, .slice a3 l3 c3] 0 t.A := ⟨grown_below HWW.out.1 hb1, (hb1.block _ (by have := HXs.out; omega)).trans HWW.out.2.2, by have := (hb1.block p (by have := HXs.out; omega)).trans HWW.out.2.1; simpa using this, rfl⟩
    clear f r hfX h150 hl0 hb1
    have xx := (Nine.box hR0.box).c8
    simp only [Nat.zero_add] at xx
    go_wp2_with fail
    clear xx
    go_loopw [7] (fun i wr => ∃ j m : Nat, j ≤ l3 ∧ i = .int .i64 j ∧ c + 1 + m ≤ 150 ∧ LkRelM w wr l p c j #[.int .i64 t.K, .int .i64 t.N, .string t.S, .string t.Z, .int .i64 t.T.K, .int .i64 t.T.N, .slice a1 l1 c1, .slice a2 l2 c2, .slice a3 l3 c3] m t.A) (fun i _ => l3 - (intOf i).toNat)
    case atStart => exact ⟨0, 0, by omega, rfl, by omega, hR0⟩
    case round =>
      obtain ⟨j, m, hj, rfl, hm, hR⟩ := hrel
      have hg := hR.grown
      have hsz := hg.size
      have x8 := (Nine.box hR.box).c8
      simp only [Nat.zero_add] at x8
      clear hR0
      by_cases hlt : j < l3
      · have hlt' : j < t.A.length := by have := HL.out; omega
        obtain ⟨b, o, rfl, _, hbB, b1, m1, d1, b2, m2, d2, b3, m3, d3, h9, hf1⟩ := hf.m.get j hlt'
        obtain ⟨e0, e1, e2, e3, e4, e5, e6, e7, e8⟩ := h9.world (hg.block b (by omega) (by simp; omega))
        have hf2 := Fm.grown hg hBp hp hf1
        have hcl := hR.cell
        have hcl' : wr.heap[p]? = some (.cells #[.int .i64 ((c + 1 + m : Nat) : Int)] 3 (0, 0)) := by rw [hcl]; simp
        have HF : Hid (_ = _) := nodesG_take (nodesM l) t.A j hlt' m hR.nodes
        clear hcl
        go_wp2_with fail
        refine (IH D (d - 1) L B p (c + 1 + m) t.A[j] _ _ _ _ _ _ _ _ _ _ hBp (by omega) hcl' (by omega) hf2).mono ?_
        rintro e w2 ⟨rfl, hg2, c', hc2, hc3⟩
        have hg3 := grown_trans hg hg2
        have hbox2 : w2.heap[w.heap.size]? = _ := (hg2.block _ (by have := (Array.getElem?_eq_some_iff.1 hR.box).1; exact this) (by simp; omega)).trans hR.box
        cases hv : lookM l (c + 1 + m) t.A[j] with
        | false =>
          clear hc3 hcl'
          go_wp2_with fail
          go_ret
          have hno : lookM (l + 1) c t = false := by
            unfold lookM
            rw [HO.out]
            cases hnl : nodesG (nodesM l) t.A with
            | none => rfl
            | some s =>
              cases hq : nodesM l t.A[j] with
              | none => rw [nodesG_none _ _ j hlt' hq] at hnl; cases hnl
              | some a =>
                have h1 := nodesG_part _ _ j hlt' m a s hR.nodes hq hnl
                rw [lookM_some hq] at hv
                simp at hv ⊢
                omega
          exact ⟨ret_bool hno.symm, hg3, _, hc2, fun m hm hle => (lookM_no hno m hm hle).elim⟩
        | true =>
          have hN : ∃ a, nodesM l t.A[j] = some a ∧ c + 1 + m + a ≤ 150 ∧ c' = ((c + 1 + m : Nat) : Int) + a := by
            have hv' := hv
            cases hq : nodesM l t.A[j] with
            | none => simp [lookM, hq] at hv'
            | some a =>
              rw [lookM_some hq] at hv'
              have hle : c + 1 + m + a ≤ 150 := by simpa using hv'
              exact ⟨a, rfl, hle, hc3 a hq hle⟩
          obtain ⟨a, hfa, hle, hce⟩ := hN
          have hT : nodesG (nodesM l) (t.A.take (j + 1)) = some (m + a) := by rw [HF.out, hfa]; rfl
          have hR2 : LkRelM w w2 l p c (j + 1) _ (m + a) t.A := ⟨hg3, hbox2, by rw [hc2, hce]; simp; omega, hT⟩
          clear hc3 hce hT hfa hcl' hc2 hbox2 x8 hR
          go_wp2_with fail
          go_roundw
          case rel => exact ⟨j + 1, m + a, by omega, by go_num, by omega, hR2⟩
          case measure => simp [intOf]; omega
      · have hNn : nodesG (nodesM l) t.A = some m := by have h1 := HL.out; have h2 := hR.nodes; rw [List.take_of_length_le (by omega)] at h2; exact h2
        have HN : Hid (nodesG (nodesM l) t.A = some m) := hNn
        clear hNn
        have hcl : Hid (_ = _) := hR.cell
        go_wp2_with fail
        go_ret
        have hw : nodesM (l + 1) t = some (1 + m) := by rw [HO.out, HN.out]; rfl
        refine ⟨ret_bool (by rw [lookM_some hw]; simp; omega), hg, _, hcl.out, fun m' hm' _ => ?_⟩
        rw [hw] at hm'
        cases hm'
        omega

theorem lkm_any : ∀ l, l ≤ 24 → SaidLkM l := by
  intro l
  induction l with
  | zero => intro _; exact lkm_zero
  | succ l ih => intro h; exact lkm_succ l (by omega) (ih (by omega))

theorem lookM_ok (t : Tm) : lookM 24 0 t = okM t := by
  unfold lookM okM
  cases h : nodesM 24 t with
  | none => rfl
  | some m => by_cases h6 : m ≤ 150 <;> simp [lid, h6]

set_option maxHeartbeats 400000 in
theorem sTermOk_any (D d L B : Nat) (t : Tm) (a1 : Option Addr) (l1 c1 : Nat) (a2 : Option Addr) (l2 c2 : Nat) (a3 : Option Addr) (l3 c3 : Nat) (w : World) (hB : B ≤ w.heap.size) (hf : Fm L B w D d t a1 l1 a2 l2 a3 l3) :
    Calls Tryz.prog 17 #[.agg #[.int .i64 t.K, .int .i64 t.N, .string t.S, .string t.Z, .int .i64 t.T.K, .int .i64 t.T.N, .slice a1 l1 c1, .slice a2 l2 c2, .slice a3 l3 c3]] w fun e w' => e = .returned (.bool (okM t)) ∧ Below w.heap.size w w' := by
  obtain ⟨X, hX⟩ : ∃ X, X = ((w.alloc (.cells #[.int .i64 t.K, .int .i64 t.N, .string t.S, .string t.Z, .int .i64 t.T.K, .int .i64 t.T.N, .slice a1 l1 c1, .slice a2 l2 c2, .slice a3 l3 c3] 34)).alloc (.cells #[.int .i64 0] 3)) := ⟨_, rfl⟩
  have hXs : X.heap.size = w.heap.size + 2 := by rw [hX]; simp
  have hXb : Below w.heap.size w X := by rw [hX]; exact ((Below.refl _ _).alloc (Nat.le_refl _) _).alloc (by simp) _
  have hX1 : X.heap[w.heap.size + 1]? = some (.cells #[.int .i64 ((0 : Nat) : Int)] 3 (0, 0)) := by rw [hX]; exact heap_new (by simp)
  have hf1 := Fm.below hXb hB hf
  have HX : Hid (X = _) := hX
  have HX1 : Hid (_ = _) := hX1
  clear hX hX1
  go_enter Tryz.func17, Tryz.ntmps17
  go_wp2_with fail
  rw [← HX.out]
  refine (lkm_any 24 (by omega) D d L B _ 0 t _ _ _ _ _ _ _ _ _ _ (by omega) (by omega) HX1.out (by omega) hf1).mono ?_
  rintro e w1 ⟨rfl, hg, _⟩
  rw [lookM_ok]
  have hb2 : Below w.heap.size w w1 := hXb.grown hg (by omega) (by simp)
  go_wp2_with fail
  go_ret
  exact ⟨rfl, hb2⟩

end Go.Proofs.YtibbdhmbgnjmoaaGreat

/-
  What the program's 'Fold' comes to, of a term that is right.
-/
namespace Go.Proofs.YtibbdhmbgnjmoaaGreat
open Go.RowKit
set_option linter.unusedVariables false
set_option linter.unusedSimpArgs false

/-- A term is answered in new memory of its own. -/
def NewM (w : World) (D d : Nat) (u : Tm) (e : Ending) (w' : World) : Prop :=
  ∃ b1 m1 e1 b2 m2 e2 b3 m3 e3, e = .returned (.agg #[.int .i64 u.K, .int .i64 u.N, .string u.S, .string u.Z, .int .i64 u.T.K, .int .i64 u.T.N, .slice b1 m1 e1, .slice b2 m2 e2, .slice b3 m3 e3]) ∧ Below w.heap.size w w' ∧ FmO w.heap.size w'.heap.size w' D d u b1 m1 b2 m2 b3 m3

/-- A call's answer is laid into the block of one's own result, and answered. -/
theorem fin_new {w w3 : World} {base D d : Nat} {R : Tm} {b1 b2 b3 : Option Addr} {m1 m2 m3 e1 e2 e3 : Nat} (hf : FmO base w3.heap.size w3 D d R b1 m1 b2 m2 b3 m3) (hbase : w.heap.size + 2 ≤ base) (hb : Below w.heap.size w w3) {v0 v1 v2 v3 v4 v5 v6 v7 v8 : Value} :
    NewM w D d R (.returned (.agg #[.int .i64 R.K, .int .i64 R.N, .string R.S, .string R.Z, .int .i64 R.T.K, .int .i64 R.T.N, .slice b1 m1 e1, .slice b2 m2 e2, .slice b3 m3 e3])) (((((((((w3.setCell ⟨w.heap.size + 1, 0, none⟩ v0).setCell ⟨w.heap.size + 1, 1, none⟩ v1).setCell ⟨w.heap.size + 1, 2, none⟩ v2).setCell ⟨w.heap.size + 1, 3, none⟩ v3).setCell ⟨w.heap.size + 1, 4, none⟩ v4).setCell ⟨w.heap.size + 1, 5, none⟩ v5).setCell ⟨w.heap.size + 1, 6, none⟩ v6).setCell ⟨w.heap.size + 1, 7, none⟩ v7).setCell ⟨w.heap.size + 1, 8, none⟩ v8) := by
  have hfp : FmP (fun b => b ≠ w.heap.size + 1) w.heap.size w3.heap.size w3 D d R b1 m1 b2 m2 b3 m3 := by
    obtain ⟨bs, q1, q2, q3⟩ := hf
    exact ⟨bs, q1, q2, fun b hb => ⟨⟨by have := (q3 b hb).1; omega, (q3 b hb).2⟩, by have := (q3 b hb).1; show b ≠ _; omega⟩⟩
  obtain ⟨h1, h2⟩ := finF (B0 := w.heap.size) (v0 := v0) (v1 := v1) (v2 := v2) (v3 := v3) (v4 := v4) (v5 := v5) (v6 := v6) (v7 := v7) (v8 := v8) hfp hb (Nat.le_succ _) (Nat.le_refl _)
  exact ⟨b1, m1, e1, b2, m2, e2, b3, m3, e3, rfl, h1, h2⟩

set_option maxRecDepth 100000 in
set_option maxHeartbeats 4000000 in
theorem rebuilt_fold (D d L B : Nat) (t : Tm) (a1 : Option Addr) (l1 c1 : Nat) (a2 : Option Addr) (l2 c2 : Nat) (a3 : Option Addr) (l3 c3 : Nat) (tb tt : Nat) (w : World) (hB : B ≤ w.heap.size) (hT : Tab w tb tt) (hf : Fm L B w D d t a1 l1 a2 l2 a3 l3) (m : Nat) (hm : nodesM 24 t = some m) (hm150 : m ≤ 150) (hc : cntM t ≤ 1048576) :
    Calls Tryz.prog 26 #[.agg #[.int .i64 t.K, .int .i64 t.N, .string t.S, .string t.Z, .int .i64 t.T.K, .int .i64 t.T.N, .slice a1 l1 c1, .slice a2 l2 c2, .slice a3 l3 c3], fdF tb] w (NewM w (D + 1) 24 (foldM t)) := by
  obtain ⟨X, hX⟩ : ∃ X, X = ((w.alloc (.cells #[.int .i64 t.K, .int .i64 t.N, .string t.S, .string t.Z, .int .i64 t.T.K, .int .i64 t.T.N, .slice a1 l1 c1, .slice a2 l2 c2, .slice a3 l3 c3] 34)).alloc (.cells #[.int .i64 0, .int .i64 0, .string ⟨#[]⟩, .string ⟨#[]⟩, .int .i64 0, .int .i64 0, .slice none 0 0, .slice none 0 0, .slice none 0 0] 34)).alloc (.cells #[.int .i64 0] 3) := ⟨_, rfl⟩
  have hXb : Below w.heap.size w X := by rw [hX]; exact bX_alloc (bX_alloc (bX_alloc (Below.refl _ _)))
  have hX1 : X.heap[w.heap.size + 1]? = some (.cells #[.int .i64 0, .int .i64 0, .string ⟨#[]⟩, .string ⟨#[]⟩, .int .i64 0, .int .i64 0, .slice none 0 0, .slice none 0 0, .slice none 0 0] 34 (0, 0)) := by rw [hX, Below.heap_alloc _ _ _ (by simp)]; exact heap_new (by simp)
  have hX2 : X.heap[w.heap.size + 1 + 1]? = some (.cells #[.int .i64 0] 3 (0, 0)) := by rw [hX]; exact heap_new (by simp)
  have hXs : X.heap.size = w.heap.size + 3 := by rw [hX]; simp
  have htb : tb < w.heap.size := (Array.getElem?_eq_some_iff.1 hT.v).1
  have htt : tt < w.heap.size := (Array.getElem?_eq_some_iff.1 hT.r).1
  have HX : Hid (X = _) := hX
  obtain ⟨R, hR⟩ : ∃ R, foldM t = R := ⟨_, rfl⟩
  have HC := fd_any 24 D d L B t a1 l1 c1 a2 l2 c2 a3 l3 c3 m (w.heap.size + 1 + 1) tb tt 0 X (by omega) (by omega) hX2 (by omega) (by omega) (hT.below hXb) (Fm.below hXb hB hf) hm (Nat.le_refl _) hm150 hc (by omega) (by omega)
  rw [hR] at HC ⊢
  clear hX
  go_enter Tryz.func26, Tryz.ntmps26
  go_wp2_with fail
  rw [← HX.out]
  refine HC.mono ?_
  rintro e w3 ⟨b1, n1, i1, b2, n2, i2, b3, n3, i3, rfl, hN, ho⟩
  have hb3 : Below w.heap.size w w3 := ⟨hN.kf.os.trans hXb.os, hN.kf.tape.trans hXb.tape, hN.kf.output.trans hXb.output, Nat.le_trans hXb.size hN.kf.size, fun k hk => (hN.kf.block k (by omega) (by omega)).trans (hXb.block k hk)⟩
  have y1 := (hN.kf.block (w.heap.size + 1) (by omega) (by omega)).trans hX1
  obtain ⟨p0, p1, p2, p3, p4, p5, p6, p7, p8⟩ := Nine.box y1
  have pf := row_free y1
  clear HC
  go_wp2_with fail
  refine bodyPost_ret (v := .agg #[.int .i64 R.K, .int .i64 R.N, .string R.S, .string R.Z, .int .i64 R.T.K, .int .i64 R.T.N, .slice b1 n1 i1, .slice b2 n2 i2, .slice b3 n3 i3]) (by simp [results, Tryz.results26, go_sem, p0, p1, p2, p3, p4, p5, p6, p7, p8]) rfl ?_
  exact fin_new ho (by omega) hb3

set_option maxRecDepth 100000 in
set_option maxHeartbeats 4000000 in
theorem fold_right (D d L B : Nat) (t : Tm) (a1 : Option Addr) (l1 c1 : Nat) (a2 : Option Addr) (l2 c2 : Nat) (a3 : Option Addr) (l3 c3 : Nat) (w : World) (hB : B ≤ w.heap.size) (hf : Fm L B w D d t a1 l1 a2 l2 a3 l3) (hok : okM t = true) (hc : cntM t ≤ 1048576) :
    Calls Tryz.prog 8 #[.agg #[.int .i64 t.K, .int .i64 t.N, .string t.S, .string t.Z, .int .i64 t.T.K, .int .i64 t.T.N, .slice a1 l1 c1, .slice a2 l2 c2, .slice a3 l3 c3]] w (NewM w (D + 1) 24 (foldM t)) := by
  obtain ⟨m, hm, hm6⟩ := okM_some hok
  obtain ⟨X, hX⟩ : ∃ X, X = (w.alloc (.cells #[.int .i64 t.K, .int .i64 t.N, .string t.S, .string t.Z, .int .i64 t.T.K, .int .i64 t.T.N, .slice a1 l1 c1, .slice a2 l2 c2, .slice a3 l3 c3] 34)).alloc (.cells #[.int .i64 0, .int .i64 0, .string ⟨#[]⟩, .string ⟨#[]⟩, .int .i64 0, .int .i64 0, .slice none 0 0, .slice none 0 0, .slice none 0 0] 34) := ⟨_, rfl⟩
  have hXb : Below w.heap.size w X := by rw [hX]; exact bX_alloc (bX_alloc (Below.refl _ _))
  have hX0 : X.heap[w.heap.size]? = some (.cells #[.int .i64 t.K, .int .i64 t.N, .string t.S, .string t.Z, .int .i64 t.T.K, .int .i64 t.T.N, .slice a1 l1 c1, .slice a2 l2 c2, .slice a3 l3 c3] 34 (0, 0)) := by rw [hX, Below.heap_alloc _ _ _ (by simp)]; exact heap_new rfl
  have hX1 : X.heap[w.heap.size + 1]? = some (.cells #[.int .i64 0, .int .i64 0, .string ⟨#[]⟩, .string ⟨#[]⟩, .int .i64 0, .int .i64 0, .slice none 0 0, .slice none 0 0, .slice none 0 0] 34 (0, 0)) := by rw [hX]; exact heap_new (by simp)
  have hXs : X.heap.size = w.heap.size + 2 := by rw [hX]; simp
  have HX : Hid (X = _) := hX
  have HOK : Hid (okM t = true) := hok
  obtain ⟨R, hR⟩ : ∃ R, foldM t = R := ⟨_, rfl⟩
  rw [hR]
  have HR : Hid (foldM t = R) := hR
  clear hX hok hR
  go_enter Tryz.func8, Tryz.ntmps8
  go_wp2_with fail
  rw [← HX.out]
  refine (termOk_any D d L B t _ _ _ _ _ _ _ _ _ X (by omega) (Fm.below hXb hB hf)).mono ?_
  rintro e w1 ⟨rfl, hb1⟩
  rw [HOK.out]
  have hz1 := hb1.size
  have hbw1 : Below w.heap.size w w1 := hXb.trans (hb1.mono hXb.size)
  go_wp2_with fail
  refine (foldings_any w1).mono ?_
  rintro e w2 ⟨rfl, rfl⟩
  have hw2 : Below w1.heap.size w1 (w1.alloc (.cells tabF 80)) := bX_alloc (Below.refl _ _)
  have hw2s : (w1.alloc (.cells tabF 80)).heap.size = w1.heap.size + 1 := by simp
  have hw2t : (w1.alloc (.cells tabF 80)).heap[w1.heap.size]? = some (.cells tabF 80 (0, 0)) := heap_new rfl
  generalize w1.alloc (.cells tabF 80) = w2 at *
  obtain ⟨Y, hY⟩ : ∃ Y, Y = w2.alloc (.cells #[.slice (some ⟨w1.heap.size, 0, none⟩) 7 7] 47) := ⟨_, rfl⟩
  have hYb : Below w2.heap.size w2 Y := by rw [hY]; exact bX_alloc (Below.refl _ _)
  have hYt : Y.heap[w2.heap.size]? = some (.cells #[.slice (some ⟨w1.heap.size, 0, none⟩) 7 7] 47 (0, 0)) := by rw [hY]; exact heap_new rfl
  have hTab : Tab Y w2.heap.size w1.heap.size := ⟨hYt, (hYb.block _ (by omega)).trans hw2t⟩
  have hYw1 : Below w1.heap.size w1 Y := hw2.trans (hYb.mono hw2.size)
  have hYw : Below w.heap.size w Y := hbw1.trans (hYw1.mono hbw1.size)
  have y0 := (hYw1.block w.heap.size (by omega)).trans ((hb1.block w.heap.size (by omega)).trans hX0)
  have y1 := (hYw1.block (w.heap.size + 1) (by omega)).trans ((hb1.block (w.heap.size + 1) (by omega)).trans hX1)
  have HY : Hid (Y = _) := hY
  have E := Nine.box y0
  rw [hY] at E
  obtain ⟨f0, f1, f2, f3, f4, f5, f6, f7, f8⟩ := E
  have hYs : Y.heap.size = w2.heap.size + 1 := by rw [hY]; simp
  clear hY
  have HC := rebuilt_fold D d L B t a1 l1 c1 a2 l2 c2 a3 l3 c3 w2.heap.size w1.heap.size Y (Nat.le_trans hB hYw.size) hTab (Fm.below hYw hB hf) m hm hm6 hc
  rw [HR.out, hw2s] at HC
  go_wp2_with fail
  rw [← HY.out]
  refine HC.mono ?_
  rintro e w3 ⟨b1, n1, i1, b2, n2, i2, b3, n3, i3, rfl, hb3, ho⟩
  have hbw3 : Below w.heap.size w w3 := hYw.trans (hb3.mono hYw.size)
  have z1 := (hb3.block (w.heap.size + 1) (by omega)).trans y1
  obtain ⟨p0, p1, p2, p3, p4, p5, p6, p7, p8⟩ := Nine.box z1
  have pf := row_free z1
  clear HC f0 f1 f2 f3 f4 f5 f6 f7 f8
  go_wp2_with fail
  refine bodyPost_ret (v := .agg #[.int .i64 R.K, .int .i64 R.N, .string R.S, .string R.Z, .int .i64 R.T.K, .int .i64 R.T.N, .slice b1 n1 i1, .slice b2 n2 i2, .slice b3 n3 i3]) (by simp [results, Tryz.results8, go_sem, p0, p1, p2, p3, p4, p5, p6, p7, p8]) rfl ?_
  exact fin_new ho (by omega) hbw3

end Go.Proofs.YtibbdhmbgnjmoaaGreat

/-
  What 'ownTerm' comes to.
-/
namespace Go.Proofs.YtibbdhmbgnjmoaaGreat
open Go.RowKit
set_option linter.unusedVariables false
set_option linter.unusedSimpArgs false

theorem TrV.form {f : Nat → Nat} {E : List (Nat × Nat × Bool)} {k : Bool} {u u' : Value} (h : TrV f E k u u') : ∃ a l c, u' = .slice a l c := by
  rcases h with ⟨_, _, _, e⟩ | ⟨_, _, _, _, _, _, e⟩
  · exact ⟨_, _, _, e⟩
  · exact ⟨_, _, _, e⟩

theorem Gc.swap {X wr : World} {D d : Nat} {f : Nat → Nat} {E : List (Nat × Nat × Bool)} {pend : List Cl} {a b : Hd} {hand : List Hd} (h : Gc X wr D d f E pend (a :: b :: hand)) : Gc X wr D d f E pend (b :: a :: hand) := by
  have hp : (a :: b :: hand).Perm (b :: a :: hand) := List.Perm.swap _ _ _
  refine ⟨h.row, fun g n k o k' h1 h2 h3 => ?_, h.pnd, fun z hz => h.hnd z (hp.mem_iff.2 hz), h.ndo, h.lto, h.ndn, h.ltn, ?_⟩
  · rcases h.slot g n k o k' h1 h2 h3 with e | ⟨z, hz, e⟩ | e
    · exact Or.inl e
    · exact Or.inr (Or.inl ⟨z, hp.mem_iff.1 hz, e⟩)
    · exact Or.inr (Or.inr e)
  · exact (((hp.map _).append_left _).nodup_iff).1 h.nda

theorem On.swap {w X wr : World} {D d : Nat} {oM mM : Nat} {vM : Value} {oY mY : Nat} {vY : Value} {f : Nat → Nat} {E : List (Nat × Nat × Bool)} {pt : List TP} {py ex : List Cl} {a b : Hd} {hand : List Hd} (h : On w X wr D d oM mM vM oY mY vY f E pt py ex (a :: b :: hand)) : On w X wr D d oM mM vM oY mY vY f E pt py ex (b :: a :: hand) :=
  ⟨h.gc.swap, h.olM, h.olY, h.mm, h.bel, h.bx, h.xs, h.low, h.eb, h.res, h.pyk, h.wt⟩

/-- The state as 'ownTerm' begins. -/
theorem on_start {w X W : World} {D d : Nat} {t : Tm} {a1 a2 a3 : Option Addr} {l1 l2 l3 c1 c2 c3 : Nat} {bs : List Nat} {p1 p2 p3 : List Nat} (hX : X = w.alloc (.cells #[.int .i64 t.K, .int .i64 t.N, .string t.S, .string t.Z, .int .i64 t.T.K, .int .i64 t.T.N, .slice a1 l1 c1, .slice a2 l2 c2, .slice a3 l3 c3] 34)) (hbs : bs = p1 ++ p2 ++ p3) (q1 : Ow w D a1 l1 t.T.A p1) (q2 : Ow w D a2 l2 t.Ts p2) (q3 : OwM w D d a3 l3 t.A p3) (hnd : bs.Nodup) (hlt : ∀ b ∈ bs, b < w.heap.size) (hc : cntM t ≤ 1048576)
    (hb : Below w.heap.size w W) (h0 : W.heap[w.heap.size]? = some (.cells #[.int .i64 t.K, .int .i64 t.N, .string t.S, .string t.Z, .int .i64 t.T.K, .int .i64 t.T.N, .slice a1 l1 c1, .slice a2 l2 c2, .slice a3 l3 c3] 34 (0, 0))) (h1 : W.heap[w.heap.size + 1]? = some (.cells nineZ 34 (0, 0))) (h2 : W.heap[w.heap.size + 2]? = some (.map #[] 0)) (h3 : W.heap[w.heap.size + 3]? = some (.cells #[.pointer (some ⟨w.heap.size, 0, none⟩)] 67 (0, 0)))
    (h4 : W.heap[w.heap.size + 4]? = some (.cells #[.map (some (w.heap.size + 2)), .slice (some ⟨w.heap.size + 3, 0, none⟩) 1 1, .int .i64 0] 70 (0, 0))) (h5 : W.heap[w.heap.size + 5]? = some (.map #[] 0)) (h6 : W.heap[w.heap.size + 6]? = some (.cells #[.map (some (w.heap.size + 5)), .slice none 0 0, .int .i64 0] 74 (0, 0))) :
    On w X W D d (w.heap.size + 4) (w.heap.size + 2) (.slice (some ⟨w.heap.size + 3, 0, none⟩) 1 1) (w.heap.size + 6) (w.heap.size + 5) (.slice none 0 0) id [(w.heap.size, 1, true)] [⟨w.heap.size, 0, t, a1, l1, c1, a2, l2, c2, a3, l3, c3, p1, p2, p3⟩] [] [] [] := by
  have hXb : Below w.heap.size w X := by rw [hX]; exact bX_alloc (Below.refl _ _)
  have hX0 : X.heap[w.heap.size]? = some (.cells #[.int .i64 t.K, .int .i64 t.N, .string t.S, .string t.Z, .int .i64 t.T.K, .int .i64 t.T.N, .slice a1 l1 c1, .slice a2 l2 c2, .slice a3 l3 c3] 34 (0, 0)) := by rw [hX]; exact heap_new rfl
  have hXs : X.heap.size = w.heap.size + 1 := by rw [hX]; simp
  have hW : w.heap.size + 6 < W.heap.size := (Array.getElem?_eq_some_iff.1 h6).1
  have hin : ∀ p : List Nat, (∀ b ∈ p, b ∈ bs) → ∀ b ∈ p, X.heap[b]? = w.heap[b]? := fun p hp b hb' => hXb.block b (hlt b (hp b hb'))
  have r1 : Ow X D a1 l1 t.T.A p1 := q1.keep (hin p1 fun b hb' => by rw [hbs]; simp [hb'])
  have r2 : Ow X D a2 l2 t.Ts p2 := q2.keep (hin p2 fun b hb' => by rw [hbs]; simp [hb'])
  have r3 : OwM X D d a3 l3 t.A p3 := q3.keep (hin p3 fun b hb' => by rw [hbs]; simp [hb'])
  have hsame : ∀ o, W.cell? ⟨w.heap.size, o, none⟩ = X.cell? ⟨w.heap.size, o, none⟩ := fun o => by rw [row_cell h0, row_cell hX0]
  refine ⟨⟨?_, ?_, ?_, by simp, ?_, ?_, by simp, ?_, ?_⟩, ⟨[], ⟨by omega, by omega, by omega, ⟨0, h4⟩, ?_, ?_, ⟨#[], 0, h2, fun e he => by simp at he⟩, by simp⟩, by simp⟩, ⟨[], ⟨by omega, by omega, by omega, ⟨0, h6⟩, ⟨rfl, Or.inl ⟨rfl, rfl⟩⟩, fun x hx => by simp [Value.ownBlock] at hx, ⟨#[], 0, h5, fun e he => by simp at he⟩, by simp⟩, by simp⟩, by omega, hb, hXb, hXs, ?_, ⟨by simp, rfl⟩, h1, by simp, ?_⟩
  · intro g n k hg
    simp only [List.mem_singleton, Prod.mk.injEq] at hg
    obtain ⟨rfl, rfl, rfl⟩ := hg
    exact ⟨by omega, by omega, ⟨_, h0, by simp [szK]⟩, fun o _ _ => hsame o⟩
  · intro g n k o k' hg ho hs
    simp only [List.mem_singleton, Prod.mk.injEq] at hg
    obtain ⟨rfl, rfl, rfl⟩ := hg
    simp only [szK, Nat.one_mul] at ho hs
    rw [Nat.mod_eq_of_lt ho] at hs
    left
    match o, ho, hs with
    | 6, _, _ => exact ⟨_, by simp [TP.cells]; left; rfl, rfl, rfl⟩
    | 7, _, _ => exact ⟨_, by simp [TP.cells]; right; left; rfl, rfl, rfl⟩
    | 8, _, _ => exact ⟨_, by simp [TP.cells]; right; right; rfl, rfl, rfl⟩
  · intro x hx
    simp only [List.nil_append, List.flatMap_cons, List.flatMap_nil, List.append_nil, TP.cells, List.mem_cons, List.not_mem_nil, or_false] at hx
    rcases hx with rfl | rfl | rfl
    · exact ⟨r1, row_cell h0 6, w.heap.size, 1, true, by simp, rfl, by simp [TP.cT, szK], rfl, row_cell hX0 6⟩
    · exact ⟨r2, row_cell h0 7, w.heap.size, 1, true, by simp, rfl, by simp [TP.cTs, szK], rfl, row_cell hX0 7⟩
    · exact ⟨r3, row_cell h0 8, w.heap.size, 1, true, by simp, rfl, by simp [TP.cA, szK], rfl, row_cell hX0 8⟩
  · simp only [List.nil_append, List.flatMap_cons, List.flatMap_nil, List.append_nil, TP.cells, TP.cT, TP.cTs, TP.cA, List.map_cons, List.map_nil]
    rw [← List.append_assoc, ← hbs]
    refine List.nodup_append.2 ⟨hnd, by simp, fun a ha b hb' e => ?_⟩
    simp at hb'
    have := hlt a ha
    omega
  · intro b hb'
    simp only [List.nil_append, List.flatMap_cons, List.flatMap_nil, List.append_nil, TP.cells, TP.cT, TP.cTs, TP.cA, List.map_cons, List.map_nil] at hb'
    rw [← List.append_assoc, ← hbs] at hb'
    rcases List.mem_append.1 hb' with hb' | hb'
    · have := hlt b hb'; omega
    · simp at hb'; omega
  · intro g n k hg
    simp only [List.mem_singleton, Prod.mk.injEq] at hg
    obtain ⟨rfl, rfl, rfl⟩ := hg
    show w.heap.size < _
    omega
  · simp [TP.cells, TP.cT, TP.cTs, TP.cA]
  · exact ⟨rfl, Or.inr ⟨w.heap.size + 3, 1, _, rfl, by omega, h3, by simp, by unfold maxLen; simp, by simp, by simp [TP.ad]⟩⟩
  · intro x hx
    have : w.heap.size + 3 = x := by simpa [Value.ownBlock] using hx
    omega
  · intro g n k hg
    simp only [List.mem_singleton, Prod.mk.injEq] at hg
    obtain ⟨rfl, rfl, rfl⟩ := hg
    exact Or.inl rfl
  · simp [TP.wt]; omega

end Go.Proofs.YtibbdhmbgnjmoaaGreat
