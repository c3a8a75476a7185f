/-
  What the model's 'l2Look', 'TermOk', 'NodesOf' come to.
-/
import Derived.Test.YtgckmnchlkgakaaLmbOne
import Derived.Test.YtgckmnchlkgakaaLmbTq
namespace Go.Proofs.Ytgckmnchlkgakaa
open Go.RowKit Go.PlainAid
set_option linter.unusedVariables false
set_option linter.unusedSimpArgs false

/-- What 'l2Look' answers, c being the count ahead of it. -/
def lookM (l c : Nat) (t : Tm) : Bool := match nodesM l t with | some m => decide (c + m ≤ 150) | none => false

theorem Fm.grown {L B p : Nat} {w w' : World} {D d : Nat} (hg : w.grownBy w' (some p)) (hB : B ≤ p) (hp : p < w.heap.size) {t : Tm} {a1 a2 a3 : Option Addr} {l1 l2 l3 : Nat} (h : Fm L B w D d t a1 l1 a2 l2 a3 l3) : Fm L B w' D d t a1 l1 a2 l2 a3 l3 :=
  Fm.keep (fun k _ hk => hg.block k (by omega) (by simp; omega)) (Nat.le_refl _) (Nat.le_refl _) h
theorem grown_then {w w' w'' : World} {p : Nat} (hg : w.grownBy w' (some p)) (hb : Below w'.heap.size w' w'') : w.grownBy w'' (some p) :=
  ⟨hb.os.trans hg.os, hb.tape.trans hg.tape, hb.output.trans hg.output, Nat.le_trans hg.size hb.size, fun i hi hr => (hb.block i (Nat.lt_of_lt_of_le hi hg.size)).trans (hg.block i hi hr)⟩

theorem lkm_world {w : World} {p : Nat} {v : Value} {t : TypeId} (hcell : w.heap[p]? = some (.cells #[v] t (0, 0))) (hp : p < w.heap.size) (u : Value) (cs : Array Value) (t' : TypeId) :
    w.grownBy ((w.setCell ⟨p, 0, none⟩ u).alloc (.cells cs t')) (some p) ∧ ((w.setCell ⟨p, 0, none⟩ u).alloc (.cells cs t')).heap[p]? = some (.cells #[u] t (0, 0)) ∧
    ((w.setCell ⟨p, 0, none⟩ u).alloc (.cells cs t')).heap[w.heap.size]? = some (.cells cs t' (0, 0)) := by
  refine ⟨⟨rfl, rfl, rfl, ?_, ?_⟩, ?_, ?_⟩
  · simp
  · intro k hk hr
    rw [Below.heap_alloc _ _ _ (by simpa using hk), row_other _ _ _ (by simpa using hr)]
  · rw [Below.heap_alloc _ _ _ (by simpa using hp), row_set hcell]
    rfl
  · exact heap_new (by simp)

def SaidLkM (l : Nat) : Prop := ∀ (D d L B p c : Nat) (t : Tm) (a1 : Option Addr) (l1 c1 : Nat) (a2 : Option Addr) (l2 c2 : Nat) (a3 : Option Addr) (l3 c3 : Nat) (w : World), B ≤ p → p < w.heap.size → w.heap[p]? = some (.cells #[.int .i64 c] 3 (0, 0)) → c ≤ 150 → Fm L B w D d t a1 l1 a2 l2 a3 l3 →
    Calls Try.prog 58 #[.agg #[.int .i64 t.K, .int .i64 t.N, .string t.S, .string t.Z, .int .i64 t.T.K, .int .i64 t.T.N, .slice a1 l1 c1, .slice a2 l2 c2, .slice a3 l3 c3], .int .i64 l, .pointer (some ⟨p, 0, none⟩)] w fun e w' =>
      e = .returned (.bool (lookM l c t)) ∧ w.grownBy w' (some p) ∧ ∃ c' : Int, w'.heap[p]? = some (.cells #[.int .i64 c'] 3 (0, 0)) ∧ (∀ m, nodesM l t = some m → c + m ≤ 150 → c' = c + m)

theorem lookM_no {l c : Nat} {t : Tm} (h : lookM l c t = false) : ∀ m, nodesM l t = some m → c + m ≤ 150 → False := by
  intro m hm hle
  simp only [lookM, hm, decide_eq_false_iff_not] at h
  exact h hle
theorem lookM_some {l c m : Nat} {t : Tm} (h : nodesM l t = some m) : lookM l c t = decide (c + m ≤ 150) := by simp [lookM, h]
theorem lookM_deep {l c : Nat} {t : Tm} (h : nodeM t = false) : lookM (l + 1) c t = false := by simp [lookM, nodesM, h]
theorem lookM_full {l c : Nat} {t : Tm} (h : 150 < c + 1) : lookM l c t = false := by
  unfold lookM
  split
  · rename_i m hm
    have := nodesM_pos _ _ _ hm
    simp; omega
  · rfl

set_option maxHeartbeats 400000 in
theorem lkm_zero : SaidLkM 0 := by
  intro D d L B p c t a1 l1 c1 a2 l2 c2 a3 l3 c3 w hBp hp hcell hc hf
  have f := row_cell hcell 0
  have r := row_free hcell 0
  simp at f
  have hpn : ¬ w.heap.size = p := by omega
  have HWW : Hid (_ ∧ _ ∧ _) := lkm_world hcell hp (.int .i64 ((c : Int) + 1)) #[.int .i64 t.K, .int .i64 t.N, .string t.S, .string t.Z, .int .i64 t.T.K, .int .i64 t.T.N, .slice a1 l1 c1, .slice a2 l2 c2, .slice a3 l3 c3] 36
  clear hcell
  go_enter Try.func58, Try.ntmps58
  go_wp2_with fail
  go_ret
  exact ⟨ret_bool rfl, HWW.out.1, _, HWW.out.2.1, fun m hm => by simp [nodesM] at hm⟩

/-- What the loop over a term's parts keeps. -/
structure LkRelM (w wr : World) (l p c j : Nat) (cs : Array Value) (m : Nat) (ts : List Tm) : Prop where
  grown : w.grownBy wr (some p)
  box : wr.heap[w.heap.size]? = some (.cells cs 36 (0, 0))
  cell : wr.heap[p]? = some (.cells #[.int .i64 ((c : Int) + 1 + m)] 3 (0, 0))
  nodes : nodesG (nodesM l) (ts.take j) = some m

set_option maxHeartbeats 1000000 in
theorem lkm_succ (l : Nat) (hl24 : l < 24) (IH : SaidLkM l) : SaidLkM (l + 1) := by
  intro D d L B p c t a1 l1 c1 a2 l2 c2 a3 l3 c3 w hBp hp hcell hc hf
  have hll := hf.m.len.2
  have HL : Hid (l3 = t.A.length) := hf.m.len.1
  have f := row_cell hcell 0
  have r := row_free hcell 0
  simp at f
  have hpn : ¬ w.heap.size = p := by omega
  obtain ⟨X, hX⟩ : ∃ X, X = (w.setCell ⟨p, 0, none⟩ (.int .i64 ((c : Int) + 1))).alloc (.cells #[.int .i64 t.K, .int .i64 t.N, .string t.S, .string t.Z, .int .i64 t.T.K, .int .i64 t.T.N, .slice a1 l1 c1, .slice a2 l2 c2, .slice a3 l3 c3] 36) := ⟨_, rfl⟩
  have hXW := lkm_world hcell hp (.int .i64 ((c : Int) + 1)) #[.int .i64 t.K, .int .i64 t.N, .string t.S, .string t.Z, .int .i64 t.T.K, .int .i64 t.T.N, .slice a1 l1 c1, .slice a2 l2 c2, .slice a3 l3 c3] 36
  rw [← hX] at hXW
  have hXs : X.heap.size = w.heap.size + 1 := by rw [hX]; simp
  have HWW : Hid (_ ∧ _ ∧ _) := hXW
  have HX : Hid (X = _) := hX
  have HXs : Hid (_ = _) := hXs
  clear hcell hX hXW hXs
  have hl0 : (((l : Int) + 1) == 0) = false := by simp; omega
  by_cases hfull : 150 < c + 1
  · have HO : Hid (lookM (l + 1) c t = false) := lookM_full hfull
    have h150 : decide (150 < (c : Int) + 1) = true := by simp; omega
    go_enter Try.func58, Try.ntmps58
    go_wp2_with fail
    go_ret
    rw [← HX.out]
    exact ⟨ret_bool HO.out.symm, HWW.out.1, _, HWW.out.2.1, fun m hm hle => (lookM_no HO.out m hm hle).elim⟩
  have h150 : decide (150 < (c : Int) + 1) = false := by simp; omega
  have hfX := Fm.grown HWW.out.1 hBp hp hf
  cases hok : nodeM t with
  | false =>
    have HO : Hid (lookM (l + 1) c t = false) := lookM_deep hok
    have HK : Hid (nodeM t = false) := hok
    clear hok
    go_enter Try.func58, Try.ntmps58
    go_wp2_with fail
    rw [← HX.out]
    refine (l2One_any D d L B t _ _ _ _ _ _ _ _ _ _ (by have := HXs.out; omega) hfX).mono ?_
    rintro e w1 ⟨rfl, hb1⟩
    rw [HK.out]
    go_wp2_with fail
    go_ret
    exact ⟨ret_bool HO.out.symm, grown_then HWW.out.1 hb1, _, (hb1.block p (by have := HXs.out; omega)).trans HWW.out.2.1, fun m hm hle => (lookM_no HO.out m hm hle).elim⟩
  | true =>
    have HO : Hid (nodesM (l + 1) t = (nodesG (nodesM l) t.A).map (1 + ·)) := by show _ = _; simp only [nodesM]; rw [hok]; rfl
    have hlen3 := nodeM_len hok
    have HK : Hid (nodeM t = true) := hok
    clear hok
    go_enter Try.func58, Try.ntmps58
    go_wp2_with fail
    rw [← HX.out]
    refine (l2One_any D d L B t _ _ _ _ _ _ _ _ _ _ (by have := HXs.out; omega) hfX).mono ?_
    rintro e w1 ⟨rfl, hb1⟩
    rw [HK.out]
    have hR0 : LkRelM w w1 l p c 0 #[.int .i64 t.K, .int .i64 t.N, .string t.S, .string t.Z, .int .i64 t.T.K, .int .i64 t.T.N, .slice a1 l1 c1, .slice a2 l2 c2, .slice a3 l3 c3] 0 t.A := ⟨grown_then HWW.out.1 hb1, (hb1.block _ (by have := HXs.out; omega)).trans HWW.out.2.2, by have := (hb1.block p (by have := HXs.out; omega)).trans HWW.out.2.1; simpa using this, rfl⟩
    clear f r hfX h150 hl0 hb1
    have xx := (Nine.box hR0.box).c8
    simp only [Nat.zero_add] at xx
    go_wp2_with fail
    clear xx
    go_loopw [7] (fun i wr => ∃ j m : Nat, j ≤ l3 ∧ i = .int .i64 j ∧ c + 1 + m ≤ 150 ∧ LkRelM w wr l p c j #[.int .i64 t.K, .int .i64 t.N, .string t.S, .string t.Z, .int .i64 t.T.K, .int .i64 t.T.N, .slice a1 l1 c1, .slice a2 l2 c2, .slice a3 l3 c3] m t.A) (fun i _ => l3 - (intOf i).toNat)
    case atStart => exact ⟨0, 0, by omega, rfl, by omega, hR0⟩
    case round =>
      obtain ⟨j, m, hj, rfl, hm, hR⟩ := hrel
      have hg := hR.grown
      have hsz := hg.size
      have x8 := (Nine.box hR.box).c8
      simp only [Nat.zero_add] at x8
      clear hR0
      by_cases hlt : j < l3
      · have hlt' : j < t.A.length := by have := HL.out; omega
        obtain ⟨b, o, rfl, _, hbB, b1, m1, d1, b2, m2, d2, b3, m3, d3, h9, hf1⟩ := hf.m.get j hlt'
        obtain ⟨e0, e1, e2, e3, e4, e5, e6, e7, e8⟩ := h9.world (hg.block b (by omega) (by simp; omega))
        have hf2 := Fm.grown hg hBp hp hf1
        have hcl := hR.cell
        have hcl' : wr.heap[p]? = some (.cells #[.int .i64 ((c + 1 + m : Nat) : Int)] 3 (0, 0)) := by rw [hcl]; simp
        have HF : Hid (_ = _) := nodesG_take (nodesM l) t.A j hlt' m hR.nodes
        clear hcl
        go_wp2_with fail
        refine (IH D (d - 1) L B p (c + 1 + m) t.A[j] _ _ _ _ _ _ _ _ _ _ hBp (by omega) hcl' (by omega) hf2).mono ?_
        rintro e w2 ⟨rfl, hg2, c', hc2, hc3⟩
        have hg3 := grown_trans hg hg2
        have hbox2 : w2.heap[w.heap.size]? = _ := (hg2.block _ (by have := (Array.getElem?_eq_some_iff.1 hR.box).1; exact this) (by simp; omega)).trans hR.box
        cases hv : lookM l (c + 1 + m) t.A[j] with
        | false =>
          clear hc3 hcl'
          go_wp2_with fail
          go_ret
          have hno : lookM (l + 1) c t = false := by
            unfold lookM
            rw [HO.out]
            cases hnl : nodesG (nodesM l) t.A with
            | none => rfl
            | some s =>
              cases hq : nodesM l t.A[j] with
              | none => rw [nodesG_none _ _ j hlt' hq] at hnl; cases hnl
              | some a =>
                have h1 := nodesG_part _ _ j hlt' m a s hR.nodes hq hnl
                rw [lookM_some hq] at hv
                simp at hv ⊢
                omega
          exact ⟨ret_bool hno.symm, hg3, _, hc2, fun m hm hle => (lookM_no hno m hm hle).elim⟩
        | true =>
          have hN : ∃ a, nodesM l t.A[j] = some a ∧ c + 1 + m + a ≤ 150 ∧ c' = ((c + 1 + m : Nat) : Int) + a := by
            have hv' := hv
            cases hq : nodesM l t.A[j] with
            | none => simp [lookM, hq] at hv'
            | some a =>
              rw [lookM_some hq] at hv'
              have hle : c + 1 + m + a ≤ 150 := by simpa using hv'
              exact ⟨a, rfl, hle, hc3 a hq hle⟩
          obtain ⟨a, hfa, hle, hce⟩ := hN
          have hT : nodesG (nodesM l) (t.A.take (j + 1)) = some (m + a) := by rw [HF.out, hfa]; rfl
          have hR2 : LkRelM w w2 l p c (j + 1) _ (m + a) t.A := ⟨hg3, hbox2, by rw [hc2, hce]; simp; omega, hT⟩
          clear hc3 hce hT hfa hcl' hc2 hbox2 x8 hR
          go_wp2_with fail
          go_roundw
          case rel => exact ⟨j + 1, m + a, by omega, by go_num, by omega, hR2⟩
          case measure => simp [intOf]; omega
      · have hNn : nodesG (nodesM l) t.A = some m := by have h1 := HL.out; have h2 := hR.nodes; rw [List.take_of_length_le (by omega)] at h2; exact h2
        have HN : Hid (nodesG (nodesM l) t.A = some m) := hNn
        clear hNn
        have hcl : Hid (_ = _) := hR.cell
        go_wp2_with fail
        go_ret
        have hw : nodesM (l + 1) t = some (1 + m) := by rw [HO.out, HN.out]; rfl
        refine ⟨ret_bool (by rw [lookM_some hw]; simp; omega), hg, _, hcl.out, fun m' hm' _ => ?_⟩
        rw [hw] at hm'
        cases hm'
        omega

theorem lkm_any : ∀ l, l ≤ 24 → SaidLkM l := by
  intro l
  induction l with
  | zero => intro _; exact lkm_zero
  | succ l ih => intro h; exact lkm_succ l (by omega) (ih (by omega))

theorem lookM_ok (t : Tm) : lookM 24 0 t = okM t := by
  unfold lookM okM
  cases h : nodesM 24 t with
  | none => rfl
  | some m => by_cases h6 : m ≤ 150 <;> simp [lid, h6]

set_option maxHeartbeats 400000 in
theorem sTermOk_any (D d L B : Nat) (t : Tm) (a1 : Option Addr) (l1 c1 : Nat) (a2 : Option Addr) (l2 c2 : Nat) (a3 : Option Addr) (l3 c3 : Nat) (w : World) (hB : B ≤ w.heap.size) (hf : Fm L B w D d t a1 l1 a2 l2 a3 l3) :
    Calls Try.prog 29 #[.agg #[.int .i64 t.K, .int .i64 t.N, .string t.S, .string t.Z, .int .i64 t.T.K, .int .i64 t.T.N, .slice a1 l1 c1, .slice a2 l2 c2, .slice a3 l3 c3]] w fun e w' => e = .returned (.bool (okM t)) ∧ Below w.heap.size w w' := by
  obtain ⟨X, hX⟩ : ∃ X, X = ((w.alloc (.cells #[.int .i64 t.K, .int .i64 t.N, .string t.S, .string t.Z, .int .i64 t.T.K, .int .i64 t.T.N, .slice a1 l1 c1, .slice a2 l2 c2, .slice a3 l3 c3] 36)).alloc (.cells #[.int .i64 0] 3)) := ⟨_, rfl⟩
  have hXs : X.heap.size = w.heap.size + 2 := by rw [hX]; simp
  have hXb : Below w.heap.size w X := by rw [hX]; exact ((Below.refl _ _).alloc (Nat.le_refl _) _).alloc (by simp) _
  have hX1 : X.heap[w.heap.size + 1]? = some (.cells #[.int .i64 ((0 : Nat) : Int)] 3 (0, 0)) := by rw [hX]; exact heap_new (by simp)
  have hf1 := Fm.below hXb hB hf
  have HX : Hid (X = _) := hX
  have HX1 : Hid (_ = _) := hX1
  clear hX hX1
  go_enter Try.func29, Try.ntmps29
  go_wp2_with fail
  rw [← HX.out]
  refine (lkm_any 24 (by omega) D d L B _ 0 t _ _ _ _ _ _ _ _ _ _ (by omega) (by omega) HX1.out (by omega) hf1).mono ?_
  rintro e w1 ⟨rfl, hg, _⟩
  rw [lookM_ok]
  have hb2 : Below w.heap.size w w1 := hXb.grown hg (by omega) (by simp)
  go_wp2_with fail
  go_ret
  exact ⟨rfl, hb2⟩

end Go.Proofs.Ytgckmnchlkgakaa
