/-
  What the closure of the program's 'Fold' comes to: a term's head, and its folded parts.
-/
import Derived.Test.YtibbdhmbgnjmoaaGreatFlaFd7
import Derived.Test.YtibbdhmbgnjmoaaGreatFlaZ26
import Derived.Test.YtibbdhmbgnjmoaaGreatFlaZ20
namespace Go.Proofs.YtibbdhmbgnjmoaaGreat
open Go.RowKit
set_option linter.unusedVariables false
set_option linter.unusedSimpArgs false

/-- The table in memory, where the closure looks for it. -/
structure Tab (w : World) (tb tt : Nat) : Prop where
  v : w.heap[tb]? = some (.cells #[.slice (some ⟨tt, 0, none⟩) 7 7] 47 (0, 0))
  r : w.heap[tt]? = some (.cells tabF 80 (0, 0))

theorem Tab.below {w w' : World} {tb tt : Nat} (h : Tab w tb tt) (hb : Below w.heap.size w w') : Tab w' tb tt :=
  ⟨(hb.block tb (Array.getElem?_eq_some_iff.1 h.v).1).trans h.v, (hb.block tt (Array.getElem?_eq_some_iff.1 h.r).1).trans h.r⟩

/-- A head of its own memory, and parts of theirs. -/
theorem whole_fmp {P : Nat → Prop} {base Bp L1 M L2 : Nat} {w : World} {D d : Nat} {t : Tm} {b1 b2 b3 : Option Addr} {m1 m2 m3 : Nat} (hs : t.S.size ≤ 9223372036854775807) (hz : t.Z.size ≤ 9223372036854775807)
    (h1 : OwR L1 M w D b1 m1 t.T.A) (h2 : OwR M L2 w D b2 m2 t.Ts) (h3 : OwMR base Bp w D d b3 m3 t.A) (hB : Bp ≤ L1) (hM : L1 ≤ M) (hL : M ≤ L2) (hb : base ≤ Bp) (hP : ∀ b, (base ≤ b ∧ b < Bp) ∨ (L1 ≤ b ∧ b < L2) → P b) :
    FmP P base L2 w D d t b1 m1 b2 m2 b3 m3 := by
  obtain ⟨p1, o1, n1, r1⟩ := h1
  obtain ⟨p2, o2, n2, r2⟩ := h2
  obtain ⟨p3, o3, n3, r3⟩ := h3
  refine ⟨p1 ++ p2 ++ p3, ⟨p1, p2, p3, rfl, hs, hz, o1, o2, o3⟩, ?_, ?_⟩
  · rw [List.nodup_append, List.nodup_append]
    refine ⟨⟨n1, n2, fun a ha b hb => ?_⟩, n3, fun a ha b hb => ?_⟩
    · have := r1 a ha; have := r2 b hb; omega
    · have hb3 := r3 b hb
      rcases List.mem_append.1 ha with ha | ha
      · have := r1 a ha; omega
      · have := r2 a ha; omega
  · intro b hb
    rcases List.mem_append.1 hb with hb | hb
    · rcases List.mem_append.1 hb with hb | hb
      · have := r1 b hb; exact ⟨by omega, hP b (Or.inr (by omega))⟩
      · have := r2 b hb; exact ⟨by omega, hP b (Or.inr (by omega))⟩
    · have := r3 b hb; exact ⟨by omega, hP b (Or.inl (by omega))⟩

theorem finF {B0 r base B3 : Nat} {w w3 : World} {D d : Nat} {R : Tm} {b1 b2 b3 : Option Addr} {m1 m2 m3 : Nat} (hfp : FmP (fun b => b ≠ r) base B3 w3 D d R b1 m1 b2 m2 b3 m3) (hb : Below B0 w w3) (hr : B0 ≤ r) (hB : B3 ≤ w3.heap.size) {v0 v1 v2 v3 v4 v5 v6 v7 v8 : Value} :
    Below B0 w (((((((((w3.setCell ⟨r, 0, none⟩ v0).setCell ⟨r, 1, none⟩ v1).setCell ⟨r, 2, none⟩ v2).setCell ⟨r, 3, none⟩ v3).setCell ⟨r, 4, none⟩ v4).setCell ⟨r, 5, none⟩ v5).setCell ⟨r, 6, none⟩ v6).setCell ⟨r, 7, none⟩ v7).setCell ⟨r, 8, none⟩ v8) ∧ FmO base (((((((((w3.setCell ⟨r, 0, none⟩ v0).setCell ⟨r, 1, none⟩ v1).setCell ⟨r, 2, none⟩ v2).setCell ⟨r, 3, none⟩ v3).setCell ⟨r, 4, none⟩ v4).setCell ⟨r, 5, none⟩ v5).setCell ⟨r, 6, none⟩ v6).setCell ⟨r, 7, none⟩ v7).setCell ⟨r, 8, none⟩ v8).heap.size (((((((((w3.setCell ⟨r, 0, none⟩ v0).setCell ⟨r, 1, none⟩ v1).setCell ⟨r, 2, none⟩ v2).setCell ⟨r, 3, none⟩ v3).setCell ⟨r, 4, none⟩ v4).setCell ⟨r, 5, none⟩ v5).setCell ⟨r, 6, none⟩ v6).setCell ⟨r, 7, none⟩ v7).setCell ⟨r, 8, none⟩ v8) D d R b1 m1 b2 m2 b3 m3 := by
  refine ⟨?_, ?_⟩
  · repeat (first | with_reducible exact hb | with_reducible refine bG_set ?_ hr)
  · obtain ⟨bs, h1, h2, h3⟩ := hfp
    refine ⟨bs, FldO.keep (fun b hb' => ?_) h1, h2, fun b hb' => ⟨(h3 b hb').1.1, ?_⟩⟩
    · have hne := (h3 b hb').2
      rw [row_other _ _ _ hne, row_other _ _ _ hne, row_other _ _ _ hne, row_other _ _ _ hne, row_other _ _ _ hne, row_other _ _ _ hne, row_other _ _ _ hne, row_other _ _ _ hne, row_other _ _ _ hne]
    · have := (h3 b hb').1.2
      simp
      omega

set_option maxRecDepth 100000 in
set_option maxHeartbeats 4000000 in
theorem made_fold (D d dp L B base : Nat) (t : Tm) (a1 : Option Addr) (l1 c1 : Nat) (a2 : Option Addr) (l2 c2 : Nat) (a3 : Option Addr) (l3 c3 : Nat) (nd : Int) (ao : Option Addr) (cap : Nat) (tb tt : Nat) (w : World) (hB : B ≤ w.heap.size) (hf : Fm L B w D d t a1 l1 a2 l2 a3 l3) (hc : cntM t ≤ 1048576) (hbase : base ≤ w.heap.size)
    (hp : OwMR base w.heap.size w (D + 1) dp ao t.A.length (t.A.map foldM)) (hT : Tab w tb tt) (l m : Nat) (hn : nodesM (l + 1) (upM t) = some m) (hl : l + 1 ≤ 24) (hm : m ≤ 150) :
    Calls Tryz.prog 27 #[.int .i64 nd, .agg #[.int .i64 t.K, .int .i64 t.N, .string t.S, .string t.Z, .int .i64 t.T.K, .int .i64 t.T.N, .slice a1 l1 c1, .slice a2 l2 c2, .slice a3 l3 c3], .slice ao t.A.length cap, .pointer (some ⟨tb, 0, none⟩)] w fun e w' => ∃ b1 m1 e1 b2 m2 e2 b3 m3 e3, e = .returned (.agg #[.int .i64 (foldM t).K, .int .i64 (foldM t).N, .string (foldM t).S, .string (foldM t).Z, .int .i64 (foldM t).T.K, .int .i64 (foldM t).T.N, .slice b1 m1 e1, .slice b2 m2 e2, .slice b3 m3 e3]) ∧ Below w.heap.size w w' ∧ FmO base w'.heap.size w' (D + 1) dp (foldM t) b1 m1 b2 m2 b3 m3 := by
  obtain ⟨X, hX⟩ : ∃ X, X = (w.alloc (.cells #[.int .i64 t.K, .int .i64 t.N, .string t.S, .string t.Z, .int .i64 t.T.K, .int .i64 t.T.N, .slice a1 l1 c1, .slice a2 l2 c2, .slice a3 l3 c3] 34)).alloc (.cells #[.int .i64 0, .int .i64 0, .string ⟨#[]⟩, .string ⟨#[]⟩, .int .i64 0, .int .i64 0, .slice none 0 0, .slice none 0 0, .slice none 0 0] 34) := ⟨_, rfl⟩
  have hXb : Below w.heap.size w X := by rw [hX]; exact ((Below.refl _ _).alloc (Nat.le_refl _) _).alloc (by simp) _
  have hX1 : X.heap[w.heap.size + 1]? = some (.cells #[.int .i64 0, .int .i64 0, .string ⟨#[]⟩, .string ⟨#[]⟩, .int .i64 0, .int .i64 0, .slice none 0 0, .slice none 0 0, .slice none 0 0] 34 (0, 0)) := by rw [hX]; exact heap_new (by simp)
  have hXs : X.heap.size = w.heap.size + 2 := by rw [hX]; simp
  have HX : Hid (X = _) := hX
  clear hX
  have hcu : cntM (upM t) ≤ 1048576 := by
    have h1 : cntMS (t.A.map foldM) ≤ cntMS t.A := cntMS_map fun x _ => foldM_cnt _ x (Nat.le_refl _)
    have h2 := cntM_eq t
    have h3 := cntM_eq (upM t)
    have h4 : ownM (upM t) = ownM t := rfl
    have h5 : (upM t).A = t.A.map foldM := rfl
    rw [h5] at h3
    omega
  obtain ⟨R, hR⟩ : ∃ R, foldM t = R := ⟨_, rfl⟩
  rw [hR]
  have HR : Hid (fold1 (upM t) = R) := by rw [← foldM_eq]; exact hR
  have HU : Hid ((upM t).A = t.A.map foldM ∧ (upM t).A.length = t.A.length) := ⟨rfl, by simp [upM]⟩
  clear hR
  go_enter Tryz.func27, Tryz.ntmps27
  go_wp2_with fail
  rw [← HX.out]
  refine (copyHead_any D d L B t _ _ _ _ _ _ _ _ _ X (by omega) (Fm.below hXb hB hf) hc).mono ?_
  rintro e w1 ⟨b1, m1, e1, b2, e2, M, rfl, hb1, hM1, hM2, ho1, ho2⟩
  have hz1 := hb1.size
  have hbw1 : Below w.heap.size w w1 := hXb.trans (hb1.mono hXb.size)
  obtain ⟨Y, hY⟩ : ∃ Y, Y = w1.alloc (.cells #[.int .i64 t.K, .int .i64 t.N, .string t.S, .string t.Z, .int .i64 t.T.K, .int .i64 t.T.N, .slice b1 m1 e1, .slice b2 l2 e2, .slice ao t.A.length cap] 34) := ⟨_, rfl⟩
  have hYb : Below w1.heap.size w1 Y := by rw [hY]; exact (Below.refl _ _).alloc (Nat.le_refl _) _
  have hYw : Below w.heap.size w Y := hbw1.trans (hYb.mono hbw1.size)
  have HY : Hid (Y = _) := hY
  have hTY := hT.below hYw
  have t0 := row_cell hTY.v 0
  rw [hY] at t0
  clear hY
  go_wp2_with fail
  rw [← HY.out]
  have hYz : Y.heap.size = w1.heap.size + 1 := by rw [HY.out]; simp
  have hfw : FmP (fun b => b ≠ w.heap.size + 1) base w1.heap.size Y (D + 1) dp (upM t) b1 m1 b2 l2 ao t.A.length := whole_fmp (t := upM t) hf.s hf.z (ho1.below hYb hM2) (ho2.below hYb (Nat.le_refl _)) (hp.keep (fun k _ hk => hYw.block k hk) (Nat.le_refl _) (Nat.le_refl _)) hXb.size hM1 hM2 hbase (fun b hb => by show b ≠ _; omega)
  have hcall := foldedBy_any (fun b => b ≠ w.heap.size + 1) (D + 1) dp base w1.heap.size (upM t) b1 m1 e1 b2 l2 e2 ao t.A.length cap tt Y (by omega) hfw hcu l m hn hl hm hTY.r
  rw [HR.out] at hcall
  refine hcall.mono ?_
  rintro e w3 ⟨x1, n1, j1, x2, n2, j2, x3, n3, j3, rfl, hb3, hfp⟩
  have hbw3 : Below w.heap.size w w3 := hYw.trans (hb3.mono hYw.size)
  have hz3 := hb3.size
  have z1 := (hb3.block (w.heap.size + 1) (by omega)).trans ((hYb.block (w.heap.size + 1) (by omega)).trans ((hb1.block (w.heap.size + 1) (by omega)).trans hX1))
  obtain ⟨p0, p1, p2, p3, p4, p5, p6, p7, p8⟩ := Nine.box z1
  have pf := row_free z1
  clear t0 hcall hfw
  go_wp2_with fail
  refine bodyPost_ret (v := .agg #[.int .i64 R.K, .int .i64 R.N, .string R.S, .string R.Z, .int .i64 R.T.K, .int .i64 R.T.N, .slice x1 n1 j1, .slice x2 n2 j2, .slice x3 n3 j3]) (by simp [results, Tryz.results27, go_sem, p0, p1, p2, p3, p4, p5, p6, p7, p8]) rfl ?_
  exact ⟨x1, n1, j1, x2, n2, j2, x3, n3, j3, rfl, (finF hfp hbw3 (by omega) (by omega)).1, (finF hfp hbw3 (by omega) (by omega)).2⟩

end Go.Proofs.YtibbdhmbgnjmoaaGreat

/-
  What the program's 'rebuiltBehind' comes to where it folds, by recursion.
-/
namespace Go.Proofs.YtibbdhmbgnjmoaaGreat
open Go.RowKit
set_option linter.unusedVariables false
set_option linter.unusedSimpArgs false

/-- The function value that is handed on. -/
abbrev fdF (tb : Nat) : Value := .func (.func 27) #[] #[.pointer (some ⟨tb, 0, none⟩)]

def SaidFd (l : Nat) : Prop := ∀ (D d L B : Nat) (t : Tm) (a1 : Option Addr) (l1 c1 : Nat) (a2 : Option Addr) (l2 c2 : Nat) (a3 : Option Addr) (l3 c3 : Nat) (m : Nat) (p tb tt : Nat) (c : Int) (w : World), B ≤ p → B ≤ w.heap.size → w.heap[p]? = some (.cells #[.int .i64 c] 3 (0, 0)) → p ≠ tb → p ≠ tt → Tab w tb tt → Fm L B w D d t a1 l1 a2 l2 a3 l3 → nodesM l t = some m → l ≤ 24 → m ≤ 150 → cntM t ≤ 1048576 → 0 ≤ c → c + m ≤ 1000000 →
    Calls Tryz.prog 60 #[.agg #[.int .i64 t.K, .int .i64 t.N, .string t.S, .string t.Z, .int .i64 t.T.K, .int .i64 t.T.N, .slice a1 l1 c1, .slice a2 l2 c2, .slice a3 l3 c3], .pointer (some ⟨p, 0, none⟩), fdF tb] w fun e w' => ∃ b1 m1 e1 b2 m2 e2 b3 m3 e3, e = .returned (.agg #[.int .i64 (foldM t).K, .int .i64 (foldM t).N, .string (foldM t).S, .string (foldM t).Z, .int .i64 (foldM t).T.K, .int .i64 (foldM t).T.N, .slice b1 m1 e1, .slice b2 m2 e2, .slice b3 m3 e3]) ∧ Nx p w w' (c + m) ∧ FmO w.heap.size w'.heap.size w' (D + 1) l (foldM t) b1 m1 b2 m2 b3 m3

/-- What the walk over a term's parts has in memory. -/
structure RbF (p : Nat) (w wr : World) (c : Int) (O : Nat → Nat) (D l : Nat) (cs zs : Array Value) (ts : List Tm) (v : Value) (j : Nat) : Prop where
  nx : Nx p w wr (c + 1 + O j)
  box : wr.heap[w.heap.size]? = some (.cells cs 34 (0, 0))
  res : wr.heap[w.heap.size + 1]? = some (.cells zs 34 (0, 0))
  row : ApRelM (w.heap.size + 2) wr D l v j ts
  sz : w.heap.size + 2 ≤ wr.heap.size

theorem rbf_next {p : Nat} {w wr wa w3 : World} {c : Int} {O : Nat → Nat} {D l : Nat} {cs zs : Array Value} {ts : List Tm} {v : Value} {j k : Nat} (h : RbF p w wr c O D l cs zs ts v j) (hp : p < w.heap.size) (hj : j < ts.length) (hj3 : j ≤ 3) (hba : Below wr.heap.size wr wa) (h3 : Nx p wa w3 (c + 1 + O j + k)) (hO : O (j + 1) = O j + k)
    {a1 : Option Addr} {l1 c1 : Nat} {a2 : Option Addr} {l2 c2 : Nat} {a3 : Option Addr} {l3 c3 : Nat} (ho : FmO wa.heap.size w3.heap.size w3 D l ts[j] a1 l1 a2 l2 a3 l3) :
    ∃ g cp w4, (Builtin.append_ #[32, 32] 32 #[v, .slice (some ⟨w3.heap.size, 0, none⟩) 1 1]).run Tryz.prog (w3.alloc (.cells #[.int .i64 ts[j].K, .int .i64 ts[j].N, .string ts[j].S, .string ts[j].Z, .int .i64 ts[j].T.K, .int .i64 ts[j].T.N, .slice a1 l1 c1, .slice a2 l2 c2, .slice a3 l3 c3] 34)) = .ok (.slice (some ⟨g, 0, none⟩) (j + 1) cp) w4 ∧ RbF p w w4 c O D l cs zs ts (.slice (some ⟨g, 0, none⟩) (j + 1) cp) (j + 1) := by
  have hsz := h.sz
  have hza := hba.size
  have hpa : wa.heap[p]? = some (.cells #[.int .i64 (c + 1 + O j)] 3 (0, 0)) := (hba.block p (by omega)).trans h.nx.is
  obtain ⟨wq, hwq⟩ : ∃ wq, wq = wa.setCell ⟨p, 0, none⟩ (.int .i64 (c + 1 + O j + k)) := ⟨_, rfl⟩
  have hqz : wq.heap.size = wa.heap.size := by rw [hwq]; simp
  have hqp : wq.heap[p]? = some (.cells #[.int .i64 (c + 1 + O j + k)] 3 (0, 0)) := by rw [hwq, row_set hpa]; rfl
  have hqo : ∀ i, i ≠ p → wq.heap[i]? = wa.heap[i]? := fun i hi => by rw [hwq]; exact row_other _ _ _ hi
  have hq3 : Below wq.heap.size wq w3 := by
    refine ⟨?_, ?_, ?_, by rw [hqz]; exact h3.kf.size, fun i hi => ?_⟩
    · rw [h3.kf.os, hwq]; rfl
    · rw [h3.kf.tape, hwq]; rfl
    · rw [h3.kf.output, hwq]; rfl
    · by_cases hip : i = p
      · subst hip; rw [h3.is, hqp]
      · rw [h3.kf.block i (by omega) hip, hqo i hip]
  have hrow : ApRelM (w.heap.size + 2) wq D l v j ts := by rw [hwq]; exact apm_set (apm_below h.row hba) (by omega) _
  obtain ⟨g, cp, w4, hrun, hr4, hb4⟩ := apm_run (c1 := c1) (c2 := c2) (c3 := c3) hrow hj (by omega) hq3 (by omega) (by rw [hqz]; exact ho)
  refine ⟨g, cp, w4, hrun, ⟨?_, ?_, ?_, hr4, by have := hb4.size; omega⟩⟩
  · rw [show c + 1 + ((O (j + 1) : Nat) : Int) = c + 1 + O j + k by omega]
    have hN : Nx p w wq (c + 1 + O j + k) := by
      refine ⟨(h.nx.kf.trans (Kf.of_below hba)).trans ⟨by rw [hwq]; rfl, by rw [hwq]; rfl, by rw [hwq]; rfl, by omega, fun i hi hne => hqo i hne, fun i hi => Or.inl hi⟩, hqp⟩
    exact hN.onB hb4 (by omega) (by omega)
  · rw [hb4.block _ (by omega), hqo _ (by omega), hba.block _ (by omega)]
    exact h.box
  · rw [hb4.block _ (by omega), hqo _ (by omega), hba.block _ (by omega)]
    exact h.res

theorem Tab.nx {p : Nat} {w w' : World} {c : Int} {tb tt : Nat} (h : Tab w tb tt) (hn : Nx p w w' c) (h1 : p ≠ tb) (h2 : p ≠ tt) : Tab w' tb tt :=
  ⟨(hn.kf.block tb (Array.getElem?_eq_some_iff.1 h.v).1 (fun e => h1 e.symm)).trans h.v, (hn.kf.block tt (Array.getElem?_eq_some_iff.1 h.r).1 (fun e => h2 e.symm)).trans h.r⟩

set_option maxRecDepth 100000 in
set_option maxHeartbeats 4000000 in
theorem fd_succ (l : Nat) (IH : SaidFd l) : SaidFd (l + 1) := by
  intro D d L B t a1 l1 c1 a2 l2 c2 a3 l3 c3 m p tb tt c w hBp hB hpc hpb hpt hT hf hm hl24 hm150 hcnt hc0 hcm
  have hm0 := hm
  simp only [nodesM] at hm
  cases hn : nodeM t with
  | false => simp [hn] at hm
  | true =>
  simp only [hn, if_true] at hm
  obtain ⟨b, hb, hmb⟩ := Option.map_eq_some_iff.1 hm
  obtain ⟨O, hO0, hOb, hOs⟩ := nodesG_sums t.A b hb
  obtain ⟨rfl, hl9⟩ := hf.m.len
  have hpl : p < w.heap.size := (Array.getElem?_eq_some_iff.1 hpc).1
  obtain ⟨mu, hmu, hmul, _⟩ := fold_nodes (l + 1) t m hm0
  have hOm : ∀ j, j ≤ t.A.length → O j ≤ O t.A.length := by
    have : ∀ n j, j + n = t.A.length → O j ≤ O t.A.length := by
      intro n
      induction n with
      | zero => intro j hj; rw [show j = t.A.length by omega]; exact Nat.le_refl _
      | succ n ih =>
        intro j hj
        obtain ⟨k, _, hk⟩ := hOs j (by omega)
        have := ih (j + 1) (by omega)
        omega
    exact fun j hj => this (t.A.length - j) j (by omega)
  have h3 := nodeM_len hn
  have hw1 : IntKind.i64.wrap (c + 1) = c + 1 := by rw [IntKind.wrap_i64]; omega
  have r0 := cell_1 hpc
  have r1 := row_free hpc 0
  have hmt := mt_within
  have HQ : Hid (∀ j (hj : j < t.A.length), ∃ k, nodesM l t.A[j] = some k ∧ O (j + 1) = O j + k) := hOs
  obtain ⟨X, hX⟩ : ∃ X, X = ((w.setCell ⟨p, 0, none⟩ (.int .i64 (c + 1))).alloc (.cells #[.int .i64 t.K, .int .i64 t.N, .string t.S, .string t.Z, .int .i64 t.T.K, .int .i64 t.T.N, .slice a1 l1 c1, .slice a2 l2 c2, .slice a3 t.A.length c3] 34)).alloc (.cells #[.int .i64 0, .int .i64 0, .string ⟨#[]⟩, .string ⟨#[]⟩, .int .i64 0, .int .i64 0, .slice none 0 0, .slice none 0 0, .slice none 0 0] 34) := ⟨_, rfl⟩
  have hXb : Below (w.setCell ⟨p, 0, none⟩ (.int .i64 (c + 1))).heap.size (w.setCell ⟨p, 0, none⟩ (.int .i64 (c + 1))) X := by rw [hX]; exact ((Below.refl _ _).alloc (Nat.le_refl _) _).alloc (by simp) _
  have hXs : X.heap.size = w.heap.size + 2 := by rw [hX]; simp
  have hXp : X.heap[p]? = some (.cells #[.int .i64 (c + 1)] 3 (0, 0)) := by rw [hXb.block p (by simpa using hpl), row_set hpc]; rfl
  have hN : Nx p w X (c + 1) := ⟨⟨hXb.os, hXb.tape, hXb.output, by omega, fun i hi hne => (hXb.block i (by simpa using hi)).trans (row_other _ _ _ hne), fun i hi => Or.inl hi⟩, hXp⟩
  have hbx : X.heap[w.heap.size]? = some (.cells #[.int .i64 t.K, .int .i64 t.N, .string t.S, .string t.Z, .int .i64 t.T.K, .int .i64 t.T.N, .slice a1 l1 c1, .slice a2 l2 c2, .slice a3 t.A.length c3] 34 (0, 0)) := by rw [hX, Below.heap_alloc _ _ _ (by simp)]; exact heap_new (by simp)
  have hrs : X.heap[w.heap.size + 1]? = some (.cells #[.int .i64 0, .int .i64 0, .string ⟨#[]⟩, .string ⟨#[]⟩, .int .i64 0, .int .i64 0, .slice none 0 0, .slice none 0 0, .slice none 0 0] 34 (0, 0)) := by rw [hX]; exact heap_new (by simp)
  have HX : Hid (X = _) := hX
  obtain ⟨R, hR⟩ : ∃ R, foldM t = R := ⟨_, rfl⟩
  rw [hR]
  have HA : Hid (foldM t = R) := hR
  clear hX hXb hXp hR
  go_enter Tryz.func60, Tryz.ntmps60
  go_wp2_with fail
  rw [← HX.out]
  refine (within_any t a1 l1 c1 a2 l2 c2 a3 t.A.length c3 _).mono ?_
  rintro e w2 ⟨rfl, hb2⟩
  have hz2 := hb2.size
  have h0 : Hid (RbF p w w2 c O (D + 1) l #[.int .i64 t.K, .int .i64 t.N, .string t.S, .string t.Z, .int .i64 t.T.K, .int .i64 t.T.N, .slice a1 l1 c1, .slice a2 l2 c2, .slice a3 t.A.length c3] #[.int .i64 0, .int .i64 0, .string ⟨#[]⟩, .string ⟨#[]⟩, .int .i64 0, .int .i64 0, .slice none 0 0, .slice none 0 0, .slice none 0 0] (t.A.map foldM) (.slice none 0 0) 0) := by
    refine ⟨?_, (hb2.block _ (by omega)).trans hbx, (hb2.block _ (by omega)).trans hrs, apm_nil _ _ _ _ _, by omega⟩
    rw [hO0, show c + 1 + ((0 : Nat) : Int) = c + 1 by omega]
    exact hN.bel hb2
  have HB : Hid (c + 1 + O t.A.length = c + m) := by show _ = _; omega
  clear r0 r1 hb2 hbx hrs
  go_wp2_with fail
  go_loopw [8, 23] (fun v y wr => ∃ j : Nat, y = .int .i64 j ∧ j ≤ t.A.length ∧ RbF p w wr c O (D + 1) l #[.int .i64 t.K, .int .i64 t.N, .string t.S, .string t.Z, .int .i64 t.T.K, .int .i64 t.T.N, .slice a1 l1 c1, .slice a2 l2 c2, .slice a3 t.A.length c3] #[.int .i64 0, .int .i64 0, .string ⟨#[]⟩, .string ⟨#[]⟩, .int .i64 0, .int .i64 0, .slice none 0 0, .slice none 0 0, .slice none 0 0] (t.A.map foldM) v j) (fun _ y _ => t.A.length - (intOf y).toNat)
  case atStart => exact ⟨0, rfl, by omega, h0.out⟩
  case round =>
    obtain ⟨j, rfl, hj, hI⟩ := hrel
    obtain ⟨ao', cap', rfl⟩ := apm_form hI.row
    have hszr := hI.sz
    have hTr := hT.nx hI.nx hpb hpt
    by_cases hlt : j < t.A.length
    · obtain ⟨k, hk1, hk⟩ := HQ.out j hlt
      obtain ⟨b', o', rfl, _, hbB, e1, m1, d1, e2, m2, d2, e3, m3, d3, h9, hfi⟩ := hf.m.get j hlt
      obtain ⟨x0, x1, x2, x3, x4, x5, x6, x7, x8⟩ := h9.world (hI.nx.kf.block b' (by omega) (by omega))
      have hba : Below wr.heap.size wr (wr.alloc (.cells #[.int .i64 t.A[j].K, .int .i64 t.A[j].N, .string t.A[j].S, .string t.A[j].Z, .int .i64 t.A[j].T.K, .int .i64 t.A[j].T.N, .slice e1 m1 d1, .slice e2 m2 d2, .slice e3 m3 d3] 34)) := (Below.refl _ _).alloc (Nat.le_refl _) _
      have hOj := hOm (j + 1) (by omega)
      have hcj := cntM_part hlt
      have hNa := hI.nx.bel hba
      have HC := IH D (d - 1) L B t.A[j] e1 m1 d1 e2 m2 d2 e3 m3 d3 k p tb tt (c + 1 + O j) _ hBp (Nat.le_trans hB hNa.kf.size) hNa.is hpb hpt (hTr.below hba) (hNa.fm hBp hB hfi) hk1 (by omega) (by omega) (by omega) (by omega) (by omega)
      have HBA : Hid (Below _ _ _) := hba
      have hts : (t.A.map foldM)[j]'(by simpa using hlt) = foldM t.A[j] := by simp
      have HTS : Hid (_ = _) := hts
      clear h9 hba hts hNa
      go_wp2_with fail
      refine HC.mono ?_
      rintro e w3 ⟨b1, n1, i1, b2, n2, i2, b3, n3, i3, rfl, h3', ho⟩
      obtain ⟨g, cp, w4, hrun, hN4⟩ := rbf_next (c1 := i1) (c2 := i2) (c3 := i3) hI hpl (by simpa using hlt) (by omega) HBA.out h3' hk (by rw [HTS.out]; exact ho)
      rw [HTS.out] at hrun
      have HR : Hid (_ = _) := hrun
      clear hrun
      go_wp2_with (at_builtin; refine list_run HR.out (by rfl) _ _ (by rfl) (by rfl) (by rfl) (by rfl) ?_)
      go_roundw
      case rel => exact ⟨j + 1, by go_num, by omega, hN4⟩
      case measure => simp [intOf]; omega
    · obtain rfl : j = t.A.length := by omega
      obtain ⟨x0, x1, x2, x3, x4, x5, x6, x7, x8⟩ := Nine.box hI.box
      obtain ⟨ao2, cap2, hv2, hpar⟩ := apm_done hI.row (by simp) (by omega)
      cases hv2
      have HM := made_fold D d (l + 1) L B (w.heap.size + 2) t a1 l1 c1 a2 l2 c2 a3 t.A.length c3 c ao' cap' tb tt wr (by omega) (hI.nx.fm hBp hB hf) hcnt hszr hpar hTr l mu hmu hl24 (by omega)
      rw [HA.out] at HM
      have HN : Hid (Nx p w wr (c + m)) := by have := hI.nx; rw [HB.out] at this; exact this
      have hres := hI.res
      go_wp2_with fail
      refine HM.mono ?_
      rintro e w5 ⟨b1, n1, i1, b2, n2, i2, b3, n3, i3, rfl, hb5, ho5⟩
      have hz5 := hb5.size
      have y1 := (hb5.block (w.heap.size + 1) (by omega)).trans hres
      obtain ⟨p0, p1, p2, p3, p4, p5, p6, p7, p8⟩ := Nine.box y1
      have pf := row_free y1
      go_wp2_with fail
      refine bodyPost_ret (v := .agg #[.int .i64 R.K, .int .i64 R.N, .string R.S, .string R.Z, .int .i64 R.T.K, .int .i64 R.T.N, .slice b1 n1 i1, .slice b2 n2 i2, .slice b3 n3 i3]) (by simp [results, Tryz.results60, go_sem, p0, p1, p2, p3, p4, p5, p6, p7, p8]) rfl ?_
      have hfp : FmP (fun b => b ≠ w.heap.size + 1) w.heap.size w5.heap.size w5 (D + 1) (l + 1) R b1 n1 b2 n2 b3 n3 := by
        obtain ⟨bs, q1, q2, q3⟩ := ho5
        exact ⟨bs, q1, q2, fun b hb => ⟨⟨by have := (q3 b hb).1; omega, (q3 b hb).2⟩, by have := (q3 b hb).1; show b ≠ _; omega⟩⟩
      have hfin := fun v0 v1 v2 v3 v4 v5 v6 v7 v8 => finF (B0 := w.heap.size) (w := w5) (v0 := v0) (v1 := v1) (v2 := v2) (v3 := v3) (v4 := v4) (v5 := v5) (v6 := v6) (v7 := v7) (v8 := v8) hfp (Below.refl _ _) (Nat.le_succ _) (Nat.le_refl _)
      exact ⟨b1, n1, i1, b2, n2, i2, b3, n3, i3, rfl, (HN.out.bel hb5).onB (hfin _ _ _ _ _ _ _ _ _).1 (Nat.le_refl _) hpl, (hfin _ _ _ _ _ _ _ _ _).2⟩

theorem fd_any (l : Nat) : SaidFd l := by
  induction l with
  | zero => intro D d L B t a1 l1 c1 a2 l2 c2 a3 l3 c3 m p tb tt c w _ _ _ _ _ _ _ hm; simp [nodesM] at hm
  | succ l ih => exact fd_succ l ih

end Go.Proofs.YtibbdhmbgnjmoaaGreat
