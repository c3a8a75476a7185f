/-
  What 'Fold' comes to, of the program and of the model, whatever the term is.
-/
import Derived.Test.YtibbdhmbgnjmoaaGreatFlaOn7
import Derived.Test.YtibbdhmbgnjmoaaGreatFlaSf4
import Derived.Test.YtibbdhmbgnjmoaaGreatFlaZ12
import Derived.Test.YtibbdhmbgnjmoaaGreatFlaZ11
import Derived.Test.YtibbdhmbgnjmoaaGreatFlaZ14
import Derived.Test.YtibbdhmbgnjmoaaGreatFlaZ10
import Derived.BigQuiet
import Derived.Deep.RegionWith
import Derived.Test.YtibbdhmbgnjmoaaGreatFlaZ1
namespace Go.Proofs.YtibbdhmbgnjmoaaGreat
open Go.RowKit
set_option linter.unusedVariables false
set_option linter.unusedSimpArgs false

def foldT (t : Tm) : Tm := if okM t = true then foldM t else t

theorem foldT_cnt (t : Tm) : cntM (foldT t) ≤ cntM t := by
  unfold foldT
  split
  · exact foldM_cnt _ t (Nat.le_refl _)
  · exact Nat.le_refl _

theorem Fm.deep2 {L B : Nat} {w : World} {D D' d d' : Nat} {t : Tm} {a1 a2 a3 : Option Addr} {l1 l2 l3 : Nat} (h : Fm L B w D d t a1 l1 a2 l2 a3 l3) (hD : D ≤ D') (hd : d ≤ d') : Fm L B w D' d' t a1 l1 a2 l2 a3 l3 :=
  ⟨h.s, h.z, h.t1.deeper hD, h.t2.deeper hD, h.m.deeper hd hD⟩

set_option maxRecDepth 100000 in
set_option maxHeartbeats 1000000 in
theorem fold_any (D d L B : Nat) (t : Tm) (a1 : Option Addr) (l1 c1 : Nat) (a2 : Option Addr) (l2 c2 : Nat) (a3 : Option Addr) (l3 c3 : Nat) (w : World) (hB : B ≤ w.heap.size) (hf : FmO L B w D d t a1 l1 a2 l2 a3 l3) (hc : cntM t ≤ 1048576) :
    Calls Tryz.prog 8 #[.agg #[.int .i64 t.K, .int .i64 t.N, .string t.S, .string t.Z, .int .i64 t.T.K, .int .i64 t.T.N, .slice a1 l1 c1, .slice a2 l2 c2, .slice a3 l3 c3]] w fun e w' => ∃ D' d', NewM w D' d' (foldT t) e w' := by
  cases hok : okM t with
  | true =>
    have e : foldT t = foldM t := by unfold foldT; rw [if_pos hok]
    rw [e]
    exact (fold_right D d L B t _ _ _ _ _ _ _ _ _ w hB hf.fm hok hc).mono fun e w' h => ⟨_, _, h⟩
  | false =>
    have e : foldT t = t := by unfold foldT; rw [hok]; rfl
    rw [e]
    obtain ⟨X, hX⟩ : ∃ X, X = (w.alloc (.cells #[.int .i64 t.K, .int .i64 t.N, .string t.S, .string t.Z, .int .i64 t.T.K, .int .i64 t.T.N, .slice a1 l1 c1, .slice a2 l2 c2, .slice a3 l3 c3] 34)).alloc (.cells #[.int .i64 0, .int .i64 0, .string ⟨#[]⟩, .string ⟨#[]⟩, .int .i64 0, .int .i64 0, .slice none 0 0, .slice none 0 0, .slice none 0 0] 34) := ⟨_, rfl⟩
    have hXb : Below w.heap.size w X := by rw [hX]; exact bX_alloc (bX_alloc (Below.refl _ _))
    have hX0 : X.heap[w.heap.size]? = some (.cells #[.int .i64 t.K, .int .i64 t.N, .string t.S, .string t.Z, .int .i64 t.T.K, .int .i64 t.T.N, .slice a1 l1 c1, .slice a2 l2 c2, .slice a3 l3 c3] 34 (0, 0)) := by rw [hX, Below.heap_alloc _ _ _ (by simp)]; exact heap_new rfl
    have hX1 : X.heap[w.heap.size + 1]? = some (.cells #[.int .i64 0, .int .i64 0, .string ⟨#[]⟩, .string ⟨#[]⟩, .int .i64 0, .int .i64 0, .slice none 0 0, .slice none 0 0, .slice none 0 0] 34 (0, 0)) := by rw [hX]; exact heap_new (by simp)
    have hXs : X.heap.size = w.heap.size + 2 := by rw [hX]; simp
    have HX : Hid (X = _) := hX
    have HF : Hid (okM t = false) := hok
    clear hX hok e
    go_enter Tryz.func8, Tryz.ntmps8
    go_wp2_with fail
    rw [← HX.out]
    refine (termOk_any D d L B t _ _ _ _ _ _ _ _ _ X (by omega) (Fm.below hXb hB hf.fm)).mono ?_
    rintro e w1 ⟨rfl, hb1⟩
    rw [HF.out]
    have hz1 := hb1.size
    have hbw1 : Below w.heap.size w w1 := hXb.trans (hb1.mono hXb.size)
    have y0 := (hb1.block w.heap.size (by omega)).trans hX0
    have y1 := (hb1.block (w.heap.size + 1) (by omega)).trans hX1
    obtain ⟨f0, f1, f2, f3, f4, f5, f6, f7, f8⟩ := Nine.box y0
    go_wp2_with fail
    refine (ownTerm_any D d L B t _ _ _ _ _ _ _ _ _ w1 (by omega) (hf.below hbw1 hB) hc).mono ?_
    rintro e w2 ⟨b1, m1, e1, b2, m2, e2, b3, m3, e3, rfl, hb2, hO2⟩
    have hz2 := hb2.size
    have hbw2 : Below w.heap.size w w2 := hbw1.trans (hb2.mono hbw1.size)
    have y2 := (hb2.block (w.heap.size + 1) (by omega)).trans y1
    clear f0 f1 f2 f3 f4 f5 f6 f7 f8
    obtain ⟨p0, p1, p2, p3, p4, p5, p6, p7, p8⟩ := Nine.box y2
    have pf := row_free y2
    go_wp2_with fail
    refine bodyPost_ret (v := .agg #[.int .i64 t.K, .int .i64 t.N, .string t.S, .string t.Z, .int .i64 t.T.K, .int .i64 t.T.N, .slice b1 m1 e1, .slice b2 m2 e2, .slice b3 m3 e3]) (by simp [results, Tryz.results8, go_sem, p0, p1, p2, p3, p4, p5, p6, p7, p8]) rfl ?_
    exact ⟨D, d, fin_new hO2 (by omega) hbw2⟩

theorem sf_any : ∀ l, SaidSf l := by
  intro l
  induction l with
  | zero => intro D d L B t a1 l1 c1 a2 l2 c2 a3 l3 c3 m w _ _ hm; simp [nodesM] at hm
  | succ l ih =>
    intro D d L B t a1 l1 c1 a2 l2 c2 a3 l3 c3 m w hB hf hm hl hm6 hc
    exact sf_loop l ih D d L B t a1 l1 c1 a2 l2 c2 a3 l3 c3 m w hB hf hm hl hm6 hc

set_option maxRecDepth 100000 in
set_option maxHeartbeats 1000000 in
theorem sFold_any (D d L B : Nat) (t : Tm) (a1 : Option Addr) (l1 c1 : Nat) (a2 : Option Addr) (l2 c2 : Nat) (a3 : Option Addr) (l3 c3 : Nat) (w : World) (hB : B ≤ w.heap.size) (hf : Fm L B w D d t a1 l1 a2 l2 a3 l3) (hc : cntM t ≤ 1048576) :
    Calls Tryz.prog 6 #[.agg #[.int .i64 t.K, .int .i64 t.N, .string t.S, .string t.Z, .int .i64 t.T.K, .int .i64 t.T.N, .slice a1 l1 c1, .slice a2 l2 c2, .slice a3 l3 c3]] w fun e w' => ∃ D' d', NewM w D' d' (foldT t) e w' := by
  obtain ⟨X, hX⟩ : ∃ X, X = (w.alloc (.cells #[.int .i64 t.K, .int .i64 t.N, .string t.S, .string t.Z, .int .i64 t.T.K, .int .i64 t.T.N, .slice a1 l1 c1, .slice a2 l2 c2, .slice a3 l3 c3] 34)).alloc (.cells #[.int .i64 0, .int .i64 0, .string ⟨#[]⟩, .string ⟨#[]⟩, .int .i64 0, .int .i64 0, .slice none 0 0, .slice none 0 0, .slice none 0 0] 34) := ⟨_, rfl⟩
  have hXb : Below w.heap.size w X := by rw [hX]; exact bX_alloc (bX_alloc (Below.refl _ _))
  have hX0 : X.heap[w.heap.size]? = some (.cells #[.int .i64 t.K, .int .i64 t.N, .string t.S, .string t.Z, .int .i64 t.T.K, .int .i64 t.T.N, .slice a1 l1 c1, .slice a2 l2 c2, .slice a3 l3 c3] 34 (0, 0)) := by rw [hX, Below.heap_alloc _ _ _ (by simp)]; exact heap_new rfl
  have hX1 : X.heap[w.heap.size + 1]? = some (.cells #[.int .i64 0, .int .i64 0, .string ⟨#[]⟩, .string ⟨#[]⟩, .int .i64 0, .int .i64 0, .slice none 0 0, .slice none 0 0, .slice none 0 0] 34 (0, 0)) := by rw [hX]; exact heap_new (by simp)
  have hXs : X.heap.size = w.heap.size + 2 := by rw [hX]; simp
  have HX : Hid (X = _) := hX
  clear hX
  cases hok : okM t with
  | true =>
    obtain ⟨m, hm, hm6⟩ := okM_some hok
    obtain ⟨R, hR⟩ : ∃ R, foldT t = R := ⟨_, rfl⟩
    have hR2 : foldM t = R := by rw [← hR]; unfold foldT; rw [if_pos hok]
    rw [hR]
    have HF : Hid (okM t = true) := hok
    have KF := fun (w1 : World) (hbw1 : Below w.heap.size w w1) => sf_any 24 D d L B t a1 l1 c1 a2 l2 c2 a3 l3 c3 m w1 (Nat.le_trans hB hbw1.size) (Fm.below hbw1 hB hf) hm (by omega) hm6 hc
    rw [hR2] at KF
    have HK : Hid (∀ w1 : World, _) := KF
    clear hok hm hR hR2 KF
    go_enter Tryz.func6, Tryz.ntmps6
    go_wp2_with fail
    rw [← HX.out]
    refine (sTermOk_any D d L B t _ _ _ _ _ _ _ _ _ X (by omega) (Fm.below hXb hB hf)).mono ?_
    rintro e w1 ⟨rfl, hb1⟩
    rw [HF.out]
    have hz1 := hb1.size
    have hbw1 : Below w.heap.size w w1 := hXb.trans (hb1.mono hXb.size)
    have y0 := (hb1.block w.heap.size (by omega)).trans hX0
    have y1 := (hb1.block (w.heap.size + 1) (by omega)).trans hX1
    obtain ⟨f0, f1, f2, f3, f4, f5, f6, f7, f8⟩ := Nine.box y0
    go_wp2_with fail
    refine (HK.out w1 hbw1).mono ?_
    rintro e w2 ⟨D2, d2, b1, m1, e1, b2, m2, e2, b3, m3, e3, rfl, hb2, hO2⟩
    have hz2 := hb2.size
    have hbw2 : Below w.heap.size w w2 := hbw1.trans (hb2.mono hbw1.size)
    have y2 := (hb2.block (w.heap.size + 1) (by omega)).trans y1
    clear f0 f1 f2 f3 f4 f5 f6 f7 f8
    obtain ⟨p0, p1, p2, p3, p4, p5, p6, p7, p8⟩ := Nine.box y2
    have pf := row_free y2
    go_wp2_with fail
    refine bodyPost_ret (v := .agg #[.int .i64 R.K, .int .i64 R.N, .string R.S, .string R.Z, .int .i64 R.T.K, .int .i64 R.T.N, .slice b1 m1 e1, .slice b2 m2 e2, .slice b3 m3 e3]) (by simp [results, Tryz.results6, go_sem, p0, p1, p2, p3, p4, p5, p6, p7, p8]) rfl ?_
    exact ⟨D2, d2, fin_new hO2 (by omega) hbw2⟩
  | false =>
    have e : foldT t = t := by unfold foldT; rw [hok]; rfl
    rw [e]
    have HF : Hid (okM t = false) := hok
    clear hok e
    go_enter Tryz.func6, Tryz.ntmps6
    go_wp2_with fail
    rw [← HX.out]
    refine (sTermOk_any D d L B t _ _ _ _ _ _ _ _ _ X (by omega) (Fm.below hXb hB hf)).mono ?_
    rintro e w1 ⟨rfl, hb1⟩
    rw [HF.out]
    have hz1 := hb1.size
    have hbw1 : Below w.heap.size w w1 := hXb.trans (hb1.mono hXb.size)
    have y0 := (hb1.block w.heap.size (by omega)).trans hX0
    have y1 := (hb1.block (w.heap.size + 1) (by omega)).trans hX1
    obtain ⟨f0, f1, f2, f3, f4, f5, f6, f7, f8⟩ := Nine.box y0
    go_wp2_with fail
    refine (lm_any D d L B t _ _ _ _ _ _ _ _ _ w1 (by omega) (Fm.below hbw1 hB hf) hc).mono ?_
    rintro e w2 ⟨b1, m1, e1, b2, e2, b3, e3, rfl, hb2, hO2⟩
    have hz2 := hb2.size
    have hbw2 : Below w.heap.size w w2 := hbw1.trans (hb2.mono hbw1.size)
    have y2 := (hb2.block (w.heap.size + 1) (by omega)).trans y1
    clear f0 f1 f2 f3 f4 f5 f6 f7 f8
    obtain ⟨p0, p1, p2, p3, p4, p5, p6, p7, p8⟩ := Nine.box y2
    have pf := row_free y2
    go_wp2_with fail
    refine bodyPost_ret (v := .agg #[.int .i64 t.K, .int .i64 t.N, .string t.S, .string t.Z, .int .i64 t.T.K, .int .i64 t.T.N, .slice b1 m1 e1, .slice b2 l2 e2, .slice b3 l3 e3]) (by simp [results, Tryz.results6, go_sem, p0, p1, p2, p3, p4, p5, p6, p7, p8]) rfl ?_
    exact ⟨_, _, fin_new hO2 (by omega) hbw2⟩

end Go.Proofs.YtibbdhmbgnjmoaaGreat

/-
  Folded once, nothing is left to fold: no walk.
-/
namespace Go.Proofs.YtibbdhmbgnjmoaaGreat
open Go.RowKit
set_option linter.unusedVariables false
set_option linter.unusedSimpArgs false

/-- Nothing is left to fold. -/
inductive Nf : Tm → Prop
  | mk (t : Tm) (h : ∀ x ∈ t.A, Nf x) (h1 : fold1 t = t) : Nf t

theorem Nf.parts {t : Tm} (h : Nf t) : ∀ x ∈ t.A, Nf x := by cases h with | mk _ h _ => exact h

theorem Nf.fold {t : Tm} (h : Nf t) : foldM t = t := by
  induction h with
  | mk t _ h1 ih =>
    have e : upM t = t := by
      unfold upM
      have : t.A.map foldM = t.A := by
        conv => rhs; rw [← List.map_id t.A]
        exact List.map_congr_left fun x hx => ih x hx
      rw [this]
      cases t
      rfl
    rw [foldM_eq, e, h1]

theorem nf_num (k v : Int) (hk : k = 1 ∨ k = 2) : Nf (numM k v) := by
  refine .mk _ (fun x hx => by simp [numM] at hx) ?_
  have hK : (numM k v).K = k := rfl
  unfold fold1
  rw [hK]
  rcases hk with rfl | rfl <;> rfl

theorem nf_fold : ∀ (n : Nat) (t : Tm), cntM t ≤ n → Nf (foldM t) := by
  intro n
  induction n with
  | zero =>
    intro t h
    have hA : t.A = [] := by
      cases e : t.A with
      | nil => rfl
      | cons x l =>
        have := cntM_part (t := t) (i := 0) (by rw [e]; simp)
        omega
    have hu : (upM t).A = [] := by unfold upM; simp [hA]
    rw [foldM_eq]
    have hs := fold1_sub (upM t)
    generalize hf : fold1 (upM t) = u at hs
    cases hs with
    | self => exact .mk _ (fun x hx => by rw [hu] at hx; simp at hx) hf
    | part i h => rw [hu] at h; simp at h
    | deep i h j h' => rw [hu] at h; simp at h
    | num v _ _ => exact nf_num 1 v (Or.inl rfl)
    | truth v _ => exact nf_num 2 v (Or.inr rfl)
  | succ n ih =>
    intro t h
    have hp : ∀ x ∈ (upM t).A, Nf x := fun x hx => by
      obtain ⟨y, hy, rfl⟩ := List.mem_map.1 (show x ∈ t.A.map foldM from hx)
      obtain ⟨i, hi, rfl⟩ := List.getElem_of_mem hy
      have := cntM_part hi
      exact ih _ (by omega)
    rw [foldM_eq]
    have hs := fold1_sub (upM t)
    generalize hf : fold1 (upM t) = u at hs
    cases hs with
    | self => exact .mk _ hp hf
    | part i h => exact hp _ (List.getElem_mem h)
    | deep i h j h' => exact (hp _ (List.getElem_mem h)).parts _ (List.getElem_mem h')
    | num v _ _ => exact nf_num 1 v (Or.inl rfl)
    | truth v _ => exact nf_num 2 v (Or.inr rfl)

theorem foldM_idem (t : Tm) : foldM (foldM t) = foldM t := (nf_fold _ t (Nat.le_refl _)).fold

theorem okM_fold {t : Tm} (h : okM t = true) : okM (foldM t) = true := by
  obtain ⟨m, hm, hm6⟩ := okM_some h
  obtain ⟨m1, _, h2, m2, h3, h4⟩ := fold_nodes 24 t m hm
  unfold okM
  rw [h3]
  unfold lid
  simp only
  rw [if_pos (by omega)]
  rfl

end Go.Proofs.YtibbdhmbgnjmoaaGreat

/-
  What 'sameTyNode' comes to, and the two plain ways to hold one type against another: the model's 'SameTy' and the program's 'sameRightTy'.
-/
namespace Go.Proofs.YtibbdhmbgnjmoaaGreat
open Go.RowKit
set_option linter.unusedVariables false
set_option linter.unusedSimpArgs false

def SaidSs (d : Nat) : Prop := ∀ (L B L' B' : Nat) (k n : Int) (ao : Option Addr) (len cap : Nat) (ts : List Tr) (k' n' : Int) (ao' : Option Addr) (len' cap' : Nat) (ts' : List Tr) (b : Bool) (w : World), B ≤ w.heap.size → B' ≤ w.heap.size → Hs L B w d ao len ts → Hs L' B' w d ao' len' ts' →
    (b = true ↔ (⟨k, n, ts⟩ : Tr) = ⟨k', n', ts'⟩) →
    Calls Tryz.prog 64 #[.agg #[.int .i64 k, .int .i64 n, .slice ao len cap], .agg #[.int .i64 k', .int .i64 n', .slice ao' len' cap']] w fun e w' => e = .returned (.bool b) ∧ Below w.heap.size w w'

set_option maxRecDepth 100000 in
set_option maxHeartbeats 4000000 in
theorem ss_step (d : Nat) (IH : 0 < d → SaidSs (d - 1)) : SaidSs d := by
  intro L B L' B' k n ao len cap ts k' n' ao' len' cap' ts' b w hB hB' hs hs' hb
  have hl := hs.len.2
  have hl' := hs'.len.2
  have HL : Hid (len = ts.length) := hs.len.1
  have HL' : Hid (len' = ts'.length) := hs'.len.1
  have HB : Hid (b = true ↔ (⟨k, n, ts⟩ : Tr) = ⟨k', n', ts'⟩) := hb
  clear hb
  obtain ⟨X, hX⟩ : ∃ X, X = ((w.alloc (.cells #[.int .i64 k, .int .i64 n, .slice ao len cap] 31)).alloc (.cells #[.int .i64 k', .int .i64 n', .slice ao' len' cap'] 31)) := ⟨_, rfl⟩
  have hbel : Below w.heap.size w X := by rw [hX]; exact ((Below.refl _ _).alloc (Nat.le_refl _) _).alloc (by simp) _
  have hXs : X.heap.size = w.heap.size + 2 := by rw [hX]; simp
  have hX0 : X.heap[w.heap.size]? = some (.cells #[.int .i64 k, .int .i64 n, .slice ao len cap] 31 (0, 0)) := by rw [hX, Below.heap_alloc _ _ _ (by simp)]; exact heap_new rfl
  have hX1 : X.heap[w.heap.size + 1]? = some (.cells #[.int .i64 k', .int .i64 n', .slice ao' len' cap'] 31 (0, 0)) := by rw [hX]; exact heap_new (by simp)
  have HX : Hid (X = _) := hX
  clear hX
  by_cases h1 : k = k'
  case' neg =>
    have h1b : (k != k') = true := by simp [h1]
    have HF : Hid (b = false) := by show _ = _; rw [Bool.eq_false_iff]; intro h; exact h1 (congrArg Tr.K (HB.out.1 h))
    clear h1
    go_enter Tryz.func64, Tryz.ntmps64
    go_wp2_with fail
    go_ret
    rw [← HX.out]
    exact ⟨ret_bool HF.out.symm, hbel⟩
  have h1b : (k != k') = false := by simp [h1]
  by_cases h2 : n = n'
  case' neg =>
    have h2b : (n != n') = true := by simp [h2]
    have HF : Hid (b = false) := by show _ = _; rw [Bool.eq_false_iff]; intro h; exact h2 (congrArg Tr.N (HB.out.1 h))
    clear h1 h2
    go_enter Tryz.func64, Tryz.ntmps64
    go_wp2_with fail
    go_ret
    rw [← HX.out]
    exact ⟨ret_bool HF.out.symm, hbel⟩
  have h2b : (n != n') = false := by simp [h2]
  by_cases h3 : len = len'
  case' neg =>
    have h3b : ((len : Int) != (len' : Int)) = true := by rw [bne_iff_ne]; omega
    have HF : Hid (b = false) := by show _ = _; rw [Bool.eq_false_iff]; intro h; exact h3 (by rw [HL.out, HL'.out]; exact congrArg (fun t => t.A.length) (HB.out.1 h))
    clear h1 h2 h3
    go_enter Tryz.func64, Tryz.ntmps64
    go_wp2_with fail
    go_ret
    rw [← HX.out]
    exact ⟨ret_bool HF.out.symm, hbel⟩
  have h3b : ((len : Int) != (len' : Int)) = false := by simp [h3]
  have HY : Hid (ts = ts' → b = true) := fun h => HB.out.2 (by rw [h1, h2, h])
  have HNo : Hid (¬ ts = ts' → b = false) := fun h => by rw [Bool.eq_false_iff]; intro hb; exact h (congrArg Tr.A (HB.out.1 hb))
  have H3 : Hid (len = len') := h3
  have f2 := row_cell hX0 2
  have g2 := row_cell hX1 2
  simp only [List.getElem?_toArray, List.getElem?_cons_zero, List.getElem?_cons_succ] at f2 g2
  have htl : w.heap.size < X.heap.size := by omega
  have htl' : w.heap.size + 1 < X.heap.size := by omega
  clear h1 h2 h3
  go_enter Tryz.func64, Tryz.ntmps64
  go_wp2_with fail
  rw [← HX.out]
  have HXs : Hid (_ = _) := hXs
  clear hXs hX0 hX1
  go_loopw [5] (fun i wr => ∃ j : Nat, j ≤ len ∧ i = .int .i64 j ∧ Hid (likeB ts ts' j) ∧ Below X.heap.size X wr) (fun i _ => len - (intOf i).toNat)
  case atStart => exact ⟨0, by omega, rfl, rfl, Below.refl _ _⟩
  case round =>
    obtain ⟨j, hj, rfl, HA, hbr⟩ := hrel
    have hszr := hbr.size
    have p2 := (bcell hbr htl 2).trans f2
    have q2 := (bcell hbr htl' 2).trans g2
    have hbw : Below w.heap.size w wr := hbel.trans (hbr.mono (by omega))
    have htr : w.heap.size < wr.heap.size := by omega
    have htr' : w.heap.size + 1 < wr.heap.size := by omega
    by_cases hlt : j < len
    · have hlt1 : j < ts.length := by have := HL.out; omega
      have hlt2 : j < ts'.length := by have := HL'.out; have := H3.out; omega
      have hlt' : j < len' := by have := H3.out; omega
      obtain ⟨x, o, rfl, _, hxB, ao1, len1, cap1, c0, c1, c2, hs1⟩ := hs.get j hlt1
      obtain ⟨x', o', rfl, _, hxB', ao2, len2, cap2, c0', c1', c2', hs2⟩ := hs'.get j hlt2
      have e0 := (bcell hbw (by omega) _).trans c0
      have e1 := (bcell hbw (by omega) _).trans c1
      have e2 := (bcell hbw (by omega) _).trans c2
      have e0' := (bcell hbw (by omega) _).trans c0'
      have e1' := (bcell hbw (by omega) _).trans c1'
      have e2' := (bcell hbw (by omega) _).trans c2'
      have hxr : x < wr.heap.size := by omega
      have hxr' : x' < wr.heap.size := by omega
      have hd : 0 < d := by
        cases d with
        | zero => obtain ⟨_, rfl⟩ := hs; simp at hlt1
        | succ d => omega
      have hr1 := hs1.below hbw hB
      have hr2 := hs2.below hbw hB'
      have hBr : B ≤ wr.heap.size := by omega
      have hBr' : B' ≤ wr.heap.size := by omega
      have hj0 : (0 : Int) ≤ (j : Int) := by omega
      have hjl : (j : Int) < (len : Int) := by omega
      have hjl' : (j : Int) < (len' : Int) := by omega
      clear c0 c1 c2 c0' c1' c2'
      by_cases heq : ts[j] = ts'[j]
      · have HE : Hid (ts[j] = ts'[j]) := heq
        have HN : Hid (likeB ts ts' (j + 1)) := like_next HA.out hlt1 hlt2 heq
        clear heq
        go_wp2_with fail
        refine wp_region_below (by kernel_rfl) (by kernel_rfl) ?_
        repeat (first
          | go_big_quiet_skip
          | (go_big_quiet_want; unfold Oper.quiet; apply Exists.intro; refine ⟨fun w' hC => ?_, ?_⟩; (have y0 := (bcell hC htr 2).trans p2; have y1 := (bcell hC htr' 2).trans q2; have z0 := (bcell hC hxr _).trans e0; have z1 := (bcell hC hxr _).trans e1; have z2 := (bcell hC hxr _).trans e2; have z0' := (bcell hC hxr' _).trans e0'; have z1' := (bcell hC hxr' _).trans e1'; have z2' := (bcell hC hxr' _).trans e2'; unfold Oper.quietAt; go_simp; first | exact rfl | exact ⟨rfl, rfl⟩ | (go_at_call 64; refine (IH hd L B L' B' _ _ _ _ _ ts[j].A _ _ _ _ _ ts'[j].A true _ (Nat.le_trans hBr hC.size) (Nat.le_trans hBr' hC.size) (hr1.below hC hBr) (hr2.below hC hBr') (Iff.intro (fun _ => by rw [tr_eta, tr_eta]; exact HE.out) (fun _ => rfl))).mono ?_; rintro e w'' ⟨rfl, hw⟩; exact ⟨rfl, hC.trans (hw.mono hC.size)⟩)); go_big_quiet_on; simp only [Act.put, List.setIfInBounds_toArray, List.set_cons_zero, List.set_cons_succ]))
        refine wpQuiet_nil ?_
        intro w2 hb2
        have hbr2 : Below X.heap.size X w2 := hbr.trans (hb2.mono hszr)
        go_wp2_with fail
        go_roundw
        case rel => exact ⟨j + 1, by omega, by go_num, HN, hbr2⟩
        case measure => simp [intOf]; omega
      · have HE : Hid (¬ ts[j] = ts'[j]) := heq
        have HN : Hid (b = false) := HNo.out (unlike_at hlt1 hlt2 heq)
        clear heq
        go_wp2_with fail
        refine wp_region_below (by kernel_rfl) (by kernel_rfl) ?_
        repeat (first
          | go_big_quiet_skip
          | (go_big_quiet_want; unfold Oper.quiet; apply Exists.intro; refine ⟨fun w' hC => ?_, ?_⟩; (have y0 := (bcell hC htr 2).trans p2; have y1 := (bcell hC htr' 2).trans q2; have z0 := (bcell hC hxr _).trans e0; have z1 := (bcell hC hxr _).trans e1; have z2 := (bcell hC hxr _).trans e2; have z0' := (bcell hC hxr' _).trans e0'; have z1' := (bcell hC hxr' _).trans e1'; have z2' := (bcell hC hxr' _).trans e2'; unfold Oper.quietAt; go_simp; first | exact rfl | exact ⟨rfl, rfl⟩ | (go_at_call 64; refine (IH hd L B L' B' _ _ _ _ _ ts[j].A _ _ _ _ _ ts'[j].A false _ (Nat.le_trans hBr hC.size) (Nat.le_trans hBr' hC.size) (hr1.below hC hBr) (hr2.below hC hBr') (Iff.intro (fun h => nomatch h) (fun h => (HE.out (by rw [tr_eta, tr_eta] at h; exact h)).elim))).mono ?_; rintro e w'' ⟨rfl, hw⟩; exact ⟨rfl, hC.trans (hw.mono hC.size)⟩)); go_big_quiet_on; simp only [Act.put, List.setIfInBounds_toArray, List.set_cons_zero, List.set_cons_succ]))
        refine wpQuiet_nil ?_
        intro w2 hb2
        go_wp2_with fail
        go_ret
        exact ⟨ret_bool HN.out.symm, hbw.trans (hb2.mono (by omega))⟩
    · have HT : Hid (b = true) := HY.out (like_all HA.out (by have := HL.out; omega) (by have := HL'.out; have := H3.out; omega))
      go_wp2_with fail
      go_ret
      exact ⟨ret_bool HT.out.symm, hbw⟩

theorem ss_any (d : Nat) : SaidSs d := by
  induction d with
  | zero => exact ss_step 0 (fun h => by omega)
  | succ d ih => exact ss_step (d + 1) (fun _ => by simpa using ih)

end Go.Proofs.YtibbdhmbgnjmoaaGreat

/-
  What the model's 'SameTerm' comes to.
-/
namespace Go.Proofs.YtibbdhmbgnjmoaaGreat
open Go.RowKit
set_option linter.unusedVariables false
set_option linter.unusedSimpArgs false

theorem bytes_eq {s z : ByteArray} (h : (s.toList == z.toList) = true) : s = z := by
  have h1 : s.toList = z.toList := beq_iff_eq.1 h
  rw [ByteArray.toList_eq, ByteArray.toList_eq] at h1
  cases s; cases z
  congr 1
  exact Array.toList_inj.1 h1

def likeMB (l l' : List Tm) (j : Nat) : Prop := l.take j = l'.take j
theorem likeM_all {l l' : List Tm} {j : Nat} (h : likeMB l l' j) (h1 : l.length ≤ j) (h2 : l'.length ≤ j) : l = l' := by
  unfold likeMB at h; rwa [List.take_of_length_le h1, List.take_of_length_le h2] at h
theorem likeM_next {l l' : List Tm} {j : Nat} (h : likeMB l l' j) (h1 : j < l.length) (h2 : j < l'.length) (he : l[j] = l'[j]) : likeMB l l' (j + 1) := by
  unfold likeMB at *
  rw [List.take_succ_eq_append_getElem h1, List.take_succ_eq_append_getElem h2, h, he]
theorem unlikeM_at {l l' : List Tm} {j : Nat} (h1 : j < l.length) (h2 : j < l'.length) (he : ¬ l[j] = l'[j]) : ¬ l = l' := by
  intro h; subst h; exact he rfl

def SaidSsM (d : Nat) : Prop := ∀ (D L B L' B' : Nat) (t t' : Tm) (a1 : Option Addr) (l1 c1 : Nat) (a2 : Option Addr) (l2 c2 : Nat) (a3 : Option Addr) (l3 c3 : Nat) (b1 : Option Addr) (m1 d1 : Nat) (b2 : Option Addr) (m2 d2 : Nat) (b3 : Option Addr) (m3 d3 : Nat) (b : Bool) (w : World), B ≤ w.heap.size → B' ≤ w.heap.size → Fm L B w D d t a1 l1 a2 l2 a3 l3 → Fm L' B' w D d t' b1 m1 b2 m2 b3 m3 →
    (b = true ↔ t = t') →
    Calls Tryz.prog 39 #[.agg #[.int .i64 t.K, .int .i64 t.N, .string t.S, .string t.Z, .int .i64 t.T.K, .int .i64 t.T.N, .slice a1 l1 c1, .slice a2 l2 c2, .slice a3 l3 c3], .agg #[.int .i64 t'.K, .int .i64 t'.N, .string t'.S, .string t'.Z, .int .i64 t'.T.K, .int .i64 t'.T.N, .slice b1 m1 d1, .slice b2 m2 d2, .slice b3 m3 d3]] w fun e w' => e = .returned (.bool b) ∧ Below w.heap.size w w'

set_option maxRecDepth 100000 in
set_option maxHeartbeats 8000000 in
theorem ssm_step (d : Nat) (IH : 0 < d → SaidSsM (d - 1)) : SaidSsM d := by
  intro D L B L' B' t t' a1 l1 c1 a2 l2 c2 a3 l3 c3 b1 m1 d1 b2 m2 d2 b3 m3 d3 b w hB hB' hf hf' hb
  have hl2 := hf.t2.len.2
  have hm2 := hf'.t2.len.2
  have hl3 := hf.m.len.2
  have hm3 := hf'.m.len.2
  have HL2 : Hid (l2 = t.Ts.length) := hf.t2.len.1
  have HM2 : Hid (m2 = t'.Ts.length) := hf'.t2.len.1
  have HL3 : Hid (l3 = t.A.length) := hf.m.len.1
  have HM3 : Hid (m3 = t'.A.length) := hf'.m.len.1
  have HB : Hid (b = true ↔ t = t') := hb
  clear hb
  obtain ⟨X, hX⟩ : ∃ X, X = ((w.alloc (.cells #[.int .i64 t.K, .int .i64 t.N, .string t.S, .string t.Z, .int .i64 t.T.K, .int .i64 t.T.N, .slice a1 l1 c1, .slice a2 l2 c2, .slice a3 l3 c3] 34)).alloc (.cells #[.int .i64 t'.K, .int .i64 t'.N, .string t'.S, .string t'.Z, .int .i64 t'.T.K, .int .i64 t'.T.N, .slice b1 m1 d1, .slice b2 m2 d2, .slice b3 m3 d3] 34)) := ⟨_, rfl⟩
  have hbel : Below w.heap.size w X := by rw [hX]; exact ((Below.refl _ _).alloc (Nat.le_refl _) _).alloc (by simp) _
  have hXs : X.heap.size = w.heap.size + 2 := by rw [hX]; simp
  have hX0 : X.heap[w.heap.size]? = some (.cells #[.int .i64 t.K, .int .i64 t.N, .string t.S, .string t.Z, .int .i64 t.T.K, .int .i64 t.T.N, .slice a1 l1 c1, .slice a2 l2 c2, .slice a3 l3 c3] 34 (0, 0)) := by rw [hX, Below.heap_alloc _ _ _ (by simp)]; exact heap_new rfl
  have hX1 : X.heap[w.heap.size + 1]? = some (.cells #[.int .i64 t'.K, .int .i64 t'.N, .string t'.S, .string t'.Z, .int .i64 t'.T.K, .int .i64 t'.T.N, .slice b1 m1 d1, .slice b2 m2 d2, .slice b3 m3 d3] 34 (0, 0)) := by rw [hX]; exact heap_new (by simp)
  have HX : Hid (X = _) := hX
  clear hX
  by_cases h1 : t.K = t'.K
  case' neg =>
    have h1b : (t.K != t'.K) = true := by simp [h1]
    have HF : Hid (b = false) := by show _ = _; rw [Bool.eq_false_iff]; intro h; exact h1 (congrArg Tm.K (HB.out.1 h))
    clear h1
    go_enter Tryz.func39, Tryz.ntmps39
    go_wp2_with fail
    go_ret
    rw [← HX.out]
    exact ⟨ret_bool HF.out.symm, hbel⟩
  have h1b : (t.K != t'.K) = false := by simp [h1]
  have H1 : Hid (_ = _) := h1
  clear h1
  by_cases h2 : t.N = t'.N
  case' neg =>
    have h2b : (t.N != t'.N) = true := by simp [h2]
    have HF : Hid (b = false) := by show _ = _; rw [Bool.eq_false_iff]; intro h; exact h2 (congrArg Tm.N (HB.out.1 h))
    clear h2
    go_enter Tryz.func39, Tryz.ntmps39
    go_wp2_with fail
    go_ret
    rw [← HX.out]
    exact ⟨ret_bool HF.out.symm, hbel⟩
  have h2b : (t.N != t'.N) = false := by simp [h2]
  have H2 : Hid (_ = _) := h2
  clear h2
  by_cases h3 : (t.S.toList == t'.S.toList) = true
  case' neg =>
    have h3b : (t.S.toList == t'.S.toList) = false := by simpa using h3
    have HF : Hid (b = false) := by show _ = _; rw [Bool.eq_false_iff]; intro h; exact h3 (by rw [HB.out.1 h]; simp)
    clear h3
    go_enter Tryz.func39, Tryz.ntmps39
    go_wp2_with fail
    go_ret
    rw [← HX.out]
    exact ⟨ret_bool HF.out.symm, hbel⟩
  have h3b := h3
  have H3 : Hid (t.S = t'.S) := bytes_eq h3
  clear h3
  by_cases h4 : (t.Z.toList == t'.Z.toList) = true
  case' neg =>
    have h4b : (t.Z.toList == t'.Z.toList) = false := by simpa using h4
    have HF : Hid (b = false) := by show _ = _; rw [Bool.eq_false_iff]; intro h; exact h4 (by rw [HB.out.1 h]; simp)
    clear h4
    go_enter Tryz.func39, Tryz.ntmps39
    go_wp2_with fail
    go_ret
    rw [← HX.out]
    exact ⟨ret_bool HF.out.symm, hbel⟩
  have h4b := h4
  have H4 : Hid (t.Z = t'.Z) := bytes_eq h4
  clear h4
  have htl : w.heap.size < X.heap.size := by omega
  have htl' : w.heap.size + 1 < X.heap.size := by omega
  have HXs : Hid (_ = _) := hXs
  have hfX := Fm.below hbel hB hf
  have hfX' := Fm.below hbel hB' hf'
  have hBX : B ≤ X.heap.size := by omega
  have hBX' : B' ≤ X.heap.size := by omega
  clear hXs
  by_cases h5 : t.T = t'.T
  case' neg =>
    have HF : Hid (b = false) := by show _ = _; rw [Bool.eq_false_iff]; intro h; exact h5 (congrArg Tm.T (HB.out.1 h))
    have HE : Hid (¬ t.T = t'.T) := h5
    clear h5
    go_enter Tryz.func39, Tryz.ntmps39
    go_wp2_with fail
    rw [← HX.out]
    refine (ss_any D L B L' B' _ _ _ _ _ t.T.A _ _ _ _ _ t'.T.A false _ hBX hBX' hfX.t1 hfX'.t1 (Iff.intro (fun h => nomatch h) (fun h => (HE.out (by rw [tr_eta, tr_eta] at h; exact h)).elim))).mono ?_
    rintro e w1 ⟨rfl, hb1⟩
    go_wp2_with fail
    go_ret
    exact ⟨ret_bool HF.out.symm, hbel.trans (hb1.mono (by have := HXs.out; omega))⟩
  have H5 : Hid (t.T = t'.T) := h5
  clear h5
  go_enter Tryz.func39, Tryz.ntmps39
  go_wp2_with fail
  rw [← HX.out]
  refine (ss_any D L B L' B' _ _ _ _ _ t.T.A _ _ _ _ _ t'.T.A true _ hBX hBX' hfX.t1 hfX'.t1 (Iff.intro (fun _ => by rw [tr_eta, tr_eta]; exact H5.out) (fun _ => rfl))).mono ?_
  rintro e w1 ⟨rfl, hb1⟩
  have hz1 := hb1.size
  have hbw1 : Below w.heap.size w w1 := hbel.trans (hb1.mono (Nat.le_of_lt htl))
  replace hX0 := (hb1.block _ htl).trans hX0
  replace hX1 := (hb1.block _ htl').trans hX1
  replace htl := Nat.lt_of_lt_of_le htl hz1
  replace htl' := Nat.lt_of_lt_of_le htl' hz1
  obtain ⟨f0, f1, f2, f3, f4, f5, f6, f7, f8⟩ := Nine.box hX0
  obtain ⟨g0, g1, g2, g3, g4, g5, g6, g7, g8⟩ := Nine.box hX1
  simp only [Nat.zero_add] at f7 f8 g7 g8
  clear f0 f1 f2 f3 f4 f5 f6 g0 g1 g2 g3 g4 g5 g6 hX0 hX1
  by_cases h6 : l2 = m2
  case' neg =>
    have h6b : ((l2 : Int) != (m2 : Int)) = true := by rw [bne_iff_ne]; omega
    have HF : Hid (b = false) := by show _ = _; rw [Bool.eq_false_iff]; intro h; exact h6 (by rw [HL2.out, HM2.out]; exact congrArg (fun x => x.Ts.length) (HB.out.1 h))
    clear h6
    go_wp2_with fail
    go_ret
    exact ⟨ret_bool HF.out.symm, hbw1⟩
  have h6b : ((l2 : Int) != (m2 : Int)) = false := by simp [h6]
  have H6 : Hid (l2 = m2) := h6
  clear h6
  by_cases h7 : l3 = m3
  case' neg =>
    have h7b : ((l3 : Int) != (m3 : Int)) = true := by rw [bne_iff_ne]; omega
    have HF : Hid (b = false) := by show _ = _; rw [Bool.eq_false_iff]; intro h; exact h7 (by rw [HL3.out, HM3.out]; exact congrArg (fun x => x.A.length) (HB.out.1 h))
    clear h7
    go_wp2_with fail
    go_ret
    exact ⟨ret_bool HF.out.symm, hbw1⟩
  have h7b : ((l3 : Int) != (m3 : Int)) = false := by simp [h7]
  have H7 : Hid (l3 = m3) := h7
  clear h7
  go_wp2_with fail
  go_loopw [5] (fun i wr => ∃ j : Nat, j ≤ l2 ∧ i = .int .i64 j ∧ Hid (likeB t.Ts t'.Ts j) ∧ Below w1.heap.size w1 wr) (fun i _ => l2 - (intOf i).toNat)
  case atStart => exact ⟨0, by omega, rfl, rfl, Below.refl _ _⟩
  case round =>
    obtain ⟨j, hj, rfl, HA, hbr⟩ := hrel
    have hszr := hbr.size
    have p7 := (bcell hbr htl 7).trans f7
    have q7 := (bcell hbr htl' 7).trans g7
    have hbw : Below w.heap.size w wr := hbw1.trans (hbr.mono (by omega))
    have htr : w.heap.size < wr.heap.size := by omega
    have htr' : w.heap.size + 1 < wr.heap.size := by omega
    have hBr : B ≤ wr.heap.size := by omega
    have hBr' : B' ≤ wr.heap.size := by omega
    by_cases hlt : j < l2
    · have hlt1 : j < t.Ts.length := by have := HL2.out; omega
      have hlt2 : j < t'.Ts.length := by have := HM2.out; have := H6.out; omega
      have hlt' : j < m2 := by have := H6.out; omega
      obtain ⟨x, o, rfl, _, hxB, ao1, len1, cap1, c0, c1x, c2x, hs1⟩ := hf.t2.get j hlt1
      obtain ⟨x', o', rfl, _, hxB', ao2, len2, cap2, c0', c1', c2', hs2⟩ := hf'.t2.get j hlt2
      have e0 := (bcell hbw (by omega) _).trans c0
      have e1 := (bcell hbw (by omega) _).trans c1x
      have e2 := (bcell hbw (by omega) _).trans c2x
      have e0' := (bcell hbw (by omega) _).trans c0'
      have e1' := (bcell hbw (by omega) _).trans c1'
      have e2' := (bcell hbw (by omega) _).trans c2'
      have hxr : x < wr.heap.size := by omega
      have hxr' : x' < wr.heap.size := by omega
      have hr1 := hs1.below hbw hB
      have hr2 := hs2.below hbw hB'
      have hj0 : (0 : Int) ≤ (j : Int) := by omega
      have hjl : (j : Int) < (l2 : Int) := by omega
      have hjl' : (j : Int) < (m2 : Int) := by omega
      clear c0 c1x c2x c0' c1' c2'
      by_cases heq : t.Ts[j] = t'.Ts[j]
      · have HE : Hid (t.Ts[j] = t'.Ts[j]) := heq
        have HN : Hid (likeB t.Ts t'.Ts (j + 1)) := like_next HA.out hlt1 hlt2 heq
        clear heq
        go_wp2_with fail
        refine wp_region_below (by kernel_rfl) (by kernel_rfl) ?_
        repeat (first
          | go_big_quiet_skip
          | (go_big_quiet_want; unfold Oper.quiet; apply Exists.intro; refine ⟨fun w' hC => ?_, ?_⟩; (have y0 := (bcell hC htr 7).trans p7; have y1 := (bcell hC htr' 7).trans q7; have z0 := (bcell hC hxr _).trans e0; have z1 := (bcell hC hxr _).trans e1; have z2 := (bcell hC hxr _).trans e2; have z0' := (bcell hC hxr' _).trans e0'; have z1' := (bcell hC hxr' _).trans e1'; have z2' := (bcell hC hxr' _).trans e2'; unfold Oper.quietAt; go_simp; first | exact rfl | exact ⟨rfl, rfl⟩ | (go_at_call 64; refine (ss_any (D - 1) L B L' B' _ _ _ _ _ t.Ts[j].A _ _ _ _ _ t'.Ts[j].A true _ (Nat.le_trans hBr hC.size) (Nat.le_trans hBr' hC.size) (hr1.below hC hBr) (hr2.below hC hBr') (Iff.intro (fun _ => by rw [tr_eta, tr_eta]; exact HE.out) (fun _ => rfl))).mono ?_; rintro e w'' ⟨rfl, hw⟩; exact ⟨rfl, hC.trans (hw.mono hC.size)⟩)); go_big_quiet_on; simp only [Act.put, List.setIfInBounds_toArray, List.set_cons_zero, List.set_cons_succ]))
        refine wpQuiet_nil ?_
        intro w2 hb2
        have hbr2 : Below w1.heap.size w1 w2 := hbr.trans (hb2.mono hszr)
        go_wp2_with fail
        go_roundw
        case rel => exact ⟨j + 1, by omega, by go_num, HN, hbr2⟩
        case measure => simp [intOf]; omega
      · have HE : Hid (¬ t.Ts[j] = t'.Ts[j]) := heq
        have HN : Hid (b = false) := by show _ = _; rw [Bool.eq_false_iff]; intro h; exact unlike_at hlt1 hlt2 heq (congrArg Tm.Ts (HB.out.1 h))
        clear heq
        go_wp2_with fail
        refine wp_region_below (by kernel_rfl) (by kernel_rfl) ?_
        repeat (first
          | go_big_quiet_skip
          | (go_big_quiet_want; unfold Oper.quiet; apply Exists.intro; refine ⟨fun w' hC => ?_, ?_⟩; (have y0 := (bcell hC htr 7).trans p7; have y1 := (bcell hC htr' 7).trans q7; have z0 := (bcell hC hxr _).trans e0; have z1 := (bcell hC hxr _).trans e1; have z2 := (bcell hC hxr _).trans e2; have z0' := (bcell hC hxr' _).trans e0'; have z1' := (bcell hC hxr' _).trans e1'; have z2' := (bcell hC hxr' _).trans e2'; unfold Oper.quietAt; go_simp; first | exact rfl | exact ⟨rfl, rfl⟩ | (go_at_call 64; refine (ss_any (D - 1) L B L' B' _ _ _ _ _ t.Ts[j].A _ _ _ _ _ t'.Ts[j].A false _ (Nat.le_trans hBr hC.size) (Nat.le_trans hBr' hC.size) (hr1.below hC hBr) (hr2.below hC hBr') (Iff.intro (fun h => nomatch h) (fun h => (HE.out (by rw [tr_eta, tr_eta] at h; exact h)).elim))).mono ?_; rintro e w'' ⟨rfl, hw⟩; exact ⟨rfl, hC.trans (hw.mono hC.size)⟩)); go_big_quiet_on; simp only [Act.put, List.setIfInBounds_toArray, List.set_cons_zero, List.set_cons_succ]))
        refine wpQuiet_nil ?_
        intro w2 hb2
        go_wp2_with fail
        go_ret
        exact ⟨ret_bool HN.out.symm, hbw.trans (hb2.mono (by omega))⟩
    · have HTs : Hid (t.Ts = t'.Ts) := like_all HA.out (by have := HL2.out; omega) (by have := HM2.out; have := H6.out; omega)
      have p8 := (bcell hbr htl 8).trans f8
      have q8 := (bcell hbr htl' 8).trans g8
      clear HA
      obtain ⟨wt, hwt⟩ : ∃ wt : World, wt = wr := ⟨_, rfl⟩
      subst hwt
      clear f7 f8 g7 g8
      go_wp2_with fail
      clear p7 q7
      go_loopw [6] (fun i wr => ∃ j : Nat, j ≤ l3 ∧ i = .int .i64 j ∧ Hid (likeMB t.A t'.A j) ∧ Below wt.heap.size wt wr) (fun i _ => l3 - (intOf i).toNat)
      case atStart => exact ⟨0, by omega, rfl, rfl, Below.refl _ _⟩
      case round =>
        obtain ⟨j, hj, rfl, HA, hbr2⟩ := hrel
        have hszr2 := hbr2.size
        have hbw2 : Below w.heap.size w wr := hbw.trans (hbr2.mono (by omega))
        have p8r := (bcell hbr2 htr 8).trans p8
        have q8r := (bcell hbr2 htr' 8).trans q8
        replace htr : w.heap.size < wr.heap.size := by omega
        replace htr' : w.heap.size + 1 < wr.heap.size := by omega
        replace hBr : B ≤ wr.heap.size := by omega
        replace hBr' : B' ≤ wr.heap.size := by omega
        by_cases hlt3 : j < l3
        · have hlt1 : j < t.A.length := by have := HL3.out; omega
          have hlt2 : j < t'.A.length := by have := HM3.out; have := H7.out; omega
          have hlt' : j < m3 := by have := H7.out; omega
          have hd : 0 < d := by have := hf.m; cases d with | zero => obtain ⟨_, e⟩ := this; rw [e] at hlt1; simp at hlt1 | succ d => omega
          obtain ⟨x, o, rfl, _, hxB, u1, u2, u3, u4, u5, u6, u7, u8, u9, h9, hg1⟩ := hf.m.get j hlt1
          obtain ⟨x', o', rfl, _, hxB', v1, v2, v3, v4, v5, v6, v7, v8, v9, h9', hg2⟩ := hf'.m.get j hlt2
          obtain ⟨e0, e1, e2, e3, e4, e5, e6, e7, e8⟩ := h9.below hbw2 (by omega)
          obtain ⟨e0', e1', e2', e3', e4', e5', e6', e7', e8'⟩ := h9'.below hbw2 (by omega)
          have hxr : x < wr.heap.size := by omega
          have hxr' : x' < wr.heap.size := by omega
          have hr1 := Fm.below hbw2 hB hg1
          have hr2 := Fm.below hbw2 hB' hg2
          have hj0 : (0 : Int) ≤ (j : Int) := by omega
          have hjl : (j : Int) < (l3 : Int) := by omega
          have hjl' : (j : Int) < (m3 : Int) := by omega
          clear h9 h9' p8 q8
          by_cases heq : t.A[j] = t'.A[j]
          · have HE : Hid (t.A[j] = t'.A[j]) := heq
            have HN : Hid (likeMB t.A t'.A (j + 1)) := likeM_next HA.out hlt1 hlt2 heq
            clear heq
            go_wp2_with fail
            refine wp_region_below (by kernel_rfl) (by kernel_rfl) ?_
            repeat (first
              | go_big_quiet_skip
              | (go_big_quiet_want; unfold Oper.quiet; apply Exists.intro; refine ⟨fun w' hC => ?_, ?_⟩; (have y0 := (bcell hC htr 8).trans p8r; have y1 := (bcell hC htr' 8).trans q8r; have z0 := (bcell hC hxr _).trans e0; have z0' := (bcell hC hxr' _).trans e0'; have z1 := (bcell hC hxr _).trans e1; have z1' := (bcell hC hxr' _).trans e1'; have z2 := (bcell hC hxr _).trans e2; have z2' := (bcell hC hxr' _).trans e2'; have z3 := (bcell hC hxr _).trans e3; have z3' := (bcell hC hxr' _).trans e3'; have z4 := (bcell hC hxr _).trans e4; have z4' := (bcell hC hxr' _).trans e4'; have z5 := (bcell hC hxr _).trans e5; have z5' := (bcell hC hxr' _).trans e5'; have z6 := (bcell hC hxr _).trans e6; have z6' := (bcell hC hxr' _).trans e6'; have z7 := (bcell hC hxr _).trans e7; have z7' := (bcell hC hxr' _).trans e7'; have z8 := (bcell hC hxr _).trans e8; have z8' := (bcell hC hxr' _).trans e8'; unfold Oper.quietAt; go_simp; first | exact rfl | exact ⟨rfl, rfl⟩ | (go_at_call 39; refine (IH hd D L B L' B' t.A[j] t'.A[j] _ _ _ _ _ _ _ _ _ _ _ _ _ _ _ _ _ _ true _ (Nat.le_trans hBr hC.size) (Nat.le_trans hBr' hC.size) (Fm.below hC hBr hr1) (Fm.below hC hBr' hr2) (Iff.intro (fun _ => HE.out) (fun _ => rfl))).mono ?_; rintro e w'' ⟨rfl, hw⟩; exact ⟨rfl, hC.trans (hw.mono hC.size)⟩)); go_big_quiet_on; simp only [Act.put, List.setIfInBounds_toArray, List.set_cons_zero, List.set_cons_succ]))
            refine wpQuiet_nil ?_
            intro w2 hb2
            have hbr3 : Below wt.heap.size wt w2 := hbr2.trans (hb2.mono hszr2)
            go_wp2_with fail
            go_roundw
            case rel => exact ⟨j + 1, by omega, by go_num, HN, hbr3⟩
            case measure => simp [intOf]; omega
          · have HE : Hid (¬ t.A[j] = t'.A[j]) := heq
            have HN : Hid (b = false) := by show _ = _; rw [Bool.eq_false_iff]; intro h; exact unlikeM_at hlt1 hlt2 heq (congrArg Tm.A (HB.out.1 h))
            clear heq
            go_wp2_with fail
            refine wp_region_below (by kernel_rfl) (by kernel_rfl) ?_
            repeat (first
              | go_big_quiet_skip
              | (go_big_quiet_want; unfold Oper.quiet; apply Exists.intro; refine ⟨fun w' hC => ?_, ?_⟩; (have y0 := (bcell hC htr 8).trans p8r; have y1 := (bcell hC htr' 8).trans q8r; have z0 := (bcell hC hxr _).trans e0; have z0' := (bcell hC hxr' _).trans e0'; have z1 := (bcell hC hxr _).trans e1; have z1' := (bcell hC hxr' _).trans e1'; have z2 := (bcell hC hxr _).trans e2; have z2' := (bcell hC hxr' _).trans e2'; have z3 := (bcell hC hxr _).trans e3; have z3' := (bcell hC hxr' _).trans e3'; have z4 := (bcell hC hxr _).trans e4; have z4' := (bcell hC hxr' _).trans e4'; have z5 := (bcell hC hxr _).trans e5; have z5' := (bcell hC hxr' _).trans e5'; have z6 := (bcell hC hxr _).trans e6; have z6' := (bcell hC hxr' _).trans e6'; have z7 := (bcell hC hxr _).trans e7; have z7' := (bcell hC hxr' _).trans e7'; have z8 := (bcell hC hxr _).trans e8; have z8' := (bcell hC hxr' _).trans e8'; unfold Oper.quietAt; go_simp; first | exact rfl | exact ⟨rfl, rfl⟩ | (go_at_call 39; refine (IH hd D L B L' B' t.A[j] t'.A[j] _ _ _ _ _ _ _ _ _ _ _ _ _ _ _ _ _ _ false _ (Nat.le_trans hBr hC.size) (Nat.le_trans hBr' hC.size) (Fm.below hC hBr hr1) (Fm.below hC hBr' hr2) (Iff.intro (fun h => nomatch h) (fun h => (HE.out h).elim))).mono ?_; rintro e w'' ⟨rfl, hw⟩; exact ⟨rfl, hC.trans (hw.mono hC.size)⟩)); go_big_quiet_on; simp only [Act.put, List.setIfInBounds_toArray, List.set_cons_zero, List.set_cons_succ]))
            refine wpQuiet_nil ?_
            intro w2 hb2
            go_wp2_with fail
            go_ret
            exact ⟨ret_bool HN.out.symm, hbw2.trans (hb2.mono (by omega))⟩
        · have HT : Hid (b = true) := HB.out.2 (by
            have hA := likeM_all HA.out (by have := HL3.out; omega) (by have := HM3.out; have := H7.out; omega)
            have k1 := H1.out; have k2 := H2.out; have k3 := H3.out; have k4 := H4.out; have k5 := H5.out; have k6 := HTs.out
            cases t; cases t'; simp_all)
          go_wp2_with fail
          go_ret
          exact ⟨ret_bool HT.out.symm, hbw2⟩

theorem ssm_any (d : Nat) : SaidSsM d := by
  induction d with
  | zero => exact ssm_step 0 (fun h => by omega)
  | succ d ih => exact ssm_step (d + 1) (fun _ => by simpa using ih)

end Go.Proofs.YtibbdhmbgnjmoaaGreat
