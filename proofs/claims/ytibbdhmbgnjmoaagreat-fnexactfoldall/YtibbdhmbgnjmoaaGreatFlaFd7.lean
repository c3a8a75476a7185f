/-
  What the program's table of foldings is, and what it comes to at a term whose parts are folded. (Written by mkfd7.py.)
-/
import Derived.Test.YtibbdhmbgnjmoaaGreatFlaFd2
import Derived.Test.YtibbdhmbgnjmoaaGreatFlaZ14
import Derived.Test.YtibbdhmbgnjmoaaGreatFlaZ23
import Derived.Test.YtibbdhmbgnjmoaaGreatFlaZ11
import Derived.Deep.Cut
import Derived.Deep.CutRange
namespace Go.Proofs.YtibbdhmbgnjmoaaGreat
open Go.RowKit
set_option linter.unusedVariables false
set_option linter.unusedSimpArgs false

theorem Tryz.infoFol : (Tryz.prog.info? 80).map (fun i => i.size) = some 2 := by kernel_rfl

def tabF : Array Value := #[.int .i64 15, .func (.func 53) #[] #[], .int .i64 8, .func (.func 54) #[] #[], .int .i64 10, .func (.func 55) #[] #[], .int .i64 11, .func (.func 56) #[] #[], .int .i64 14, .func (.func 57) #[] #[], .int .i64 6, .func (.func 58) #[] #[], .int .i64 17, .func (.func 59) #[] #[]]

/-- What the table's function of a kind answers. -/
def Folds (P : Nat → Prop) (D d L B : Nat) (t : Tm) (v : Value) (w : World) (k : Int) (f : Nat) : Prop := t.K = k → ∀ W : World, Below w.heap.size w W → Calls Tryz.prog f #[v] W (OutM P L B W D d (fold1 t))

theorem nodeM_range {t : Tm} (h : nodeM t = true) : shL t.K ≤ t.N ∧ t.N ≤ shM t.K := by
  simp only [nodeM, Bool.and_eq_true, decide_eq_true_eq] at h
  exact h.1.1.1.1.2

theorem okM_of {l : Nat} {t : Tm} {m : Nat} (h : nodesM l t = some m) (hl : l ≤ 24) (hm : m ≤ 150) : okM t = true := by
  have := nodesM_le (24 - l) l t m h
  rw [show l + (24 - l) = 24 by omega] at this
  simp [okM, this, lid, hm]

theorem folds_all (P : Nat → Prop) (D d L B : Nat) (t : Tm) (a1 : Option Addr) (l1 c1 : Nat) (a2 : Option Addr) (l2 c2 : Nat) (a3 : Option Addr) (l3 c3 : Nat) (w : World) (hB : B ≤ w.heap.size) (hf : FmP P L B w D d t a1 l1 a2 l2 a3 l3) (hc : cntM t ≤ 1048576) (l m : Nat) (hn : nodesM (l + 1) t = some m) (hl : l + 1 ≤ 24) (hm : m ≤ 150) :
    Folds P D d L B t (.agg #[.int .i64 t.K, .int .i64 t.N, .string t.S, .string t.Z, .int .i64 t.T.K, .int .i64 t.T.N, .slice a1 l1 c1, .slice a2 l2 c2, .slice a3 l3 c3]) w 15 53 ∧ Folds P D d L B t (.agg #[.int .i64 t.K, .int .i64 t.N, .string t.S, .string t.Z, .int .i64 t.T.K, .int .i64 t.T.N, .slice a1 l1 c1, .slice a2 l2 c2, .slice a3 l3 c3]) w 8 54 ∧ Folds P D d L B t (.agg #[.int .i64 t.K, .int .i64 t.N, .string t.S, .string t.Z, .int .i64 t.T.K, .int .i64 t.T.N, .slice a1 l1 c1, .slice a2 l2 c2, .slice a3 l3 c3]) w 10 55 ∧ Folds P D d L B t (.agg #[.int .i64 t.K, .int .i64 t.N, .string t.S, .string t.Z, .int .i64 t.T.K, .int .i64 t.T.N, .slice a1 l1 c1, .slice a2 l2 c2, .slice a3 l3 c3]) w 11 56 ∧ Folds P D d L B t (.agg #[.int .i64 t.K, .int .i64 t.N, .string t.S, .string t.Z, .int .i64 t.T.K, .int .i64 t.T.N, .slice a1 l1 c1, .slice a2 l2 c2, .slice a3 l3 c3]) w 14 57 ∧ Folds P D d L B t (.agg #[.int .i64 t.K, .int .i64 t.N, .string t.S, .string t.Z, .int .i64 t.T.K, .int .i64 t.T.N, .slice a1 l1 c1, .slice a2 l2 c2, .slice a3 l3 c3]) w 6 58 ∧ Folds P D d L B t (.agg #[.int .i64 t.K, .int .i64 t.N, .string t.S, .string t.Z, .int .i64 t.T.K, .int .i64 t.T.N, .slice a1 l1 c1, .slice a2 l2 c2, .slice a3 l3 c3]) w 17 59 := by
  obtain ⟨hnode, hparts⟩ := nodesM_get hn
  have hk := nodeM_kinds hnode
  have hfW : ∀ W : World, Below w.heap.size w W → FmP P L B W D d t a1 l1 a2 l2 a3 l3 := fun W hW => hf.keep (fun k _ hk _ => hW.block k (by omega)) (Nat.le_refl _) (Nat.le_refl _)
  have hpn : ∀ i (hi : i < t.A.length), nodeM t.A[i] = true := fun i hi => by
    obtain ⟨a, h1, _⟩ := hparts i hi
    cases l with
    | zero => simp [nodesM] at h1
    | succ l => exact (nodesM_get h1).1
  refine ⟨?_, ?_, ?_, ?_, ?_, ?_, ?_⟩
  · intro e W hW
    have h1 : fold1 t = fdOp t := by unfold fold1; rw [if_pos e]
    have hlen : t.A.length = 2 := by have := hk.2.2; rw [e] at this; simp [shP] at this; omega
    have hr := nodeM_range hnode
    rw [e] at hr
    simp [shL, shM] at hr
    rw [h1]
    refine foldedOp_any P D d L B t _ _ _ _ _ _ _ _ _ W (Nat.le_trans hB hW.size) (hfW W hW) hlen hr ?_ ?_
    · intro h0
      rw [pa_eq (by omega)] at h0 ⊢
      have := nodeM_range (hpn 0 (by omega))
      rw [h0] at this
      simpa [shL, shM] using this
    · intro h0
      rw [pa_eq (by omega)] at h0 ⊢
      have := nodeM_range (hpn 1 (by omega))
      rw [h0] at this
      simpa [shL, shM] using this
  · intro e W hW
    have h1 : fold1 t = fdIf t := by unfold fold1; rw [if_neg (by rw [e]; decide), if_pos e]
    have hlen : t.A.length = 3 := by have := hk.2.2; rw [e] at this; simp [shP] at this; omega
    rw [h1]
    exact foldedIf_any P D d L B t _ _ _ _ _ _ _ _ _ W (Nat.le_trans hB hW.size) (hfW W hW) hlen
  · intro e W hW
    have h1 : fold1 t = fdFst t := by unfold fold1; rw [if_neg (by rw [e]; decide), if_neg (by rw [e]; decide), if_pos e]
    have hlen : t.A.length = 1 := by have := hk.2.2; rw [e] at this; simp [shP] at this; omega
    rw [h1]
    exact foldedFst_any P D d L B t _ _ _ _ _ _ _ _ _ W (Nat.le_trans hB hW.size) (hfW W hW) hlen hc (fun h0 => by rw [pa_eq (by omega)] at h0 ⊢; have := (nodeM_kinds (hpn 0 (by omega))).2.2; rw [h0] at this; simp [shP] at this; omega)
  · intro e W hW
    have h1 : fold1 t = fdSnd t := by unfold fold1; rw [if_neg (by rw [e]; decide), if_neg (by rw [e]; decide), if_neg (by rw [e]; decide), if_pos e]
    have hlen : t.A.length = 1 := by have := hk.2.2; rw [e] at this; simp [shP] at this; omega
    rw [h1]
    exact foldedSnd_any P D d L B t _ _ _ _ _ _ _ _ _ W (Nat.le_trans hB hW.size) (hfW W hW) hlen hc (fun h0 => by rw [pa_eq (by omega)] at h0 ⊢; have := (nodeM_kinds (hpn 0 (by omega))).2.2; rw [h0] at this; simp [shP] at this; omega)
  · intro e W hW
    have h1 : fold1 t = fdCase t := by unfold fold1; rw [if_neg (by rw [e]; decide), if_neg (by rw [e]; decide), if_neg (by rw [e]; decide), if_neg (by rw [e]; decide), if_pos e]
    have hlen : t.A.length = 3 := by have := hk.2.2; rw [e] at this; simp [shP] at this; omega
    rw [h1]
    exact foldedCase_any P D d L B t _ _ _ _ _ _ _ _ _ W (Nat.le_trans hB hW.size) (hfW W hW) hlen
  · intro e W hW
    have h1 : fold1 t = fdLet t := by unfold fold1; rw [if_neg (by rw [e]; decide), if_neg (by rw [e]; decide), if_neg (by rw [e]; decide), if_neg (by rw [e]; decide), if_neg (by rw [e]; decide), if_pos e]
    have hlen : t.A.length = 2 := by have := hk.2.2; rw [e] at this; simp [shP] at this; omega
    rw [h1]
    exact foldedLet_any P D d L B t _ _ _ _ _ _ _ _ _ W (Nat.le_trans hB hW.size) (hfW W hW) hlen hc (by rw [pa_eq (by omega)]; obtain ⟨a, h2, h3⟩ := hparts 1 (by omega); exact okM_of h2 (by omega) (by omega))
  · intro e W hW
    have h1 : fold1 t = fdTry t := by unfold fold1; rw [if_neg (by rw [e]; decide), if_neg (by rw [e]; decide), if_neg (by rw [e]; decide), if_neg (by rw [e]; decide), if_neg (by rw [e]; decide), if_neg (by rw [e]; decide), if_pos e]
    have hlen : t.A.length = 2 := by have := hk.2.2; rw [e] at this; simp [shP] at this; omega
    rw [h1]
    exact foldedTry_any P D d L B t _ _ _ _ _ _ _ _ _ W (Nat.le_trans hB hW.size) (hfW W hW) hlen hc

set_option maxHeartbeats 2000000 in
theorem foldings_any (w : World) : Calls Tryz.prog 25 #[] w fun e w' => e = .returned (.slice (some ⟨w.heap.size, 0, none⟩) 7 7) ∧ w' = w.alloc (.cells tabF 80) := by
  go_enter Tryz.func25, Tryz.ntmps25
  go_wp2_with fail
  go_ret
  exact ⟨rfl, rfl⟩

theorem bG_set {B : Nat} {X W : World} {p j : Nat} {v : Value} (h : Below B X W) (hp : B ≤ p) : Below B X (W.setCell ⟨p, j, none⟩ v) := h.setCell (p := ⟨p, j, none⟩) hp _

theorem fin9 {P : Nat → Prop} {L B : Nat} {w w2 : World} {D d : Nat} {R : Tm} {b1 b2 b3 : Option Addr} {m1 m2 m3 e1 e2 e3 : Nat} (hfp : FmP P L B w2 D d R b1 m1 b2 m2 b3 m3) (hb : Below w.heap.size w w2) (hB : B ≤ w.heap.size) {v0 v1 v2 v3 v4 v5 v6 v7 v8 : Value} :
    OutM P L B w D d R (.returned (.agg #[.int .i64 R.K, .int .i64 R.N, .string R.S, .string R.Z, .int .i64 R.T.K, .int .i64 R.T.N, .slice b1 m1 e1, .slice b2 m2 e2, .slice b3 m3 e3])) (((((((((w2.setCell ⟨w.heap.size + 1, 0, none⟩ v0).setCell ⟨w.heap.size + 1, 1, none⟩ v1).setCell ⟨w.heap.size + 1, 2, none⟩ v2).setCell ⟨w.heap.size + 1, 3, none⟩ v3).setCell ⟨w.heap.size + 1, 4, none⟩ v4).setCell ⟨w.heap.size + 1, 5, none⟩ v5).setCell ⟨w.heap.size + 1, 6, none⟩ v6).setCell ⟨w.heap.size + 1, 7, none⟩ v7).setCell ⟨w.heap.size + 1, 8, none⟩ v8) := by
  have hS : ∀ x : World, Below w.heap.size x w2 → Below w.heap.size x (((((((((w2.setCell ⟨w.heap.size + 1, 0, none⟩ v0).setCell ⟨w.heap.size + 1, 1, none⟩ v1).setCell ⟨w.heap.size + 1, 2, none⟩ v2).setCell ⟨w.heap.size + 1, 3, none⟩ v3).setCell ⟨w.heap.size + 1, 4, none⟩ v4).setCell ⟨w.heap.size + 1, 5, none⟩ v5).setCell ⟨w.heap.size + 1, 6, none⟩ v6).setCell ⟨w.heap.size + 1, 7, none⟩ v7).setCell ⟨w.heap.size + 1, 8, none⟩ v8) := fun x h => by
    repeat (first | with_reducible exact h | with_reducible refine bG_set ?_ (Nat.le_add_right _ _))
  exact ⟨b1, m1, e1, b2, m2, e2, b3, m3, e3, rfl, hS w hb, hfp.keep (fun k _ hk _ => (hS w2 (Below.refl _ _)).block k (by omega)) (Nat.le_refl _) (Nat.le_refl _)⟩

set_option maxRecDepth 100000 in
set_option maxHeartbeats 8000000 in
theorem foldedBy_any (P : Nat → Prop) (D d L B : Nat) (t : Tm) (a1 : Option Addr) (l1 c1 : Nat) (a2 : Option Addr) (l2 c2 : Nat) (a3 : Option Addr) (l3 c3 : Nat) (tt : Nat) (w : World) (hB : B ≤ w.heap.size) (hf : FmP P L B w D d t a1 l1 a2 l2 a3 l3) (hc : cntM t ≤ 1048576) (l m : Nat) (hn : nodesM (l + 1) t = some m) (hl : l + 1 ≤ 24) (hm : m ≤ 150) (ht : w.heap[tt]? = some (.cells tabF 80 (0, 0))) :
    Calls Tryz.prog 29 #[.slice (some ⟨tt, 0, none⟩) 7 7, .agg #[.int .i64 t.K, .int .i64 t.N, .string t.S, .string t.Z, .int .i64 t.T.K, .int .i64 t.T.N, .slice a1 l1 c1, .slice a2 l2 c2, .slice a3 l3 c3]] w (OutM P L B w D d (fold1 t)) := by
  have HC : Hid (_ ∧ _) := folds_all P D d L B t a1 l1 c1 a2 l2 c2 a3 l3 c3 w hB hf hc l m hn hl hm
  have hst : (∀ k ∈ [(15 : Int), (8 : Int), (10 : Int), (11 : Int), (14 : Int), (6 : Int), (17 : Int)], t.K ≠ k) → fold1 t = t := by
    intro h
    unfold fold1
    rw [if_neg (h 15 (by simp)), if_neg (h 8 (by simp)), if_neg (h 10 (by simp)), if_neg (h 11 (by simp)), if_neg (h 14 (by simp)), if_neg (h 6 (by simp)), if_neg (h 17 (by simp))]
  have HST : Hid (_ → fold1 t = t) := hst
  obtain ⟨R, hR⟩ : ∃ R, fold1 t = R := ⟨_, rfl⟩
  rw [hR]
  have HR : Hid (fold1 t = R) := hR
  obtain ⟨X, hX⟩ : ∃ X, X = (w.alloc (.cells #[.int .i64 t.K, .int .i64 t.N, .string t.S, .string t.Z, .int .i64 t.T.K, .int .i64 t.T.N, .slice a1 l1 c1, .slice a2 l2 c2, .slice a3 l3 c3] 34)).alloc (.cells #[.int .i64 0, .int .i64 0, .string ⟨#[]⟩, .string ⟨#[]⟩, .int .i64 0, .int .i64 0, .slice none 0 0, .slice none 0 0, .slice none 0 0] 34) := ⟨_, rfl⟩
  have hXb : Below w.heap.size w X := by rw [hX]; exact ((Below.refl _ _).alloc (Nat.le_refl _) _).alloc (by simp) _
  have hX0 : X.heap[w.heap.size]? = some (.cells #[.int .i64 t.K, .int .i64 t.N, .string t.S, .string t.Z, .int .i64 t.T.K, .int .i64 t.T.N, .slice a1 l1 c1, .slice a2 l2 c2, .slice a3 l3 c3] 34 (0, 0)) := by rw [hX, Below.heap_alloc _ _ _ (by simp)]; exact heap_new rfl
  have hX1 : X.heap[w.heap.size + 1]? = some (.cells #[.int .i64 0, .int .i64 0, .string ⟨#[]⟩, .string ⟨#[]⟩, .int .i64 0, .int .i64 0, .slice none 0 0, .slice none 0 0, .slice none 0 0] 34 (0, 0)) := by rw [hX]; exact heap_new (by simp)
  have hXs : X.heap.size = w.heap.size + 2 := by rw [hX]; simp
  have hXt := (hXb.block tt (Array.getElem?_eq_some_iff.1 ht).1).trans ht
  have httl : tt < X.heap.size := (Array.getElem?_eq_some_iff.1 hXt).1
  have HX : Hid (X = _) := hX
  have HF : Hid (FmP P L B w D d t a1 l1 a2 l2 a3 l3) := hf
  clear hX hn hst hR hf ht
  go_enter Tryz.func29, Tryz.ntmps29
  go_wp2_with fail
  rw [← HX.out]
  go_loopw [9] (fun y wr => ∃ k : Nat, k ≤ 7 ∧ y = .int .i64 k ∧ (∀ x ∈ [(15 : Int), (8 : Int), (10 : Int), (11 : Int), (14 : Int), (6 : Int), (17 : Int)].take k, t.K ≠ x) ∧ Below X.heap.size X wr) (fun y _ => 7 - (intOf y).toNat)
  case atStart => exact ⟨0, by omega, rfl, by simp, Below.refl _ _⟩
  case round =>
    obtain ⟨k, hk, rfl, hne, hbr⟩ := hrel
    have HNE : Hid (∀ x ∈ _, t.K ≠ x) := hne
    clear hne
    have y0 := (hbr.block w.heap.size (by omega)).trans hX0
    have y1 := (hbr.block (w.heap.size + 1) (by omega)).trans hX1
    have yt := (hbr.block tt httl).trans hXt
    have hzr := hbr.size
    have hbw : Below w.heap.size w wr := hXb.trans (hbr.mono hXb.size)
    obtain ⟨f0, f1, f2, f3, f4, f5, f6, f7, f8⟩ := Nine.box y0
    by_cases hk7 : k = 7
    · subst hk7
      obtain ⟨p0, p1, p2, p3, p4, p5, p6, p7, p8⟩ := Nine.box y1
      have pf := row_free y1
      go_wp2_with fail
      refine bodyPost_ret (v := .agg #[.int .i64 t.K, .int .i64 t.N, .string t.S, .string t.Z, .int .i64 t.T.K, .int .i64 t.T.N, .slice a1 l1 c1, .slice a2 l2 c2, .slice a3 l3 c3]) (by simp [results, Tryz.results29, go_sem, p0, p1, p2, p3, p4, p5, p6, p7, p8]) rfl ?_
      rw [← HR.out, HST.out (fun x hx => HNE.out x (by simpa using hx))]
      exact out_of _ _ _ HF.out hB (by repeat (first | with_reducible exact hbw | with_reducible refine bX_set ?_ (Nat.le_add_right _ _)))
    · have hlt0 : w.heap.size < wr.heap.size := by omega
      have hlt1 : w.heap.size + 1 < wr.heap.size := by omega
      have g0 : ∀ o, (wr.alloc o).cell? ⟨w.heap.size, 0, none⟩ = _ := fun o => (World.cell?_of_block (Below.heap_alloc _ _ _ hlt0)).trans f0
      have g1 : ∀ o, (wr.alloc o).cell? ⟨w.heap.size, 1, none⟩ = _ := fun o => (World.cell?_of_block (Below.heap_alloc _ _ _ hlt0)).trans f1
      have g2 : ∀ o, (wr.alloc o).cell? ⟨w.heap.size, 2, none⟩ = _ := fun o => (World.cell?_of_block (Below.heap_alloc _ _ _ hlt0)).trans f2
      have g3 : ∀ o, (wr.alloc o).cell? ⟨w.heap.size, 3, none⟩ = _ := fun o => (World.cell?_of_block (Below.heap_alloc _ _ _ hlt0)).trans f3
      have g4 : ∀ o, (wr.alloc o).cell? ⟨w.heap.size, 4, none⟩ = _ := fun o => (World.cell?_of_block (Below.heap_alloc _ _ _ hlt0)).trans f4
      have g5 : ∀ o, (wr.alloc o).cell? ⟨w.heap.size, 5, none⟩ = _ := fun o => (World.cell?_of_block (Below.heap_alloc _ _ _ hlt0)).trans f5
      have g6 : ∀ o, (wr.alloc o).cell? ⟨w.heap.size, 6, none⟩ = _ := fun o => (World.cell?_of_block (Below.heap_alloc _ _ _ hlt0)).trans f6
      have g7 : ∀ o, (wr.alloc o).cell? ⟨w.heap.size, 7, none⟩ = _ := fun o => (World.cell?_of_block (Below.heap_alloc _ _ _ hlt0)).trans f7
      have g8 : ∀ o, (wr.alloc o).cell? ⟨w.heap.size, 8, none⟩ = _ := fun o => (World.cell?_of_block (Below.heap_alloc _ _ _ hlt0)).trans f8
      clear f0 f1 f2 f3 f4 f5 f6 f7 f8
      have hst : ∀ (k : Int) (f : Fn), (store ⟨wr.heap.size, 1, none⟩ (Value.func f #[] #[])).run Tryz.prog (wr.alloc (.cells #[.int .i64 k, .nilFunc] 80)) = .ok () (wr.alloc (.cells #[.int .i64 k, .func f #[] #[]] 80)) := fun k f => by
        rw [run_store _ _ _ _ _ rfl]
        simp [go_sem]
      rcases (by omega : k = 0 ∨ k = 1 ∨ k = 2 ∨ k = 3 ∨ k = 4 ∨ k = 5 ∨ k = 6) with rfl | rfl | rfl | rfl | rfl | rfl | rfl
      · have c0 : wr.cell? ⟨tt, 0, none⟩ = some (.int .i64 15) := row_cell yt 0
        have c1 : wr.cell? ⟨tt, 1, none⟩ = some (.func (.func 53) #[] #[]) := row_cell yt 1
        by_cases hK : t.K = 15
        · have hkb : ((15 : Int) == t.K) = true := by rw [hK]; rfl
          have hcall := HC.out.1 hK
          rw [HR.out] at hcall
          have HK : Hid (t.K = 15) := hK
          have HCL : Hid (∀ W : World, _) := hcall
          clear hK hcall
          go_wp2_with fail
          refine (HCL.out _ (bX_alloc hbw)).mono ?_
          rintro e w2 ⟨b1, m1, e1, b2, m2, e2, b3, m3, e3, rfl, hb2, hfp⟩
          have z1 := (hb2.block (w.heap.size + 1) (by simp; omega)).trans ((Below.heap_alloc _ _ _ hlt1).trans y1)
          have hbw2 : Below w.heap.size w w2 := (bX_alloc hbw).trans (hb2.mono (bX_alloc hbw).size)
          obtain ⟨p0, p1, p2, p3, p4, p5, p6, p7, p8⟩ := Nine.box z1
          have pf := row_free z1
          go_wp2_with fail
          refine bodyPost_ret (v := .agg #[.int .i64 R.K, .int .i64 R.N, .string R.S, .string R.Z, .int .i64 R.T.K, .int .i64 R.T.N, .slice b1 m1 e1, .slice b2 m2 e2, .slice b3 m3 e3]) (by simp [results, Tryz.results29, go_sem, p0, p1, p2, p3, p4, p5, p6, p7, p8]) rfl ?_
          exact fin9 hfp hbw2 hB
        · have hkb : ((15 : Int) == t.K) = false := by rw [beq_eq_false_iff_ne]; exact fun e => hK e.symm
          go_wp2_with fail
          go_roundw
          case rel =>
            refine ⟨1, by omega, by go_num, fun x hx => ?_, bX_alloc hbr⟩
            have h0 := HNE.out
            simp at hx h0
            subst hx
            all_goals first | exact hK | (simp_all; done)
          case measure => simp [intOf]
      · have c0 : wr.cell? ⟨tt, 2, none⟩ = some (.int .i64 8) := row_cell yt 2
        have c1 : wr.cell? ⟨tt, 3, none⟩ = some (.func (.func 54) #[] #[]) := row_cell yt 3
        by_cases hK : t.K = 8
        · have hkb : ((8 : Int) == t.K) = true := by rw [hK]; rfl
          have hcall := HC.out.2.1 hK
          rw [HR.out] at hcall
          have HK : Hid (t.K = 8) := hK
          have HCL : Hid (∀ W : World, _) := hcall
          clear hK hcall
          go_wp2_with fail
          refine (HCL.out _ (bX_alloc hbw)).mono ?_
          rintro e w2 ⟨b1, m1, e1, b2, m2, e2, b3, m3, e3, rfl, hb2, hfp⟩
          have z1 := (hb2.block (w.heap.size + 1) (by simp; omega)).trans ((Below.heap_alloc _ _ _ hlt1).trans y1)
          have hbw2 : Below w.heap.size w w2 := (bX_alloc hbw).trans (hb2.mono (bX_alloc hbw).size)
          obtain ⟨p0, p1, p2, p3, p4, p5, p6, p7, p8⟩ := Nine.box z1
          have pf := row_free z1
          go_wp2_with fail
          refine bodyPost_ret (v := .agg #[.int .i64 R.K, .int .i64 R.N, .string R.S, .string R.Z, .int .i64 R.T.K, .int .i64 R.T.N, .slice b1 m1 e1, .slice b2 m2 e2, .slice b3 m3 e3]) (by simp [results, Tryz.results29, go_sem, p0, p1, p2, p3, p4, p5, p6, p7, p8]) rfl ?_
          exact fin9 hfp hbw2 hB
        · have hkb : ((8 : Int) == t.K) = false := by rw [beq_eq_false_iff_ne]; exact fun e => hK e.symm
          go_wp2_with fail
          go_roundw
          case rel =>
            refine ⟨2, by omega, by go_num, fun x hx => ?_, bX_alloc hbr⟩
            have h0 := HNE.out
            simp at hx h0
            rcases hx with rfl | rfl
            all_goals first | exact hK | (simp_all; done)
          case measure => simp [intOf]
      · have c0 : wr.cell? ⟨tt, 4, none⟩ = some (.int .i64 10) := row_cell yt 4
        have c1 : wr.cell? ⟨tt, 5, none⟩ = some (.func (.func 55) #[] #[]) := row_cell yt 5
        by_cases hK : t.K = 10
        · have hkb : ((10 : Int) == t.K) = true := by rw [hK]; rfl
          have hcall := HC.out.2.2.1 hK
          rw [HR.out] at hcall
          have HK : Hid (t.K = 10) := hK
          have HCL : Hid (∀ W : World, _) := hcall
          clear hK hcall
          go_wp2_with fail
          refine (HCL.out _ (bX_alloc hbw)).mono ?_
          rintro e w2 ⟨b1, m1, e1, b2, m2, e2, b3, m3, e3, rfl, hb2, hfp⟩
          have z1 := (hb2.block (w.heap.size + 1) (by simp; omega)).trans ((Below.heap_alloc _ _ _ hlt1).trans y1)
          have hbw2 : Below w.heap.size w w2 := (bX_alloc hbw).trans (hb2.mono (bX_alloc hbw).size)
          obtain ⟨p0, p1, p2, p3, p4, p5, p6, p7, p8⟩ := Nine.box z1
          have pf := row_free z1
          go_wp2_with fail
          refine bodyPost_ret (v := .agg #[.int .i64 R.K, .int .i64 R.N, .string R.S, .string R.Z, .int .i64 R.T.K, .int .i64 R.T.N, .slice b1 m1 e1, .slice b2 m2 e2, .slice b3 m3 e3]) (by simp [results, Tryz.results29, go_sem, p0, p1, p2, p3, p4, p5, p6, p7, p8]) rfl ?_
          exact fin9 hfp hbw2 hB
        · have hkb : ((10 : Int) == t.K) = false := by rw [beq_eq_false_iff_ne]; exact fun e => hK e.symm
          go_wp2_with fail
          go_roundw
          case rel =>
            refine ⟨3, by omega, by go_num, fun x hx => ?_, bX_alloc hbr⟩
            have h0 := HNE.out
            simp at hx h0
            rcases hx with rfl | rfl | rfl
            all_goals first | exact hK | (simp_all; done)
          case measure => simp [intOf]
      · have c0 : wr.cell? ⟨tt, 6, none⟩ = some (.int .i64 11) := row_cell yt 6
        have c1 : wr.cell? ⟨tt, 7, none⟩ = some (.func (.func 56) #[] #[]) := row_cell yt 7
        by_cases hK : t.K = 11
        · have hkb : ((11 : Int) == t.K) = true := by rw [hK]; rfl
          have hcall := HC.out.2.2.2.1 hK
          rw [HR.out] at hcall
          have HK : Hid (t.K = 11) := hK
          have HCL : Hid (∀ W : World, _) := hcall
          clear hK hcall
          go_wp2_with fail
          refine (HCL.out _ (bX_alloc hbw)).mono ?_
          rintro e w2 ⟨b1, m1, e1, b2, m2, e2, b3, m3, e3, rfl, hb2, hfp⟩
          have z1 := (hb2.block (w.heap.size + 1) (by simp; omega)).trans ((Below.heap_alloc _ _ _ hlt1).trans y1)
          have hbw2 : Below w.heap.size w w2 := (bX_alloc hbw).trans (hb2.mono (bX_alloc hbw).size)
          obtain ⟨p0, p1, p2, p3, p4, p5, p6, p7, p8⟩ := Nine.box z1
          have pf := row_free z1
          go_wp2_with fail
          refine bodyPost_ret (v := .agg #[.int .i64 R.K, .int .i64 R.N, .string R.S, .string R.Z, .int .i64 R.T.K, .int .i64 R.T.N, .slice b1 m1 e1, .slice b2 m2 e2, .slice b3 m3 e3]) (by simp [results, Tryz.results29, go_sem, p0, p1, p2, p3, p4, p5, p6, p7, p8]) rfl ?_
          exact fin9 hfp hbw2 hB
        · have hkb : ((11 : Int) == t.K) = false := by rw [beq_eq_false_iff_ne]; exact fun e => hK e.symm
          go_wp2_with fail
          go_roundw
          case rel =>
            refine ⟨4, by omega, by go_num, fun x hx => ?_, bX_alloc hbr⟩
            have h0 := HNE.out
            simp at hx h0
            rcases hx with rfl | rfl | rfl | rfl
            all_goals first | exact hK | (simp_all; done)
          case measure => simp [intOf]
      · have c0 : wr.cell? ⟨tt, 8, none⟩ = some (.int .i64 14) := row_cell yt 8
        have c1 : wr.cell? ⟨tt, 9, none⟩ = some (.func (.func 57) #[] #[]) := row_cell yt 9
        by_cases hK : t.K = 14
        · have hkb : ((14 : Int) == t.K) = true := by rw [hK]; rfl
          have hcall := HC.out.2.2.2.2.1 hK
          rw [HR.out] at hcall
          have HK : Hid (t.K = 14) := hK
          have HCL : Hid (∀ W : World, _) := hcall
          clear hK hcall
          go_wp2_with fail
          refine (HCL.out _ (bX_alloc hbw)).mono ?_
          rintro e w2 ⟨b1, m1, e1, b2, m2, e2, b3, m3, e3, rfl, hb2, hfp⟩
          have z1 := (hb2.block (w.heap.size + 1) (by simp; omega)).trans ((Below.heap_alloc _ _ _ hlt1).trans y1)
          have hbw2 : Below w.heap.size w w2 := (bX_alloc hbw).trans (hb2.mono (bX_alloc hbw).size)
          obtain ⟨p0, p1, p2, p3, p4, p5, p6, p7, p8⟩ := Nine.box z1
          have pf := row_free z1
          go_wp2_with fail
          refine bodyPost_ret (v := .agg #[.int .i64 R.K, .int .i64 R.N, .string R.S, .string R.Z, .int .i64 R.T.K, .int .i64 R.T.N, .slice b1 m1 e1, .slice b2 m2 e2, .slice b3 m3 e3]) (by simp [results, Tryz.results29, go_sem, p0, p1, p2, p3, p4, p5, p6, p7, p8]) rfl ?_
          exact fin9 hfp hbw2 hB
        · have hkb : ((14 : Int) == t.K) = false := by rw [beq_eq_false_iff_ne]; exact fun e => hK e.symm
          go_wp2_with fail
          go_roundw
          case rel =>
            refine ⟨5, by omega, by go_num, fun x hx => ?_, bX_alloc hbr⟩
            have h0 := HNE.out
            simp at hx h0
            rcases hx with rfl | rfl | rfl | rfl | rfl
            all_goals first | exact hK | (simp_all; done)
          case measure => simp [intOf]
      · have c0 : wr.cell? ⟨tt, 10, none⟩ = some (.int .i64 6) := row_cell yt 10
        have c1 : wr.cell? ⟨tt, 11, none⟩ = some (.func (.func 58) #[] #[]) := row_cell yt 11
        by_cases hK : t.K = 6
        · have hkb : ((6 : Int) == t.K) = true := by rw [hK]; rfl
          have hcall := HC.out.2.2.2.2.2.1 hK
          rw [HR.out] at hcall
          have HK : Hid (t.K = 6) := hK
          have HCL : Hid (∀ W : World, _) := hcall
          clear hK hcall
          go_wp2_with fail
          refine (HCL.out _ (bX_alloc hbw)).mono ?_
          rintro e w2 ⟨b1, m1, e1, b2, m2, e2, b3, m3, e3, rfl, hb2, hfp⟩
          have z1 := (hb2.block (w.heap.size + 1) (by simp; omega)).trans ((Below.heap_alloc _ _ _ hlt1).trans y1)
          have hbw2 : Below w.heap.size w w2 := (bX_alloc hbw).trans (hb2.mono (bX_alloc hbw).size)
          obtain ⟨p0, p1, p2, p3, p4, p5, p6, p7, p8⟩ := Nine.box z1
          have pf := row_free z1
          go_wp2_with fail
          refine bodyPost_ret (v := .agg #[.int .i64 R.K, .int .i64 R.N, .string R.S, .string R.Z, .int .i64 R.T.K, .int .i64 R.T.N, .slice b1 m1 e1, .slice b2 m2 e2, .slice b3 m3 e3]) (by simp [results, Tryz.results29, go_sem, p0, p1, p2, p3, p4, p5, p6, p7, p8]) rfl ?_
          exact fin9 hfp hbw2 hB
        · have hkb : ((6 : Int) == t.K) = false := by rw [beq_eq_false_iff_ne]; exact fun e => hK e.symm
          go_wp2_with fail
          go_roundw
          case rel =>
            refine ⟨6, by omega, by go_num, fun x hx => ?_, bX_alloc hbr⟩
            have h0 := HNE.out
            simp at hx h0
            rcases hx with rfl | rfl | rfl | rfl | rfl | rfl
            all_goals first | exact hK | (simp_all; done)
          case measure => simp [intOf]
      · have c0 : wr.cell? ⟨tt, 12, none⟩ = some (.int .i64 17) := row_cell yt 12
        have c1 : wr.cell? ⟨tt, 13, none⟩ = some (.func (.func 59) #[] #[]) := row_cell yt 13
        by_cases hK : t.K = 17
        · have hkb : ((17 : Int) == t.K) = true := by rw [hK]; rfl
          have hcall := HC.out.2.2.2.2.2.2 hK
          rw [HR.out] at hcall
          have HK : Hid (t.K = 17) := hK
          have HCL : Hid (∀ W : World, _) := hcall
          clear hK hcall
          go_wp2_with fail
          refine (HCL.out _ (bX_alloc hbw)).mono ?_
          rintro e w2 ⟨b1, m1, e1, b2, m2, e2, b3, m3, e3, rfl, hb2, hfp⟩
          have z1 := (hb2.block (w.heap.size + 1) (by simp; omega)).trans ((Below.heap_alloc _ _ _ hlt1).trans y1)
          have hbw2 : Below w.heap.size w w2 := (bX_alloc hbw).trans (hb2.mono (bX_alloc hbw).size)
          obtain ⟨p0, p1, p2, p3, p4, p5, p6, p7, p8⟩ := Nine.box z1
          have pf := row_free z1
          go_wp2_with fail
          refine bodyPost_ret (v := .agg #[.int .i64 R.K, .int .i64 R.N, .string R.S, .string R.Z, .int .i64 R.T.K, .int .i64 R.T.N, .slice b1 m1 e1, .slice b2 m2 e2, .slice b3 m3 e3]) (by simp [results, Tryz.results29, go_sem, p0, p1, p2, p3, p4, p5, p6, p7, p8]) rfl ?_
          exact fin9 hfp hbw2 hB
        · have hkb : ((17 : Int) == t.K) = false := by rw [beq_eq_false_iff_ne]; exact fun e => hK e.symm
          go_wp2_with fail
          go_roundw
          case rel =>
            refine ⟨7, by omega, by go_num, fun x hx => ?_, bX_alloc hbr⟩
            have h0 := HNE.out
            simp at hx h0
            rcases hx with rfl | rfl | rfl | rfl | rfl | rfl | rfl
            all_goals first | exact hK | (simp_all; done)
          case measure => simp [intOf]

end Go.Proofs.YtibbdhmbgnjmoaaGreat
