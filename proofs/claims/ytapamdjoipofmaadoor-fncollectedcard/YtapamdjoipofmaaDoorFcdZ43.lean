/-
  A round of the first loop of the program's 'Collect'. No walk, no statement.
-/
import Derived.Test.YtapamdjoipofmaaDoorFcdCl0
import Derived.Test.YtapamdjoipofmaaDoorFcdRc2
import Derived.Test.YtapamdjoipofmaaDoorFcdZ18
import Derived.Test.YtapamdjoipofmaaDoorFcdWo
import Derived.Test.YtapamdjoipofmaaDoorFcdZ11
namespace Go.Proofs.YtapamdjoipofmaaDoor
open Go.RowKit Go.Shelf
set_option linter.unusedVariables false
set_option linter.unusedSimpArgs false

theorem shf_obj {L B : Nat} {w : World} {ao : Option Addr} {len : Nat} {l : List Wrd} (h : Ws L B w ao len l) {a c : Nat} (hob : ob l a = some c) : Ws L B w (shf ao a) (c + 1) (objW l a) := by
  obtain ⟨ha, _⟩ := ob_some hob
  obtain ⟨b, o, rfl, _⟩ := h.2.2 a ha
  exact ws_obj h hob

theorem Cl.next {W0 W : World} {b8 gp len : Nat} {l : List Wrd} {pre : List (OB l)} {va : Option Addr} {vn vcp : Nat} (h : Cl W0 W b8 gp len l (plo pre) va vn vcp) (x : OB l) {n₀ Bs1 Bs2 : Nat} {ao : Option Addr} (hs : Ws 0 n₀ W ao len l) (hlen : len = l.length) (hpl : pre.length ≤ 5000) (hng : n₀ ≤ gp) (hgb : gp < b8) (hb1 : b8 < Bs1) (hb2 : b8 < Bs2) (hB1 : Bs1 < W0.heap.size) (hB2 : Bs2 < W0.heap.size) :
    ∃ va' vcp' W2, (Builtin.append_ #[24, 24] 24 #[.slice va vn vcp, .slice (shf ao x.1.1) (x.1.2 + 1) (x.1.2 + 1)]).run Tryd.prog (W.setCell ⟨gp, x.1.1, none⟩ (.int .i64 (vn : Int))) = .ok (.slice va' (vn + (x.1.2 + 1)) vcp') W2 ∧ W2.heap[b8]? = some (.cells #[.slice va vn vcp] 24 (0, 0)) ∧
      ∀ Z, Z = W2.setCell ⟨b8, 0, none⟩ (.slice va' (vn + (x.1.2 + 1)) vcp') → KeepsFrom W0.heap.size W Z ∧ KpF n₀ Bs1 Bs2 W0.heap.size (ownB b8) W Z ∧ ∃ va vn vcp, Cl W0 Z b8 gp len l (plo (pre ++ [x])) va vn vcp := by
  obtain ⟨⟨p, c⟩, hob⟩ := x
  simp only at hob ⊢
  have hp : p < len := by rw [hlen]; exact (ob_some hob).1
  have hc99 : c ≤ 99 := cntH_le (ob_some hob).2.1
  have hO := h.oth
  have hOs := hO.size
  have hwr := plo_wrds pre
  have hrl := rawC_len (plo_ob pre)
  have hvn := h.len_
  obtain ⟨hT1, hgf⟩ := nums_put h.pl p (by rw [pls_len]; exact hp) (vn : Int)
  unfold ik at hT1
  have hkb : ∀ k, (Value.slice va vn vcp).ownBlock = some k → W0.heap.size ≤ k ∧ k < W.heap.size := fun k hk => wors_own h.kept hk
  have hK1 : Wors W0.heap.size (W.setCell ⟨gp, p, none⟩ (.int .i64 (vn : Int))) (.slice va vn vcp) (rawC l (plo pre)) := wors_keep h.kept (fun k hk => row_other _ _ _ (by have := (hkb k hk).1; omega))
  have hobj : Ws 0 n₀ (W.setCell ⟨gp, p, none⟩ (.int .i64 (vn : Int))) (shf ao p) (c + 1) (objW l p) := (shf_obj hs hob).keep (fun k _ hk => row_other _ _ _ (by omega)) (Nat.le_refl _) (Nat.le_refl _)
  obtain ⟨va', vcp', W2, hrun, hN2, hg2, ho2⟩ := wors_app2 hK1 (by simp; omega) (c + 1) hobj (by omega)
  rw [← hvn] at hrun hN2 ho2
  have hz2 := hg2.size
  simp only [World.size_setCell] at hz2
  have hoth2 : ∀ k, k < W.heap.size → k ≠ gp → (Value.slice va vn vcp).ownBlock ≠ some k → W2.heap[k]? = W.heap[k]? := fun k hk h1 h2 => (hg2.block k (by simp; exact hk) (fun e => h2 e.symm)).trans (row_other _ _ _ h1)
  have hno : ∀ k, k < W0.heap.size → (Value.slice va vn vcp).ownBlock ≠ some k := fun k hk e => by have := (hkb k e).1; omega
  have hbx := (hoth2 b8 (by omega) (by omega) (hno b8 (by omega))).trans h.box
  refine ⟨va', vcp', W2, hrun, hbx, ?_⟩
  rintro Z rfl
  have hZ : ∀ k, k ≠ b8 → (W2.setCell ⟨b8, 0, none⟩ (.slice va' (vn + (c + 1)) vcp')).heap[k]? = W2.heap[k]? := fun k hk => row_other _ _ _ hk
  have hZb : (W2.setCell ⟨b8, 0, none⟩ (.slice va' (vn + (c + 1)) vcp')).heap[b8]? = some (.cells #[.slice va' (vn + (c + 1)) vcp'] 24 (0, 0)) := by
    rw [row_set hbx 0]; simp
  have hown2 : ∀ k, (Value.slice va' (vn + (c + 1)) vcp').ownBlock = some k → W0.heap.size ≤ k ∧ k < W2.heap.size := fun k hk => wors_own hN2 hk
  have hne2 : ∀ k, (Value.slice va' (vn + (c + 1)) vcp').ownBlock = some k → k ≠ b8 := fun k hk => by have := (hown2 k hk).1; omega
  have hgz : ∀ k, k < W.heap.size → k ≠ gp → k ≠ b8 → (Value.slice va vn vcp).ownBlock ≠ some k → (W2.setCell ⟨b8, 0, none⟩ (.slice va' (vn + (c + 1)) vcp')).heap[k]? = W.heap[k]? := fun k h1 h2 h3 h4 => (hZ k h3).trans (hoth2 k h1 h2 h4)
  have hcs : ∀ k o, W.heap[k]? = some o → o.isCells = false → k ≠ gp ∧ k ≠ b8 ∧ (Value.slice va vn vcp).ownBlock ≠ some k := by
    intro k o hk hc
    refine ⟨fun e => ?_, fun e => ?_, fun e => ?_⟩
    · subst e
      obtain ⟨c1, t1, f1, h1⟩ := nums_cs h.pl (g := k) rfl
      rw [h1] at hk; cases hk; cases hc
    · subst e
      rw [show W.heap[k]? = _ from h.box] at hk; cases hk; cases hc
    · obtain ⟨c1, t1, f1, h1⟩ := wors_cs h.kept e
      rw [h1] at hk; cases hk; cases hc
  have hozB : ownB b8 (W2.setCell ⟨b8, 0, none⟩ (.slice va' (vn + (c + 1)) vcp')) = (Value.slice va' (vn + (c + 1)) vcp').ownBlock := ownB_is hZb
  have hozA : ownB b8 W = (Value.slice va vn vcp).ownBlock := ownB_is h.box
  refine ⟨KeepsOthers.from ⟨by simp; omega, fun k o hk hc => ?_⟩ _, ⟨⟨hg2.os, hg2.tape, hg2.output, by simp; omega, fun k hk => ?_⟩, fun c' t' fr hc => ?_, fun c' t' fr hc => ?_, fun k c' t' fr hk hc hne => ?_, fun k hk => ?_, fun k hk => ?_⟩, va', vn + (c + 1), vcp', ⟨hZb, ?_, ?_, ?_, ?_⟩⟩
  · obtain ⟨h1, h2, h3⟩ := hcs k o hk hc
    exact (hgz k (Array.getElem?_eq_some_iff.1 hk).1 h1 h2 h3).trans hk
  · exact hgz k (by omega) (by omega) (by omega) (hno k (by omega))
  · exact (hgz Bs1 (by omega) (by omega) (by omega) (hno _ hB1)).trans hc
  · exact (hgz Bs2 (by omega) (by omega) (by omega) (hno _ hB2)).trans hc
  · rw [hozA] at hne
    exact (hgz k (Array.getElem?_eq_some_iff.1 hc).1 (by omega) (by omega) hne).trans hc
  · rw [hozB] at hk
    rw [hozA]
    rcases ho2 k hk with e | e
    · exact Or.inl e
    · exact Or.inr (by simpa using e)
  · rw [hozB] at hk
    exact Or.inl (by have := (hown2 k hk).2; simpa using this)
  · rw [plo_snoc, rawC_app, List.length_append, ← hvn]
    simp [rawC, objW_len hob]
  · rw [plo_snoc, rawC_app]
    have e : rawC l [p] = objW l p := by simp [rawC]
    rw [e]
    exact wors_keep hN2 (fun k hk => hZ k (hne2 k hk))
  · rw [plo_snoc, pls_snoc, ← hrl, ← hvn]
    refine nums_keep hT1 (fun k hk => ?_)
    have e : gp = k := by simp [Value.ownBlock] at hk; exact hk
    subst e
    exact (hZ gp (by omega)).trans (hg2.block gp (by simp; omega) (fun e => hno gp (by omega) e.symm))
  · refine ⟨hg2.os.trans hO.os, hg2.tape.trans hO.tape, hg2.output.trans hO.output, by simp; omega, fun k hk hd => ?_⟩
    simp only [List.mem_cons, List.not_mem_nil, or_false, not_or] at hd
    exact (hgz k (by omega) hd.1 hd.2 (hno k hk)).trans (hO.block k hk (by simp [hd.1, hd.2]))

end Go.Proofs.YtapamdjoipofmaaDoor

/-
  The model's 'l12Collect': its walk.
-/
namespace Go.Proofs.YtapamdjoipofmaaDoor
open Go.RowKit
set_option linter.unusedVariables false
set_option linter.unusedSimpArgs false

theorem mvW_old {l : List Wrd} {ps ps' : List Nat} (h : ps <+: ps') {z : Wrd} (hz : z.K = 4 → z.N.toNat ∈ ps) : mvW l ps' z = mvW l ps z := by
  unfold mvW
  by_cases hk : z.K = 4
  · rw [if_pos hk, if_pos hk]
    obtain ⟨t, rfl⟩ := h
    rw [offN_old (hz hk)]
  · rw [if_neg hk, if_neg hk]
theorem meetL_mem {ws : List Wrd} : ∀ {ps : List Nat} {z : Wrd}, z ∈ ws → z.K = 4 → z.N.toNat ∈ meetL ps ws := by
  induction ws with
  | nil => intro ps z hz; cases hz
  | cons x ws ih =>
    intro ps z hz hk
    rcases List.mem_cons.1 hz with rfl | hz
    · exact (meetL_pre ws (meet1 ps z)).subset (meet1_mem ps z hk)
    · exact ih hz hk
theorem stC_zero (l : List Wrd) (ps : List Nat) : stC l ps 0 = rawC l ps := by simp [stC]
theorem out_next {l roots : List Wrd} {i : Nat} (hi : i < roots.length) :
    (roots.take i).map (mvW l (meetL [] (roots.take i))) ++ [mvW l (meetL [] (roots.take (i + 1))) roots[i]] = (roots.take (i + 1)).map (mvW l (meetL [] (roots.take (i + 1)))) := by
  have e : roots.take (i + 1) = roots.take i ++ [roots[i]] := List.take_succ_eq_append_getElem hi
  have hp : meetL [] (roots.take i) <+: meetL [] (roots.take (i + 1)) := by rw [e, meetL_snoc]; exact meet1_pre _ _
  have h1 : (roots.take i).map (mvW l (meetL [] (roots.take i))) = (roots.take i).map (mvW l (meetL [] (roots.take (i + 1)))) := by
    apply List.map_congr_left
    intro z hz
    exact (mvW_old hp (fun hk => meetL_mem hz hk)).symm
  rw [h1]
  generalize meetL [] (roots.take (i + 1)) = qs
  have e2 : (roots.take (i + 1)).map (mvW l qs) = (roots.take i ++ [roots[i]]).map (mvW l qs) := congrArg _ e
  rw [e2, List.map_append]
  rfl
theorem out_end {l roots : List Wrd} {ps : List Nat} (h : meetL [] roots <+: ps) : roots.map (mvW l (meetL [] roots)) = roots.map (mvW l ps) := by
  apply List.map_congr_left
  intro z hz
  exact (mvW_old h (fun hk => meetL_mem hz hk)).symm
theorem okH_len {s : Int} {l : List Wrd} (h : okH s l = true) : l.length ≤ 5000 := by
  unfold okH wok sizeB at h
  simp at h
  omega
theorem sz_two (W : World) (T a b : Nat) (x y : Value) : ((W.setCell ⟨T, a, none⟩ x).setCell ⟨T, b, none⟩ y).heap.size = W.heap.size := by simp [World.setCell]

theorem wors_at2 {base : Nat} {w : World} {va : Option Addr} {vn vcp : Nat} {P : List Wrd} (h : Wors base w (.slice va vn vcp) P) (j : Nat) {x : Wrd} (hx : P[j]? = some x) : ∃ g, va = some ⟨g, 0, none⟩ ∧ g < w.heap.size ∧ w.cell? ⟨g, j * 2, none⟩ = some (.int .i64 x.K) ∧ w.cell? ⟨g, j * 2 + 1, none⟩ = some (.int .i64 x.N) := by
  obtain ⟨hj, rfl⟩ := List.getElem?_eq_some_iff.1 hx
  obtain ⟨g, c, he, _, hgw, htw, _⟩ := wors_at h j hj
  injection he with he
  rw [Nat.zero_add] at htw
  exact ⟨g, he, hgw, htw.1, htw.2⟩

end Go.Proofs.YtapamdjoipofmaaDoor
