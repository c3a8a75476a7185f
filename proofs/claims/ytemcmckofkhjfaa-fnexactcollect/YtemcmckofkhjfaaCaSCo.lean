/-
  The model's 'Collect'.
-/
import Derived.Test.YtemcmckofkhjfaaCaSRo
namespace Go.Proofs.Ytemcmckofkhjfaa
open Go.RowKit
set_option linter.unusedVariables false
set_option linter.unusedSimpArgs false

/-- The words that a collection leaves; the roots as they are then. -/
def colL (s : Int) (l roots : List Wrd) : List Wrd := if rokB s l roots then (rawC l (plc l roots)).map (mvW l (plc l roots)) else l
def colR (s : Int) (l roots : List Wrd) : List Wrd := if rokB s l roots then roots.map (mvW l (plc l roots)) else roots
/-- What a collection comes to. -/
def ClEnd (w : World) (s : Int) (P R : List Wrd) (e : Ending) (w' : World) : Prop :=
  ∃ va vn vcp oa nr ocp, e = .returned (.tuple #[vH s va vn vcp, .slice oa nr ocp]) ∧ vn = P.length ∧ nr = R.length ∧ Wors w.heap.size w' (.slice va vn vcp) P ∧ Wors w.heap.size w' (.slice oa nr ocp) R ∧ (∀ k, (Value.slice va vn vcp).ownBlock = some k → (Value.slice oa nr ocp).ownBlock ≠ some k)

set_option maxRecDepth 100000 in
set_option maxHeartbeats 2000000 in
theorem sCollect_any (s : Int) (ao : Option Addr) (len cap : Nat) (l : List Wrd) (ar : Option Addr) (nr cr : Nat) (roots : List Wrd) (w : World) (hs : Ws 0 w.heap.size w ao len l) (hr : Ws 0 w.heap.size w ar nr roots) (hl : len ≤ 1048576) (hnr : nr ≤ 1048576) (hcap : len ≤ cap) :
    Calls Try.prog 25 #[vH s ao len cap, .slice ar nr cr] w fun e w' => ClEnd w s (colL s l roots) (colR s l roots) e w' ∧ Below w.heap.size w w' := by
  have HL : Hid (len = l.length) := hs.1
  have HNR : Hid (nr = roots.length) := hr.1
  obtain ⟨X, hX⟩ : ∃ X, X = (w.alloc (.cells #[.int .i64 s, .slice ao len cap] 24)).alloc (.cells #[.int .i64 0, .slice none 0 0] 24) := ⟨_, rfl⟩
  have hXs : X.heap.size = w.heap.size + 2 := by rw [hX]; simp
  have hXb : Below w.heap.size w X := by rw [hX]; exact ((Below.refl _ _).alloc (Nat.le_refl _) _).alloc (by simp) _
  have x0 : X.heap[w.heap.size]? = some (.cells #[.int .i64 s, .slice ao len cap] 24 (0, 0)) := by
    rw [hX, Below.heap_alloc _ _ _ (by simp)]; exact heap_new (by simp)
  have x1 : X.heap[w.heap.size + 1]? = some (.cells #[.int .i64 0, .slice none 0 0] 24 (0, 0)) := by
    rw [hX]; exact heap_new (by simp)
  have K := l12Roots_any 0 w.heap.size 0 w.heap.size s ao len cap l ar nr cr roots X (by omega) (by omega) (hs.below hXb (Nat.le_refl _)) (hr.below hXb (Nat.le_refl _)) hl hnr
  have HX : Hid (X = _) := hX
  have hx0 : w.heap.size < X.heap.size := by omega
  have hx1 : w.heap.size + 1 < X.heap.size := by omega
  have HXS : Hid (X.heap.size = w.heap.size + 2) := hXs
  obtain ⟨f0, f1⟩ := cells2 x0
  clear hX hXs
  cases hq : rokB s l roots with
  | false =>
    have HP : Hid (colL s l roots = l) := by show _ = _; unfold colL; rw [hq]; rfl
    have HR : Hid (colR s l roots = roots) := by show _ = _; unfold colR; rw [hq]; rfl
    rw [HP.out, HR.out]
    rw [hq] at K
    clear hq HP HR
    go_enter Try.func25, Try.ntmps25
    go_wp2_with fail
    rw [← HX.out]
    refine K.mono ?_
    rintro e w1 ⟨rfl, hb1⟩
    have hz1 := hb1.size
    have hbw : Below w.heap.size w w1 := hXb.trans (hb1.mono (by omega))
    have y0 := (hb1.block _ hx0).trans x0
    have y1 := (hb1.block _ hx1).trans x1
    have K2 := l12Copy_any 0 w.heap.size s ao len cap l w1 (by omega) (hs.below hbw (Nat.le_refl _)) hl
    clear K f0 f1
    obtain ⟨f0, f1⟩ := cells2 y0
    go_wp2_with fail
    refine K2.mono ?_
    rintro e w2 ⟨va, vcp, rfl, hN2, hb2⟩
    have hz2 := hb2.size
    have hbw2 : Below w.heap.size w w2 := hbw.trans (hb2.mono hbw.size)
    have hYb : Below w2.heap.size w2 (w2.alloc (.cells #[] 39)) := (Below.refl _ _).alloc (Nat.le_refl _) _
    have hYe : Wors w2.heap.size (w2.alloc (.cells #[] 39)) (.slice (some ⟨w2.heap.size, 0, none⟩) 0 0) [] := wors_emp (heap_new rfl) (Nat.le_refl _)
    have hYs : Ws 0 w.heap.size (w2.alloc (.cells #[] 39)) ar nr roots := (hr.below hbw2 (Nat.le_refl _)).below hYb hbw2.size
    obtain ⟨oa, ocp, w3, hrun, hN3, hg3⟩ := wors_app hYe (by simp) cr hYs (by simp; omega)
    have hb3 : Below w2.heap.size w2 w3 := grown_to hg3 hYe hYb (by simp)
    simp only [List.nil_append, List.length_nil, Nat.zero_add] at hN3 hrun
    have hz3 := hb3.size
    have hN2' := wors_bel hN2 hb3
    have u1 := (hb3.block _ (by omega)).trans ((hb2.block _ (by omega)).trans y1)
    have hbw3 : Below w.heap.size w w3 := hbw2.trans (hb3.mono hbw2.size)
    obtain ⟨n2, n3⟩ := cells2 u1
    have n4 := row_free u1
    have hz4 : w.heap.size + 1 < w3.heap.size := by omega
    have FIN : Hid (∀ Z, Z = (w3.setCell ⟨w.heap.size + 1, 0, none⟩ (.int .i64 s)).setCell ⟨w.heap.size + 1, 1, none⟩ (.slice va len vcp) →
        Z.heap[w.heap.size + 1]? = some (.cells #[.int .i64 s, .slice va len vcp] 24 (0, 0)) ∧ ClEnd w s l roots (.returned (.tuple #[vH s va len vcp, .slice oa nr ocp])) Z ∧ Below w.heap.size w Z) := by
      intro Z hZ
      obtain ⟨z1, z2, z3, z4⟩ := lay_two u1 (Nat.le_succ _) hbw3 (.int .i64 s) (.slice va len vcp) Z hZ
      refine ⟨z1, ⟨va, len, vcp, oa, nr, ocp, rfl, HL.out, HNR.out, wors_le (wors_keep hN2' (fun q hq => z3 q (fun e => ?_))) hbw.size, wors_le (wors_keep hN3 (fun q hq => z3 q (fun e => ?_))) hbw2.size, fun q hq e => ?_⟩, z2⟩
      · have := (wors_own hN2 hq).1; omega
      · have := (wors_own hN3 hq).1; omega
      · have h1 := (wors_own hN2 hq).2
        have h2 := (wors_own hN3 e).1
        omega
    have HR' : Hid (_ = _) := hrun
    clear K2 f0 f1 hYb hYe hYs hrun hN3 hN2 hN2' hg3
    go_wp2_with (first | (at_builtin; refine list_run HR'.out (by rfl) _ _ (by rfl) (by rfl) (by rfl) (by rfl) ?_; clear HR'))
    obtain ⟨z1, z2, z3⟩ := FIN.out _ rfl
    obtain ⟨j0, j1⟩ := cells2 z1
    refine bodyPost_ret (v := .tuple #[vH s va len vcp, .slice oa nr ocp]) (by simp [results, Try.results25, go_sem, j0, j1]) rfl ?_
    exact ⟨z2, z3⟩
  | true =>
    have HP : Hid (colL s l roots = (rawC l (plc l roots)).map (mvW l (plc l roots))) := by show _ = _; unfold colL; rw [hq]; rfl
    have HR : Hid (colR s l roots = roots.map (mvW l (plc l roots))) := by show _ = _; unfold colR; rw [hq]; rfl
    have hq2 := hq
    unfold rokB at hq2
    rw [Bool.and_eq_true] at hq2
    have hrw : ∀ x ∈ roots, RW l x := fun x hx => rgt_RW (List.all_eq_true.1 hq2.2 x hx)
    have hok := hq2.1
    have HPL : Hid (wrds l (plc l roots) = (colL s l roots).length) := by
      show _ = _
      rw [HP.out, List.length_map, rawC_len]
      exact (bfs_PL hok _ _ _ (Way.start hrw).1).ob
    rw [hq] at K
    clear hq hq2
    go_enter Try.func25, Try.ntmps25
    go_wp2_with fail
    rw [← HX.out]
    refine K.mono ?_
    rintro e w1 ⟨rfl, hb1⟩
    have hz1 := hb1.size
    have hbw : Below w.heap.size w w1 := hXb.trans (hb1.mono (by omega))
    have y0 := (hb1.block _ hx0).trans x0
    have y1 := (hb1.block _ hx1).trans x1
    have K2 := l12Collect_any s ao len cap l ar nr cr roots w1 ((hs.below hbw (Nat.le_refl _)).keep (fun _ _ _ => rfl) (Nat.le_refl _) hbw.size) ((hr.below hbw (Nat.le_refl _)).keep (fun _ _ _ => rfl) (Nat.le_refl _) hbw.size) hok hrw hnr hcap
    clear K f0 f1
    obtain ⟨f0, f1⟩ := cells2 y0
    go_wp2_with fail
    refine K2.mono ?_
    rintro e w2 ⟨⟨va, vn, vcp, oa, ocp, rfl, hvn, hWc, hWo, hap⟩, hb2⟩
    rw [← HP.out] at hWc
    rw [← HR.out] at hWo
    have hz2 := hb2.size
    have hbw2 : Below w.heap.size w w2 := hbw.trans (hb2.mono hbw.size)
    have u1 := (hb2.block _ (by omega)).trans y1
    obtain ⟨n2, n3⟩ := cells2 u1
    have n4 := row_free u1
    have hz4 : w.heap.size + 1 < w2.heap.size := by omega
    have hnr2 : nr = (colR s l roots).length := by rw [HR.out, List.length_map]; exact HNR.out
    have FIN : Hid (∀ Z, Z = (w2.setCell ⟨w.heap.size + 1, 0, none⟩ (.int .i64 s)).setCell ⟨w.heap.size + 1, 1, none⟩ (.slice va vn vcp) →
        Z.heap[w.heap.size + 1]? = some (.cells #[.int .i64 s, .slice va vn vcp] 24 (0, 0)) ∧ ClEnd w s (colL s l roots) (colR s l roots) (.returned (.tuple #[vH s va vn vcp, .slice oa nr ocp])) Z ∧ Below w.heap.size w Z) := by
      intro Z hZ
      obtain ⟨z1, z2, z3, z4⟩ := lay_two u1 (Nat.le_succ _) hbw2 (.int .i64 s) (.slice va vn vcp) Z hZ
      refine ⟨z1, ⟨va, vn, vcp, oa, nr, ocp, rfl, hvn.trans HPL.out, hnr2, wors_le (wors_keep hWc (fun q hq => z3 q (fun e => ?_))) hbw.size, wors_le (wors_keep hWo (fun q hq => z3 q (fun e => ?_))) hbw.size, hap⟩, z2⟩
      · have := (wors_own hWc hq).1; omega
      · have := (wors_own hWo hq).1; omega
    clear K2 f0 f1 hvn hWc hWo hap hnr2
    go_wp2_with fail
    obtain ⟨z1, z2, z3⟩ := FIN.out _ rfl
    obtain ⟨j0, j1⟩ := cells2 z1
    refine bodyPost_ret (v := .tuple #[vH s va vn vcp, .slice oa nr ocp]) (by simp [results, Try.results25, go_sem, j0, j1]) rfl ?_
    exact ⟨z2, z3⟩

end Go.Proofs.Ytemcmckofkhjfaa
