/-
  The program's 'Collect'.
-/
import Derived.Test.YtapamdjoipofmaaDoorFcdCl2
import Derived.Test.YtapamdjoipofmaaDoorFcdZ3
import Derived.Deep.QuietTactic
import Derived.BigQuiet
namespace Go.Proofs.YtapamdjoipofmaaDoor
open Go.RowKit
set_option linter.unusedVariables false
set_option linter.unusedSimpArgs false

set_option maxRecDepth 100000 in
set_option maxHeartbeats 2000000 in
theorem collect_out (s : Int) (ao : Option Addr) (len cap : Nat) (l : List Wrd) (ar : Option Addr) (nr cr : Nat) (roots : List Wrd) (w : World) (hs : Ws 0 w.heap.size w ao len l) (hr : Ws 0 w.heap.size w ar nr roots) (hl : len ≤ 1048576) (hnr : nr ≤ 1048576) (hcap : len ≤ cap) (hrok : rokB s l roots = false) :
    Calls Tryd.prog 6 #[vH s ao len cap, .slice ar nr cr] w fun e w' => ClEnd w s (colL s l roots) (colR s l roots) e w' ∧ Below w.heap.size w w' := by
  have HL : Hid (len = l.length) := hs.1
  have HNR : Hid (nr = roots.length) := hr.1
  have HP : Hid (colL s l roots = l) := by show _ = _; unfold colL; rw [hrok]; rfl
  have HR : Hid (colR s l roots = roots) := by show _ = _; unfold colR; rw [hrok]; rfl
  rw [HP.out, HR.out]
  clear HP HR
  obtain ⟨X, hX⟩ : ∃ X, X = (w.alloc (.cells #[.int .i64 s, .slice ao len cap] 26)).alloc (.cells #[.int .i64 0, .slice none 0 0] 26) := ⟨_, rfl⟩
  have hXs : X.heap.size = w.heap.size + 2 := by rw [hX]; simp
  have hXb : Below w.heap.size w X := by rw [hX]; exact ((Below.refl _ _).alloc (Nat.le_refl _) _).alloc (by simp) _
  have x0 : X.heap[w.heap.size]? = some (.cells #[.int .i64 s, .slice ao len cap] 26 (0, 0)) := by
    rw [hX, Below.heap_alloc _ _ _ (by simp)]; exact heap_new (by simp)
  have x1 : X.heap[w.heap.size + 1]? = some (.cells #[.int .i64 0, .slice none 0 0] 26 (0, 0)) := by
    rw [hX]; exact heap_new (by simp)
  have KO := ownWords_any 0 w.heap.size ar nr cr roots X (by omega) (hr.below hXb (Nat.le_refl _)) hnr
  have HX : Hid (X = _) := hX
  have hx0 : w.heap.size < X.heap.size := by omega
  have hx1 : w.heap.size + 1 < X.heap.size := by omega
  have HXS : Hid (X.heap.size = w.heap.size + 2) := hXs
  clear hX hXs
  go_enter Tryd.func6, Tryd.ntmps6
  go_wp2_with fail
  rw [← HX.out]
  refine KO.mono ?_
  rintro e wO ⟨oa, ocp, rfl, hNO, hbO⟩
  clear KO
  have hzO := hbO.size
  have hbwO : Below w.heap.size w wO := hXb.trans (hbO.mono (by omega))
  have KP := rootsRight_any 0 w.heap.size 0 w.heap.size s ao len cap l ar nr cr roots wO (by omega) (by omega) (hs.below hbwO (Nat.le_refl _)) (hr.below hbwO (Nat.le_refl _)) hl hnr hcap
  rw [hrok] at KP
  obtain ⟨f0, f1⟩ := cells2 ((hbO.block _ hx0).trans x0)
  go_wp2_with fail
  refine KP.mono ?_
  rintro e w1 ⟨rfl, hb1⟩
  clear KP f0 f1
  have hz1 := hb1.size
  have hbw : Below w.heap.size w w1 := hbwO.trans (hb1.mono (by omega))
  have y0 := (hb1.block _ (by omega)).trans ((hbO.block _ hx0).trans x0)
  have y1 := (hb1.block _ (by omega)).trans ((hbO.block _ hx1).trans x1)
  have hN1 := wors_bel hNO hb1
  obtain ⟨f0, f1⟩ := cells2 y0
  have KH := ownHeap_any 0 w.heap.size s ao len cap l w1 (by omega) (hs.below hbw (Nat.le_refl _)) hl
  go_wp2_with fail
  refine KH.mono ?_
  rintro e w2 ⟨va, vcp, rfl, hN2, hb2⟩
  clear KH f0 f1
  have hz2 := hb2.size
  have hbw2 : Below w.heap.size w w2 := hbw.trans (hb2.mono (by omega))
  have u1 := (hb2.block _ (by omega)).trans y1
  have hN1' := wors_bel hN1 hb2
  obtain ⟨n2, n3⟩ := cells2 u1
  have n4 := row_free u1
  have hz4 : w.heap.size + 1 < w2.heap.size := by omega
  have FIN : Hid (∀ Z, Z = (w2.setCell ⟨w.heap.size + 1, 0, none⟩ (.int .i64 s)).setCell ⟨w.heap.size + 1, 1, none⟩ (.slice va len vcp) →
      Z.heap[w.heap.size + 1]? = some (.cells #[.int .i64 s, .slice va len vcp] 26 (0, 0)) ∧ ClEnd w s l roots (.returned (.tuple #[vH s va len vcp, .slice oa nr ocp])) Z ∧ Below w.heap.size w Z) := by
    intro Z hZ
    obtain ⟨z1, z2, z3, z4⟩ := lay_two u1 (Nat.le_succ _) hbw2 (.int .i64 s) (.slice va len vcp) Z hZ
    refine ⟨z1, ⟨va, len, vcp, oa, nr, ocp, rfl, HL.out, HNR.out, wors_le (wors_keep hN2 (fun q hq => z3 q (fun e => ?_))) hbw.size, wors_le (wors_keep hN1' (fun q hq => z3 q (fun e => ?_))) hXb.size, fun q hq e => ?_⟩, z2⟩
    · have := (wors_own hN2 hq).1; omega
    · have := (wors_own hN1' hq).1; omega
    · have h1 := (wors_own hN2 hq).1
      have h2 := (wors_own hN1 e).2
      omega
  clear hN1 hN1' hN2 hNO
  go_wp2_with fail
  obtain ⟨z1, z2, z3⟩ := FIN.out _ rfl
  obtain ⟨j0, j1⟩ := cells2 z1
  refine bodyPost_ret (v := .tuple #[vH s va len vcp, .slice oa nr ocp]) (by simp [results, Tryd.results6, go_sem, j0, j1]) rfl ?_
  exact ⟨z2, z3⟩

theorem collect_any (s : Int) (ao : Option Addr) (len cap : Nat) (l : List Wrd) (ar : Option Addr) (nr cr : Nat) (roots : List Wrd) (w : World) (hs : Ws 0 w.heap.size w ao len l) (hr : Ws 0 w.heap.size w ar nr roots) (hl : len ≤ 1048576) (hnr : nr ≤ 1048576) (hcap : len ≤ cap) :
    Calls Tryd.prog 6 #[vH s ao len cap, .slice ar nr cr] w fun e w' => ClEnd w s (colL s l roots) (colR s l roots) e w' ∧ Below w.heap.size w w' := by
  cases hq : rokB s l roots with
  | false => exact collect_out s ao len cap l ar nr cr roots w hs hr hl hnr hcap hq
  | true => exact collect_in s ao len cap l ar nr cr roots w hs hr hl hnr hcap hq

end Go.Proofs.YtapamdjoipofmaaDoor

/-
  A region that draws its order, walked in one way where its calls make new memory alone.
-/
namespace Go.Proofs.YtapamdjoipofmaaDoor
open Go.RowKit
set_option linter.unusedVariables false
set_option linter.unusedSimpArgs false

theorem wp_region_below {P : Program} {id : Nat} {Q : Exit → Act → World → Prop} {a : Act} {X : World} {l : List Oper} (hm : P.follows .mixedOrders = true) (hB : Region.lexB .any l.toArray = true)
    (h : wpQuiet P l.toArray (fun w' => Below X.heap.size X w') (fun a' => ∀ w', Below X.heap.size X w' → Q .normal a' w') l a) : (Code.region id l.toArray true).wp P Q a X :=
  wp_region_quiet (C := fun w' => Below X.heap.size X w') hm hB ((Below.refl _ _).drew) (by simpa using h)

end Go.Proofs.YtapamdjoipofmaaDoor
