/-
  The program's 'Collect': its first loop.
-/
import Derived.Test.YtapamdjoipofmaaDoorFcdZ43
import Derived.Test.YtapamdjoipofmaaDoorFcdZ19
import Derived.Test.YtapamdjoipofmaaDoorFcdZ18
import Derived.Test.YtapamdjoipofmaaDoorFcdZ23
import Derived.Test.YtapamdjoipofmaaDoorFcdZ44
import Derived.Stop.RegionWithIn
import Derived.OwnWalkIn
namespace Go.Proofs.YtapamdjoipofmaaDoor
open Go.RowKit Go.Shelf
set_option linter.unusedVariables false
set_option linter.unusedSimpArgs false

theorem Tryd.infoI : (Tryd.prog.info? 3).map (fun i => (i.zero, i.size, i.bytes)) = some (some (.int .i64 0), 1, 8) := by kernel_rfl
theorem make_ints (t : TypeId) (ht : Tryd.prog.underlying t = some (.slice 3)) (len : Nat) (hl : len ≤ 1048576) (w : World) :
    ∃ C : Array Value, (Instr.makeSlice t (.int .i64 (len : Int)) (.int .i64 (len : Int))).run Tryd.prog w = .ok (.slice (some ⟨w.heap.size, 0, none⟩) len len) (w.alloc (.cells C 3)) ∧ C = ((List.replicate len (0 : Int)).map ik).toArray := by
  obtain ⟨i0, hi, hz0, hz1, hz2⟩ := info_parts Tryd.infoI
  refine ⟨madeCells (Value.cells (.int .i64 0)) (len * 1), ?_, ?_⟩
  · have := run_make (P := Tryd.prog) (w := w) t 3 i0 _ ht hi hz0 .i64 .i64 (len : Int) (len : Int) (by omega) (by omega) (by rw [hz2]; omega) (by omega)
    rw [hz1] at this
    simpa using this
  · apply Array.ext'
    rw [show Value.cells (.int .i64 0) = #[.int .i64 0] from rfl, toList_madeCells_one]
    simp [ik]

/-- 'append' in a plain region inside a fence, by the equation of its run. -/
theorem list_runIn {F : Fence} {n : Nat} {P : Program} {ops : Array Oper} {rest : List Oper} {o : Oper} {a : Act} {W w2 : World} {Q : Exit → Act → World → Prop} {t ty : TypeId} {v u r : Value} (hrun : (Builtin.append_ #[t, t] ty #[v, u]).run P W = .ok r w2) (hgd : o.guard = none) (s x : Operand)
    (ho : o.op = .call { callee := .builtin .append, args := #[s, x], argTypes := #[t, t] }) (hty : o.type = ty) (hs : a.eval s = v) (hx : a.eval x = u) (h : wpListIn F n P ops Q rest (a.put o.dst r) w2) : wpListIn F n P ops Q (o :: rest) a W := by
  refine wpListIn_plain hgd fun K hK => ?_
  unfold Oper.wpIn
  refine ⟨?_, ?_⟩
  · simp [Oper.about, ho, resolve, Target.leads, Sem.run_pure]
  · rw [Oper.semAt_plain F _ _ (by rw [ho]; intro c hc'; cases hc')]
    simp only [execOp, ho, hty, resolve, invoke, builtin, Sem.run_bind, Sem.run_pure, Result.andThen_ok, List.map_toArray, List.map_cons, List.map_nil, hs, hx, hrun]
    exact hK _ _ h

theorem Oth.join {D : List Nat} {A B C : World} (h : Oth D A B) (k : Oth D B C) : Oth D A C :=
  ⟨k.os.trans h.os, k.tape.trans h.tape, k.output.trans h.output, Nat.le_trans h.size k.size, fun i hi hd => (k.block i (Nat.lt_of_lt_of_le hi h.size) hd).trans (h.block i hi hd)⟩

attribute [local go_sem] Oper.semAt_some

set_option maxRecDepth 100000 in
theorem moveTo_nil (vt : Value) (oa : Option Addr) (c : Nat) (w : World) : Calls Tryd.prog 21 #[vt, .slice oa 0 c] w fun e w' => e = .returned (.tuple #[]) ∧ w' = w := by
  go_enter Tryd.func21, Tryd.ntmps21
  go_wp2_with fail
  go_loopw [4, 5, 8] (fun _ _ i wr => i = .int .i64 0 ∧ wr = w) (fun _ _ _ _ => 0)
  case atStart => exact ⟨rfl, rfl⟩
  case round =>
    obtain ⟨rfl, rfl⟩ := hrel
    go_wp2_with fail
    refine bodyPost_end (v := .tuple #[]) (by simp [results, Tryd.results21, go_sem]) rfl ?_
    exact ⟨rfl, rfl⟩

set_option maxRecDepth 100000 in
set_option maxHeartbeats 4000000 in
theorem collect_in (s : Int) (ao : Option Addr) (len cap : Nat) (l : List Wrd) (ar : Option Addr) (nr cr : Nat) (roots : List Wrd) (w : World) (hs : Ws 0 w.heap.size w ao len l) (hr : Ws 0 w.heap.size w ar nr roots) (hl : len ≤ 1048576) (hnr : nr ≤ 1048576) (hcap : len ≤ cap) (hrok : rokB s l roots = true) :
    Calls Tryd.prog 6 #[vH s ao len cap, .slice ar nr cr] w fun e w' => ClEnd w s (colL s l roots) (colR s l roots) e w' ∧ Below w.heap.size w w' := by
  have HL : Hid (len = l.length) := hs.1
  have HNR : Hid (nr = roots.length) := hr.1
  obtain ⟨X, hX⟩ : ∃ X, X = (w.alloc (.cells #[.int .i64 s, .slice ao len cap] 26)).alloc (.cells #[.int .i64 0, .slice none 0 0] 26) := ⟨_, rfl⟩
  have hXs : X.heap.size = w.heap.size + 2 := by rw [hX]; simp
  have hXb : Below w.heap.size w X := by rw [hX]; exact ((Below.refl _ _).alloc (Nat.le_refl _) _).alloc (by simp) _
  have x0 : X.heap[w.heap.size]? = some (.cells #[.int .i64 s, .slice ao len cap] 26 (0, 0)) := by
    rw [hX, Below.heap_alloc _ _ _ (by simp)]; exact heap_new (by simp)
  have x1 : X.heap[w.heap.size + 1]? = some (.cells #[.int .i64 0, .slice none 0 0] 26 (0, 0)) := by
    rw [hX]; exact heap_new (by simp)
  have KO := ownWords_any 0 w.heap.size ar nr cr roots X (by omega) (hr.below hXb (Nat.le_refl _)) hnr
  have HX : Hid (X = _) := hX
  have hx0 : w.heap.size < X.heap.size := by omega
  have hx1 : w.heap.size + 1 < X.heap.size := by omega
  have HXS : Hid (X.heap.size = w.heap.size + 2) := hXs
  clear hX hXs
  have hq2 := hrok
  unfold rokB at hq2
  rw [Bool.and_eq_true] at hq2
  have hok := hq2.1
  have hrw : ∀ x ∈ roots, RW l x := fun x hx => rgt_RW (List.all_eq_true.1 hq2.2 x hx)
  clear hq2
  refine (callsIn_wide (n := 10)).1 ?_
  refine callsIn_of_wp_marks Tryd.func6 rfl trivial ?_ rfl
  simp only [Tryd.ntmps6, List.size_toArray, List.length_cons, List.length_nil, Nat.reduceAdd, Nat.reduceSub, Array.replicate_succ, Array.replicate_zero, List.push_toArray, List.append_toArray, List.nil_append, List.cons_append]
  gi_wp2_with fail
  rw [← HX.out]
  refine ⟨trivial, (callsIn_wide.2 KO).mono ?_⟩
  rintro e wO ⟨oa, ocp, rfl, hNO, hbO⟩
  clear KO
  have hzO := hbO.size
  have hbwO : Below w.heap.size w wO := hXb.trans (hbO.mono (by omega))
  have KP := rootsRight_any 0 w.heap.size 0 w.heap.size s ao len cap l ar nr cr roots wO (by omega) (by omega) (hs.below hbwO (Nat.le_refl _)) (hr.below hbwO (Nat.le_refl _)) hl hnr hcap
  rw [hrok] at KP
  obtain ⟨f0, f1⟩ := cells2 ((hbO.block _ hx0).trans x0)
  gi_wp2_with fail
  refine ⟨trivial, (callsIn_wide.2 KP).mono ?_⟩
  rintro e w1 ⟨rfl, hb1⟩
  clear KP f0 f1
  have hz1 := hb1.size
  have hbw : Below w.heap.size w w1 := hbwO.trans (hb1.mono (by omega))
  have y0 := (hb1.block _ (by omega)).trans ((hbO.block _ hx0).trans x0)
  have y1 := (hb1.block _ (by omega)).trans ((hbO.block _ hx1).trans x1)
  have hN1 := wors_bel hNO hb1
  obtain ⟨f0, f1⟩ := cells2 y0
  obtain ⟨C, hmk, hC⟩ := make_ints 47 Tryd.underlying47 len hl w1
  have HC : Hid (C = _) := hC
  clear hC
  have hw1l : w.heap.size < w1.heap.size := by omega
  have hV3 : Below w1.heap.size w1 (((w1.alloc (.cells C 3)).alloc (.cells #[.slice (some ⟨w1.heap.size, 0, none⟩) len len] 47)).alloc (.cells #[.slice none 0 0] 24)) := (((Below.refl _ _).alloc (Nat.le_refl _) _).alloc (by simp) _).alloc (by simp; omega) _
  obtain ⟨g0, g1⟩ := cells2 ((hV3.block _ hw1l).trans y0)
  clear hV3
  gi_wp2_with fail
  refine ⟨trivial, (objFrom_in 9 _ _ _ _ _ _ _).mono ?_⟩
  rintro e w2 ⟨rfl, rfl⟩
  clear f0 f1 g0 g1
  gi_wp2_with fail
  obtain ⟨W0, hW0⟩ : ∃ W0, ((((w1.alloc (.cells C 3)).alloc (.cells #[.slice (some ⟨w1.heap.size, 0, none⟩) len len] 47)).alloc (.cells #[.slice none 0 0] 24)).alloc (.cells #[.slice ao len cap] 24)).alloc (.cells #[.slice ar nr cr] 24) = W0 := ⟨_, rfl⟩
  have hsz : W0.heap.size = w1.heap.size + 5 := by rw [← hW0]; simp
  have hB0 : Below w1.heap.size w1 W0 := by rw [← hW0]; exact (((((Below.refl _ _).alloc (Nat.le_refl _) _).alloc (by simp) _).alloc (by simp; omega) _).alloc (by simp; omega) _).alloc (by simp; omega) _
  have bgp : W0.heap[w1.heap.size]? = some (.cells C 3 (0, 0)) := by
    rw [← hW0, Below.heap_alloc _ _ _ (by simp <;> omega), Below.heap_alloc _ _ _ (by simp <;> omega), Below.heap_alloc _ _ _ (by simp <;> omega), Below.heap_alloc _ _ _ (by simp)]; exact heap_new rfl
  have b7 : W0.heap[w1.heap.size + 1]? = some (.cells #[.slice (some ⟨w1.heap.size, 0, none⟩) len len] 47 (0, 0)) := by
    rw [← hW0, Below.heap_alloc _ _ _ (by simp <;> omega), Below.heap_alloc _ _ _ (by simp <;> omega), Below.heap_alloc _ _ _ (by simp)]; exact heap_new (by simp)
  have b8 : W0.heap[w1.heap.size + 1 + 1]? = some (.cells #[.slice none 0 0] 24 (0, 0)) := by
    rw [← hW0, Below.heap_alloc _ _ _ (by simp <;> omega), Below.heap_alloc _ _ _ (by simp)]; exact heap_new (by simp)
  have bS1 : W0.heap[w1.heap.size + 1 + 1 + 1]? = some (.cells #[.slice ao len cap] 24 (0, 0)) := by
    rw [← hW0, Below.heap_alloc _ _ _ (by simp)]; exact heap_new (by simp)
  have bS2 : W0.heap[w1.heap.size + 1 + 1 + 1 + 1]? = some (.cells #[.slice ar nr cr] 24 (0, 0)) := by
    rw [← hW0]; exact heap_new (by simp)
  have hbW0 : Below w.heap.size w W0 := hbw.trans (hB0.mono hbw.size)
  rw [hW0]
  clear hW0
  have hl5 : len ≤ 5000 := by have := okH_len hok; have := HL.out; omega
  have hCl0 : Cl W0 W0 (w1.heap.size + 1 + 1) w1.heap.size len l (plo ([] : List (OB l))) none 0 0 := by
    refine ⟨b8, rfl, wors_nil _ _, ?_, Oth.refl _ _⟩
    show Nums _ _ _ (List.replicate len 0)
    have hCC : C.toList = (List.replicate len (0 : Int)).map ik := by rw [HC.out]
    have hCs : C.size = len := by rw [← Array.length_toList, hCC]; simp
    refine ⟨by simp, Or.inr ⟨w1.heap.size, len, C, by simp, Nat.le_refl _, bgp, by first | omega | exact Nat.le_trans hl (by decide) | simp, by first | omega | exact Nat.le_trans hl (by decide) | simp, by first | omega | (simp [hCs]; done) | (rw [hCs]; omega), ?_⟩⟩
    rw [hCC]
    simp
  refine wpIn_range_prv (own := ownB (w1.heap.size + 1 + 1)) (by omega) (gf := 33) (lb := #[.pointer (some ⟨w1.heap.size + 1 + 1 + 1, 0, none⟩), .pointer (some ⟨w1.heap.size + 1 + 1 + 1 + 1, 0, none⟩)]) rfl (enters_of Tryd.func33 (by kernel_rfl) rfl)
    (objFrom_seq 9 (by omega) (w1.heap.size + 1 + 1 + 1) (w1.heap.size + 1 + 1 + 1 + 1) w.heap.size len cap nr cr ao ar s l roots (ownB (w1.heap.size + 1 + 1)) hok hl hcap hnr hrw W0 hbW0.size (fun A B h => ownB_of (h _ (by omega))) bS1 bS2 (hs.below hbW0 (Nat.le_refl _)) (hr.below hbW0 (Nat.le_refl _))) (fun o o' => ?hon) KpF.trans
    (fun W k o o' hk h ho => ?kput) (fun _ => rfl)
    (fun pre W => ∃ va vn vcp, Cl W0 W (w1.heap.size + 1 + 1) w1.heap.size len l (plo pre) va vn vcp)
    (fun c pre W => False)
    (cl_own _ _ _ _ _)
    (fun c => fun _ _ _ _ h => h.elim)
    (cl_prv _ _ _ _ _ _ (by omega) (by omega) (by omega))
    (fun c pre A B hA hp => hA)
    ⟨none, 0, 0, hCl0⟩
    (fun x => { tmps := #[vH s ao len cap, .slice ar nr cr, .pointer (some ⟨w.heap.size, 0, none⟩), undef, .pointer (some ⟨w.heap.size + 1, 0, none⟩), .slice none 0 0, .slice oa nr ocp, .pointer (some ⟨w1.heap.size + 1, 0, none⟩), .pointer (some ⟨w1.heap.size + 1 + 1, 0, none⟩), .int .i64 (x.1.1 : Int), .slice (shf ao x.1.1) (x.1.2 + 1) (x.1.2 + 1), undef, undef, .slice ar nr cr, .slice oa nr ocp, .agg #[.int .i64 s, .slice ao len cap], .slice ar nr cr, .bool true, .bool false, undef, undef, undef, .pointer (some ⟨w.heap.size, 1, none⟩), .slice ao len cap, .int .i64 (len : Int), .slice (some ⟨w1.heap.size, 0, none⟩) len len, .pointer (some ⟨w.heap.size, 1, none⟩), .slice ao len cap, .slice ar nr cr, .func (.func 33) #[] #[.pointer (some ⟨w1.heap.size + 1 + 1 + 1, 0, none⟩), .pointer (some ⟨w1.heap.size + 1 + 1 + 1 + 1, 0, none⟩)], .int .i64 (x.1.1 : Int), .slice (shf ao x.1.1) (x.1.2 + 1) (x.1.2 + 1), undef, undef, undef, undef, undef, undef, undef, undef, undef, undef, undef, undef, undef, undef, undef, undef, undef, undef, undef, undef, undef, undef, undef, undef], defers := [] })
    ?assign ?body ?done ?stop
  case hon =>
    rw [ownB_is (v := .slice none 0 0) (show Blk _ _ 24 _ from ((show Blk W0 _ _ _ from b8).alloc o).alloc o')]
    rfl
  case kput =>
    have hg := grownBy_putObj' W k o'
    have hne : ∀ q, q < W0.heap.size → (W.putObj k o').heap[q]? = W.heap[q]? := fun q hq => World.putObj_heap_other (by omega)
    have hoe : ownB (w1.heap.size + 1 + 1) (W.putObj k o') = ownB (w1.heap.size + 1 + 1) W := ownB_of (hne _ (by omega))
    refine ⟨⟨hg.os, hg.tape, hg.output, hg.size, fun q hq => hne q (by have := hbW0.size; omega)⟩, fun c t fr hc => (hne _ (by omega)).trans hc, fun c t fr hc => (hne _ (by omega)).trans hc, fun q c t fr hq hc _ => ?_, (fun q hq => by rw [hoe] at hq; exact Or.inl hq), (fun q hq => by rw [hoe] at hq; exact Or.inr hq)⟩
    refine (World.putObj_heap_other (fun e => ?_)).trans hc
    subst e
    rw [hc] at h
    cases h
    cases ho
  case assign =>
    rintro y x W K hK
    unfold encO
    gi_wp2
    exact hK
  case body =>
    rintro y pre x W ⟨va, vn, vcp, hCl⟩ hlt
    have hO := hCl.oth
    have hOs := hO.size
    have hbWW : Below w.heap.size w W := hbW0.trans (hO.toBelow hbW0.size (by intro d hd; simp at hd; rcases hd with rfl | rfl <;> omega))
    obtain ⟨va', vcp', W2, hrun, hb82, hnx⟩ := hCl.next x (n₀ := w.heap.size) (Bs1 := w1.heap.size + 1 + 1 + 1) (Bs2 := w1.heap.size + 1 + 1 + 1 + 1) (hs.below hbWW (Nat.le_refl _)) HL.out (by omega) (by omega) (by omega) (by omega) (by omega) (by omega) (by omega)
    have HNX : Hid (∀ Z, _ → _) := hnx
    obtain ⟨⟨p, c⟩, hob⟩ := x
    simp only at hrun HNX
    have hp : p < len := by rw [HL.out]; exact (ob_some hob).1
    have c7 := row_cell ((hO.block _ (by omega) (by simp)).trans b7) 0
    have c8 := row_cell (show W.heap[w1.heap.size + 1 + 1]? = _ from hCl.box) 0
    have cp := nums_cell hCl.pl p (by rw [pls_len]; exact hp)
    have fp := (nums_put hCl.pl p (by rw [pls_len]; exact hp) 0).2
    have c8' : (W.setCell ⟨w1.heap.size, p, none⟩ (.int .i64 (vn : Int))).cell? ⟨w1.heap.size + 1 + 1, 0, none⟩ = some (.slice va vn vcp) := (World.cell?_of_block (row_other _ _ _ (show w1.heap.size + 1 + 1 ≠ w1.heap.size by omega))).trans c8
    have c82 := row_cell hb82 0
    have f82 := row_free hb82 0
    have HR' : Hid (_ = _) := hrun
    have hp2 : (p : Int) < (len : Int) := by omega
    have hz2 : w1.heap.size + 1 + 1 < W2.heap.size := (Array.getElem?_eq_some_iff.1 hb82).1
    clear hnx hCl hO hrun
    gi_wp2_with (first | (gi_at_builtin; refine list_runIn HR'.out (by rfl) _ _ (by rfl) (by rfl) (by rfl) (by rfl) ?_; clear HR'))
    exact HNX.out _ rfl
  case done =>
    rintro D zs W hD hzs ⟨va, vn, vcp, hCl⟩ hK
    rw [plo_end hzs] at hCl
    have hPL : PL l (plc l roots) := bfs_PL hok _ _ _ (Way.start hrw).1
    have hO := hCl.oth
    have hOs := hO.size
    have HK : Hid (W.heap[D]? = some (.deferred (some []))) := hK
    have hlow : ∀ k, k < w1.heap.size → W.heap[k]? = w1.heap[k]? := fun k hk => (hO.block k (by omega) (by simp; omega)).trans (hB0.block k hk)
    have y0W := (hlow _ hw1l).trans y0
    have y1W := (hlow (w.heap.size + 1) (by omega)).trans y1
    have hNW : Wors X.heap.size W (.slice oa nr ocp) roots := wors_keep hN1 (fun g hg => hlow g (wors_own hN1 hg).2)
    have b7W := (hO.block (w1.heap.size + 1) (by omega) (by simp)).trans b7
    have c7 := row_cell b7W 0
    have c8 := row_cell (show W.heap[w1.heap.size + 1 + 1]? = _ from hCl.box) 0
    have hrl := rawC_len hPL.ob
    have hwb := wrds_bound hPL
    have hvn := hCl.len_
    have hvb : vn ≤ 500000 := by have := HL.out; omega
    obtain ⟨R, hRe⟩ : ∃ R, R = rawC l (plc l roots) := ⟨_, rfl⟩
    obtain ⟨P, hPe⟩ : ∃ P, P = pls len l (plc l roots) := ⟨_, rfl⟩
    have hKept := hCl.kept
    have hPls := hCl.pl
    rw [← hRe] at hKept hvn
    rw [← hPe] at hPls
    have HVN : Hid (vn = R.length) := hvn
    obtain ⟨_, _, hfe, hcapv⟩ := wors_form hKept
    injection hfe with hfe1 hfe2 hfe3
    rw [← hfe3, ← HVN.out] at hcapv
    have hbW : Below w.heap.size w W := hbW0.trans (hO.toBelow hbW0.size (by intro d hd; simp at hd; rcases hd with rfl | rfl <;> omega))
    clear hfe1 hfe2 hfe3 hvn hlow hK
    gi_wp2_with fail
    refine ⟨trivial, (objIn_in 9 _ _ _ _).mono ?_⟩
    rintro e w3 ⟨rfl, rfl⟩
    gi_wp2_with fail
    obtain ⟨V0, hV0⟩ : ∃ V0, W.alloc (.cells #[.slice va vn vcp] 24) = V0 := ⟨_, rfl⟩
    have hvs : V0.heap.size = W.heap.size + 1 := by rw [← hV0]; simp
    have hBV : Below W.heap.size W V0 := by rw [← hV0]; exact (Below.refl _ _).alloc (Nat.le_refl _) _
    have bS : V0.heap[W.heap.size]? = some (.cells #[.slice va vn vcp] 24 (0, 0)) := by rw [← hV0]; exact heap_new rfl
    have hKV := wors_bel hKept hBV
    have hPV := nums_bel hPls hBV
    have hgV : ∀ g, (Value.slice va vn vcp).ownBlock = some g → W0.heap.size ≤ g ∧ g < W.heap.size := fun g hg => wors_own hKept hg
    rw [hV0]
    clear hV0 c7 c8
    refine wpIn_range_ok (own := fun _ => none) (by omega) (gf := 36) (lb := #[.pointer (some ⟨W.heap.size, 0, none⟩)]) rfl (enters_of Tryd.func36 (by kernel_rfl) rfl)
      (objIn3_seq 9 (by omega) W.heap.size w.heap.size W0.heap.size vn vcp va R HVN.out (by omega) hcapv V0 (by have := hbW.size; omega) bS ⟨R, rfl, hKV⟩) (fun _ _ => rfl) KpE.trans (fun V k o o' hk h ho => KpE.put (B := V0.heap.size) (by have := hbW.size; omega) V k o o' hk h ho) (fun _ => rfl)
      (fun pre V => (Wors W0.heap.size V (.slice va vn vcp) (mvR P R 0 (endP (prs pre))) ∧ Nums w1.heap.size V (.slice (some ⟨w1.heap.size, 0, none⟩) len len) P) ∧ Oth (Value.slice va vn vcp).ownBlock.toList V0 V)
      (fun c pre V => False)
      ?own2 (fun c => fun _ _ _ _ h => h.elim)
      ?prv2 (fun c pre A B hA hp => hA)
      ⟨⟨by rw [show endP (prs ([] : List (OB R))) = 0 from rfl, mvR_zero]; exact hKV, hPV⟩, Oth.refl _ _⟩
      (fun x => { tmps := #[vH s ao len cap, .slice ar nr cr, .pointer (some ⟨w.heap.size, 0, none⟩), undef, .pointer (some ⟨w.heap.size + 1, 0, none⟩), .slice none 0 0, .slice oa nr ocp, .pointer (some ⟨w1.heap.size + 1, 0, none⟩), .pointer (some ⟨w1.heap.size + 1 + 1, 0, none⟩), undef, undef, undef, .slice (shf va x.1.1) (x.1.2 + 1) (x.1.2 + 1), .slice ar nr cr, .slice oa nr ocp, .agg #[.int .i64 s, .slice ao len cap], .slice ar nr cr, .bool true, .bool false, undef, undef, undef, .pointer (some ⟨w.heap.size, 1, none⟩), .slice ao len cap, .int .i64 (len : Int), .slice (some ⟨w1.heap.size, 0, none⟩) len len, .pointer (some ⟨w.heap.size, 1, none⟩), .slice ao len cap, .slice ar nr cr, .func (.func 33) #[] #[.pointer (some ⟨w1.heap.size + 1 + 1 + 1, 0, none⟩), .pointer (some ⟨w1.heap.size + 1 + 1 + 1 + 1, 0, none⟩)], undef, undef, undef, undef, undef, undef, undef, undef, undef, undef, .slice va vn vcp, .func (.func 36) #[] #[.pointer (some ⟨W.heap.size, 0, none⟩)], .int .i64 (x.1.1 : Int), .slice (shf va x.1.1) (x.1.2 + 1) (x.1.2 + 1), undef, undef, undef, undef, undef, undef, undef, undef, undef, undef, undef, undef], defers := [] })
      ?assign2 ?body2 ?done2 ?stop2
    case own2 =>
      rintro pre A B row ⟨⟨h1, h2⟩, h3⟩ hg hr
      have hr2 : ∀ r, row = some r → ∃ o : Obj, A.heap[r]? = some o ∧ o.isCells = false := fun r e => (hr r e).2
      refine ⟨⟨wors_keep h1 (fun g hgo => ?_), nums_keep h2 (fun g hgo => ?_)⟩, ownFrom_oth (β := Unit) (Nat.le_refl _) () A B row h3 hg hr⟩
      · obtain ⟨c2, t2, f2, h⟩ := wors_cs h1 hgo
        exact heap_row hg hr2 h
      · obtain ⟨c2, t2, f2, h⟩ := nums_cs h2 hgo
        exact heap_row hg hr2 h
    case prv2 =>
      rintro pre A B ⟨⟨h1, h2⟩, h3⟩ hv
      refine ⟨⟨wors_keep h1 (fun g hgo => hv.low g (by have := (hgV g hgo).2; omega)), nums_keep h2 (fun g hgo => hv.low g ?_)⟩, ⟨hv.os.trans h3.os, hv.tape.trans h3.tape, hv.output.trans h3.output, Nat.le_trans h3.size hv.size, fun k hk hd => (hv.low k (by omega)).trans (h3.block k hk hd)⟩⟩
      have := (nums_own hPls hgo).2
      omega
    case assign2 =>
      rintro y x V K hK
      unfold encO
      gi_wp2
      exact hK
    case body2 =>
      rintro y pre x V ⟨⟨h1, h2⟩, h3⟩ hpf
      obtain ⟨⟨a, c⟩, hob⟩ := x
      obtain ⟨hal, hcx, hacl⟩ := ob_some hob
      have hae : a = endP (prs pre) := by rw [prs_snoc] at hpf; exact vis_at hpf
      have HEN : Hid (endP (prs (pre ++ [(⟨(a, c), hob⟩ : OB R)])) = a + c + 1) := by show _ = _; rw [prs_snoc]; exact endP_snoc _ _
      rw [← hae] at h1
      obtain ⟨g, rfl, hgw, hu1, hu2⟩ := wors_at2 h1 a (mvR_get P R 0 a (List.getElem?_eq_getElem hal))
      clear hu1 hu2
      obtain ⟨hg0, hgW⟩ := hgV g rfl
      have h3s := h3.size
      have hac : a + c < vn := by have := HVN.out; omega
      have hin : ∀ i x, a + 1 ≤ i → (mvR P R 0 a)[i]? = some x → x.K = 4 → ∃ b : Nat, x.N = (b : Int) ∧ b < P.length := by
        intro i x hi hx hk
        have hil := (List.getElem?_eq_some_iff.1 hx).1
        rw [mvR_len] at hil
        have hxR : R[i]? = some R[i] := List.getElem?_eq_getElem hil
        rw [mvR_get P R 0 a hxR, if_neg (by omega)] at hx
        injection hx with hx
        obtain ⟨b, hb1, hb2⟩ := raw_lt hok hPL (x := x) (by rw [← hRe, ← hx]; exact List.getElem_mem hil) hk
        exact ⟨b, hb1, by rw [hPe, pls_len, HL.out]; exact hb2⟩
      have hPn : P.length = len := by rw [hPe, pls_len]
      have c7 := row_cell ((h3.block (w1.heap.size + 1) (by omega) (by simp [Value.ownBlock]; omega)).trans ((hBV.block _ (by omega)).trans b7W)) 0
      have hc2 : (1 : Int) ≤ (c : Int) + 1 := by omega
      have K : ∀ aa, (aa = a ∧ c = 0) ∨ aa = a + 1 → Calls Tryd.prog 21 #[.slice (some ⟨w1.heap.size, 0, none⟩) len len, .slice (some ⟨g, aa * 2, none⟩) c c] V.drew fun e V1 => e = .returned (.tuple #[]) ∧ KeepsFrom V0.heap.size V V1 ∧ KpE w.heap.size W.heap.size W0.heap.size (some ⟨g, 0, none⟩) vn vcp R V V1 ∧ ((Wors W0.heap.size V1 (.slice (some ⟨g, 0, none⟩) vn vcp) (mvR P R 0 (endP (prs (pre ++ [(⟨(a, c), hob⟩ : OB R)])))) ∧ Nums w1.heap.size V1 (.slice (some ⟨w1.heap.size, 0, none⟩) len len) P) ∧ Oth [g] V0 V1) := by
        intro aa haa
        have haa2 : aa + c ≤ R.length := by rcases haa with ⟨rfl, h0⟩ | rfl <;> omega
        refine (moveTo_any w1.heap.size W0.heap.size (.slice (some ⟨w1.heap.size, 0, none⟩) len len) P g vn vcp (mvR P R 0 a) aa c c V.drew (nums_keep h2 (fun _ _ => rfl)) (wors_keep h1 (fun _ _ => rfl)) (by rw [mvR_len]; exact haa2) (by have := cntH_le hcx; omega) (by omega) (fun i x hi1 hi2 hx hk => hin i x (by rcases haa with ⟨rfl, h0⟩ | rfl <;> omega) hx hk) (by simp [Value.ownBlock]; omega)).mono ?_
        rintro e V1 ⟨he, hW1, hO1⟩
        have hO1' : Oth [g] V V1 := ⟨hO1.os, hO1.tape, hO1.output, hO1.size, hO1.block⟩
        have e2 : mvR P (mvR P R 0 a) aa c = mvR P R 0 (a + c + 1) := by
          rcases haa with ⟨rfl, h0⟩ | rfl
          · subst h0
            rw [mvR_zero]
            have := mvR_step (P := P) hob
            rw [mvR_zero] at this
            exact this
          · exact mvR_step hob
        rw [e2] at hW1
        obtain ⟨cs, ct, cf, hcs⟩ := wors_cs h1 (g := g) rfl
        refine ⟨he, KeepsOthers.from ⟨hO1'.size, fun k o hk hc => ?_⟩ _, ⟨hO1'.toBelow (by omega) (by intro d hd; simp at hd; omega), fun c' t' fr hc => ?_, fun _ => ⟨_, sam_mvR P R 0 (a + c + 1), hW1⟩⟩, ⟨by rw [HEN.out]; exact hW1, nums_keep h2 (fun q hq => hO1'.block q ?_ ?_)⟩, ?_⟩
        · refine (hO1'.block k (Array.getElem?_eq_some_iff.1 hk).1 ?_).trans hk
          intro e
          simp at e
          subst e
          rw [hcs] at hk; cases hk; cases hc
        · exact (hO1'.block _ (Array.getElem?_eq_some_iff.1 hc).1 (by simp; omega)).trans hc
        · exact (nums_own h2 hq).2
        · have := (nums_own hPls hq).2
          have e : w1.heap.size = q := by simp [Value.ownBlock] at hq; exact hq
          simp
          omega
        · exact Oth.join (h3 : Oth [g] V0 V) hO1'
      dsimp only [shf, Option.map]
      clear h1 h2 hin hpf hae hPn hRe hPe hcx hacl hal HEN hrl hwb hKept hPls hKV hPV hgV hCl bS hPL b7W h3 hCl0 b7 b8 bgp bS1 bS2 y0 y1 y0W y1W hNW hN1 hNO x0 x1 hmk
      by_cases hc0 : c = 0
      · subst hc0
        have K1 := K a (Or.inl ⟨rfl, rfl⟩)
        clear K
        gi_wp2_with fail
        gi_region_with (refine And.intro trivial ?_; gi_at_call 21; refine ((callsIn_wide.2 K1).inRound y).mono ?_; rintro e V1 ⟨rfl, hfin⟩)
        all_goals
          gi_wp2_with fail
          exact hfin
      · have K1 := K (a + 1) (Or.inr rfl)
        rw [show (a + 1) * 2 = a * 2 + 2 by omega] at K1
        clear K
        gi_wp2_with fail
        gi_region_with (refine And.intro trivial ?_; gi_at_call 21; refine ((callsIn_wide.2 K1).inRound y).mono ?_; rintro e V1 ⟨rfl, hfin⟩)
        all_goals
          gi_wp2_with fail
          exact hfin
    case done2 =>
      rintro D2 zs2 V hD2 hzs2 ⟨⟨h1, h2⟩, h3⟩ hK2
      have hend : endO R = R.length := by rw [hRe]; exact endO_raw hPL.ob
      rw [hzs2, endP_all, hend, mvR_all] at h1
      have hRm : R.map (mvP P) = colL s l roots := by
        have e : colL s l roots = (rawC l (plc l roots)).map (mvW l (plc l roots)) := by unfold colL; rw [hrok]; rfl
        rw [e, ← hRe]
        apply List.map_congr_left
        intro x hx
        rw [hPe]
        refine mvP_mvW hPL.1 (fun hk => ?_)
        rw [hRe] at hx
        obtain ⟨b, hb1, hb2⟩ := raw_lt hok hPL hx hk
        exact ⟨raw_in hok hrw hx hk, by rw [HL.out, hb1]; simpa using hb2⟩
      have hRr : roots.map (mvP P) = colR s l roots := by
        have e : colR s l roots = roots.map (mvW l (plc l roots)) := by unfold colR; rw [hrok]; rfl
        rw [e]
        apply List.map_congr_left
        intro x hx
        rw [hPe]
        refine mvP_mvW hPL.1 (fun hk => ?_)
        obtain ⟨b, _, hb1, _, hb2⟩ := hrw x hx hk
        exact ⟨root_in hx hk, by rw [HL.out, hb1]; have := (ob_some hb2).1; simpa using this⟩
      rw [hRm] at h1
      have h3s := h3.size
      have hlow : ∀ k, k < W0.heap.size → V.heap[k]? = W.heap[k]? := fun k hk => (h3.block k (by omega) (fun e => by have := (hgV k (by simpa using e)).1; omega)).trans (hBV.block k (by omega))
      have c7 := row_cell ((hlow (w1.heap.size + 1) (by omega)).trans b7W) 0
      have hb8 := (hlow (w1.heap.size + 1 + 1) (by omega)).trans hCl.box
      have y0V := (hlow w.heap.size (by omega)).trans y0W
      have y1V := (hlow (w.heap.size + 1) (by omega)).trans y1W
      have hNV : Wors X.heap.size V (.slice oa nr ocp) roots := wors_keep hNW (fun g hg => hlow g (by have := (wors_own hN1 hg).2; omega))
      have hPn : P.length = len := by rw [hPe, pls_len]
      have hgo : ∀ g, (Value.slice oa nr ocp).ownBlock = some g → X.heap.size ≤ g ∧ g < w1.heap.size := fun g hg => wors_own hN1 hg
      have KO2 : Calls Tryd.prog 21 #[.slice (some ⟨w1.heap.size, 0, none⟩) len len, .slice oa nr ocp] V fun e V1 => e = .returned (.tuple #[]) ∧ Wors X.heap.size V1 (.slice oa nr ocp) (colR s l roots) ∧ Oth (Value.slice oa nr ocp).ownBlock.toList V V1 := by
        by_cases h0 : nr = 0
        · have hr0 : roots = [] := List.length_eq_zero_iff.1 (by rw [← HNR.out]; exact h0)
          have e : colR s l roots = roots := by rw [← hRr, hr0]; rfl
          rw [e]
          subst h0
          exact (moveTo_nil _ oa ocp V).mono fun e V1 ⟨he, hv⟩ => ⟨he, by rw [hv]; exact hNV, by rw [hv]; exact Oth.refl _ _⟩
        · have hr1 : 0 < roots.length := by have := HNR.out; omega
          obtain ⟨g, rfl, hgw, _, _⟩ := wors_at2 hNV 0 (List.getElem?_eq_getElem hr1)
          have K := moveTo_any w1.heap.size X.heap.size (.slice (some ⟨w1.heap.size, 0, none⟩) len len) P g nr ocp roots 0 nr ocp V h2 hNV (by have := HNR.out; omega) hnr (by omega) (fun i x _ _ hx hk => by
            obtain ⟨b, _, hb1, _, hb2⟩ := hrw x (List.mem_of_getElem? hx) hk
            exact ⟨b, hb1, by rw [hPn, HL.out]; exact (ob_some hb2).1⟩) (by have := (hgo g rfl).2; simp [Value.ownBlock]; omega)
          have e : mvR P roots 0 nr = colR s l roots := by rw [← hRr, HNR.out, mvR_all]
          rw [e, Nat.zero_mul] at K
          exact K
      have hvl : vn = (colL s l roots).length := by
        rw [← hRm, List.length_map]
        exact HVN.out
      have hnl : nr = (colR s l roots).length := by
        rw [← hRr, List.length_map]
        exact HNR.out
      have HK1 : Hid (V.heap[D]? = some (.deferred (some []))) := by
        have hDl := (Array.getElem?_eq_some_iff.1 HK.out).1
        refine (h3.block D (by omega) (fun e => ?_)).trans ((hBV.block D hDl).trans HK.out)
        obtain ⟨c1, t1, f1, hc1⟩ := wors_cs hKept (g := D) (by simpa using e)
        have := HK.out
        rw [hc1] at this
        cases this
      have HK2 : Hid (V.heap[D2]? = some (.deferred (some []))) := hK2
      have HDL : Hid (D < W.heap.size) := (Array.getElem?_eq_some_iff.1 HK.out).1
      have HVL : Hid (vn = (colL s l roots).length) := hvl
      have HNL : Hid (nr = (colR s l roots).length) := hnl
      clear hK2 hend hRm hRr hRe hPe hPn h2 hvl hnl hKept hPls hKV hPV hCl hwb hrl hzs hzs2 hNW b7W y0W y1W
      gi_wp2_with fail
      refine ⟨trivial, (callsIn_wide.2 KO2).mono ?_⟩
      rintro e V1 ⟨rfl, hR1, hO1⟩
      clear KO2 c7
      have hV1 : ∀ k, k < V.heap.size → (Value.slice oa nr ocp).ownBlock ≠ some k → V1.heap[k]? = V.heap[k]? := fun k hk hne => hO1.block k hk (fun e => hne (by simpa using e))
      have hno : ∀ k, k < X.heap.size ∨ w1.heap.size ≤ k → (Value.slice oa nr ocp).ownBlock ≠ some k := fun k hk e => by have := hgo k e; omega
      have hO1s := hO1.size
      have u0 := (hV1 w.heap.size (by omega) (hno _ (by omega))).trans y0V
      have u1 := (hV1 (w.heap.size + 1) (by omega) (hno _ (by omega))).trans y1V
      have u8 := (hV1 (w1.heap.size + 1 + 1) (by omega) (hno _ (by omega))).trans hb8
      have hL1 : Wors W0.heap.size V1 (.slice va vn vcp) (colL s l roots) := wors_keep h1 (fun g hg => hV1 g (wors_own h1 hg).2 (hno g (Or.inr (by have := (hgV g hg).1; omega))))
      obtain ⟨f0, f1⟩ := cells2 u0
      obtain ⟨n2, n3⟩ := cells2 u1
      have n4 := row_free u1
      have c8 := row_cell u8 0
      have hzz : w.heap.size + 1 < V1.heap.size := by omega
      have hbz := hbW.size
      have hbV : Below w.heap.size w V := (hbW.trans (hBV.mono hbz)).trans (h3.toBelow (by omega) (fun d hd => by have := (hgV d (by simpa using hd)).1; omega))
      have hbV1 : Below w.heap.size w V1 := hbV.trans (hO1.toBelow (by omega) (fun d hd => by have := (hgo d (by simpa using hd)).1; omega))
      have HFIN : Hid (∀ Z, _ → _) := lay_two u1 (Nat.le_succ _) hbV1 (.int .i64 s) (.slice va vn vcp)
      have HS1 : Hid (V1.heap[D]? = some (.deferred (some []))) := (hV1 D (by have := HDL.out; omega) (hno D (Or.inr (by omega)))).trans HK1.out
      have HS2 : Hid (V1.heap[D2]? = some (.deferred (some []))) := (hV1 D2 (Array.getElem?_eq_some_iff.1 HK2.out).1 (hno D2 (Or.inr (by omega)))).trans HK2.out
      have hap : ∀ k, (Value.slice va vn vcp).ownBlock = some k → (Value.slice oa nr ocp).ownBlock ≠ some k := fun k hk => hno k (Or.inr (by have := (hgV k hk).1; omega))
      have hLb : ∀ g, (Value.slice va vn vcp).ownBlock = some g → g ≠ w.heap.size + 1 := fun g hg => by have := (hgV g hg).1; omega
      have hRb : ∀ g, (Value.slice oa nr ocp).ownBlock = some g → g ≠ w.heap.size + 1 := fun g hg => by have := (hgo g hg).1; omega
      have HD1 : Hid (D ≠ D2 ∧ D ≠ w.heap.size + 1 ∧ D2 ≠ w.heap.size + 1 ∧ w.heap.size ≤ D ∧ w.heap.size ≤ D2) := by show _ ∧ _; have := HDL.out; omega
      have HW0 : Hid (w.heap.size ≤ W0.heap.size ∧ w.heap.size ≤ X.heap.size) := by show _ ∧ _; omega
      clear hV1 hno h1 h3 hO1 HK1 HK2 hlow hb8 y0V y1V hNV u0 u8 hgV hgo
      gi_wp2_with fail
      obtain ⟨Z, hZ⟩ : ∃ Z, Z = (V1.setCell ⟨w.heap.size + 1, 0, none⟩ (.int .i64 s)).setCell ⟨w.heap.size + 1, 1, none⟩ (.slice va vn vcp) := ⟨_, rfl⟩
      obtain ⟨z1, z2, z3, z4⟩ := HFIN.out Z hZ
      obtain ⟨d1, d2, d3, d4, d5⟩ := HD1.out
      have hKZ1 := (z3 D d2).trans HS1.out
      have hKZ2 := (z3 D2 d3).trans HS2.out
      have hLZ := wors_keep hL1 (fun g hg => z3 g (hLb g hg))
      have hRZ := wors_keep hR1 (fun g hg => z3 g (hRb g hg))
      rw [← hZ]
      clear hZ
      have hKZ1' : (Z.putObj D2 (.deferred none)).heap[D]? = some (.deferred (some [])) := (World.putObj_heap_other d1).trans hKZ1
      have hcs : ∀ (q : Nat) (c : Array Value) (t : TypeId) (fr : Nat × Nat), Z.heap[q]? = some (Obj.cells c t fr) → ((Z.putObj D2 (.deferred none)).putObj D (.deferred none)).heap[q]? = Z.heap[q]? := by
        intro q c t fr hq
        have e1 : q ≠ D := fun e => by subst e; rw [hKZ1] at hq; cases hq
        have e2 : q ≠ D2 := fun e => by subst e; rw [hKZ2] at hq; cases hq
        exact (World.putObj_heap_other e1).trans (World.putObj_heap_other e2)
      refine ⟨by simp, .inl ⟨_, _, rfl, run_takeDeferred hKZ2, ⟨by simp, .inl ⟨_, _, rfl, run_takeDeferred hKZ1', ?_⟩⟩⟩⟩
      have v1 := (hcs _ _ _ _ z1).trans z1
      have s0 := row_cell v1 0
      have s1 := row_cell v1 1
      refine ⟨.tuple #[vH s va vn vcp, .slice oa nr ocp], by simp [results, Tryd.results6, go_sem, s0, s1], ⟨va, vn, vcp, oa, nr, ocp, rfl, HVL.out, HNL.out, wors_le (wors_keep hLZ (fun g hg => ?_)) HW0.out.1, wors_le (wors_keep hRZ (fun g hg => ?_)) HW0.out.2, hap⟩, (z2.trans (KpB.put (Bs := 0) (Nat.le_refl _) Z D2 _ _ d5 hKZ2 rfl).bel).trans (KpB.put (Bs := 0) (Nat.le_refl _) _ D _ _ d4 hKZ1' rfl).bel⟩
      · obtain ⟨c, t, fr, hc⟩ := wors_cs hLZ hg
        exact hcs _ _ _ _ hc
      · obtain ⟨c, t, fr, hc⟩ := wors_cs hRZ hg
        exact hcs _ _ _ _ hc
    case stop2 =>
      rintro D2 c pre V hD2 hpre hf hK2
      exact hf.elim
  case stop =>
    rintro D c pre W hD hpre hf hK
    exact hf.elim

end Go.Proofs.YtapamdjoipofmaaDoor
