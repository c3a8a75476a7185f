/-
  The program's 'headsOf' at every heap, and 'HeapOk'.
-/
import Derived.Test.YtapamdjoipofmaaDoorFcdZ11
import Derived.Test.YtapamdjoipofmaaDoorFcdHp
import Derived.Test.YtapamdjoipofmaaDoorFcdOf
namespace Go.Proofs.YtapamdjoipofmaaDoor
open Go.RowKit
set_option linter.unusedVariables false
set_option linter.unusedSimpArgs false

set_option maxHeartbeats 1000000 in
theorem heapOk_any (L B : Nat) (s : Int) (ao : Option Addr) (len cap : Nat) (l : List Wrd) (w : World) (hB : B ≤ w.heap.size) (hs : Ws L B w ao len l) (hl : len ≤ 1048576) (hcap : len ≤ cap) :
    Calls Tryd.prog 7 #[vH s ao len cap] w fun e w' => e = .returned (.bool (okH s l)) ∧ Below w.heap.size w w' := by
  have hXb : Below w.heap.size w (w.alloc (.cells #[.int .i64 s, .slice ao len cap] 26)) := (Below.refl _ _).alloc (Nat.le_refl _) _
  have K := headsOf_any L B s ao len cap l _ (by simp; omega) (hs.below hXb hB) hl hcap
  obtain ⟨q, hq⟩ : ∃ q, okH s l = q := ⟨_, rfl⟩
  rw [hq] at K ⊢
  clear hq
  cases q with
  | true =>
    go_enter Tryd.func7, Tryd.ntmps7
    go_wp2_with fail
    refine K.mono ?_
    rintro e w1 ⟨he, hb1⟩
    obtain ⟨g, rfl, _, _⟩ := he
    have hbw : Below w.heap.size w w1 := hXb.trans (hb1.mono (by simp))
    clear K
    go_wp2_with fail
    go_ret
    exact ⟨rfl, hbw⟩
  | false =>
    go_enter Tryd.func7, Tryd.ntmps7
    go_wp2_with fail
    refine K.mono ?_
    rintro e w1 ⟨he, hb1⟩
    obtain rfl : e = .returned (.tuple #[.slice none 0 0, .bool false]) := he
    have hbw : Below w.heap.size w w1 := hXb.trans (hb1.mono (by simp))
    clear K
    go_wp2_with fail
    go_ret
    exact ⟨rfl, hbw⟩

end Go.Proofs.YtapamdjoipofmaaDoor

/-
  The program's 'rootsRight' and 'Reached'.
-/
namespace Go.Proofs.YtapamdjoipofmaaDoor
open Go.RowKit Go.Shelf
set_option linter.unusedVariables false
set_option linter.unusedSimpArgs false

/-- How many words these have. -/
def wsum (p : List (Nat × Nat)) : Nat := (p.map fun x => x.2 + 1).sum
theorem wsum_snoc (p : List (Nat × Nat)) (x : Nat × Nat) : wsum (p ++ [x]) = wsum p + (x.2 + 1) := by simp [wsum]
theorem wsum_le {l : List Wrd} : ∀ p : List (OB l), wsum (prs p) ≤ 100 * p.length
  | [] => Nat.zero_le _
  | x :: p => by
    have h1 := wsum_le p
    obtain ⟨_, h2, _⟩ := ob_some x.2
    have h3 := cntH_le h2
    simp only [wsum, prs, List.map_cons, List.sum_cons, List.length_cons] at *
    omega
theorem wsum_plc (l : List Wrd) (ps : List Nat) : wsum (ps.map (objL l)) = wrds l ps := by
  unfold wsum wrds objL
  rw [List.map_map]
  rfl

def rchN (s : Int) (l roots : List Wrd) : Nat := if rokB s l roots then wrds l (plc l roots) else 0

attribute [local go_sem] Oper.semAt_some

set_option maxRecDepth 100000 in
set_option maxHeartbeats 4000000 in
theorem reached_any (s : Int) (ao : Option Addr) (len cap : Nat) (l : List Wrd) (ar : Option Addr) (nr cr : Nat) (roots : List Wrd) (w : World) (hs : Ws 0 w.heap.size w ao len l) (hr : Ws 0 w.heap.size w ar nr roots) (hl : len ≤ 1048576) (hnr : nr ≤ 1048576) (hcap : len ≤ cap) :
    Calls Tryd.prog 8 #[vH s ao len cap, .slice ar nr cr] w fun e w' => e = .returned (.int .i64 (rchN s l roots)) ∧ Below w.heap.size w w' := by
  have HL : Hid (len = l.length) := hs.1
  have HR : Hid (rchN s l roots = if rokB s l roots then wrds l (plc l roots) else 0) := rfl
  obtain ⟨ans, hans⟩ : ∃ b, rchN s l roots = b := ⟨_, rfl⟩
  rw [hans] at HR ⊢
  clear hans
  obtain ⟨X, hX⟩ : ∃ X, X = w.alloc (.cells #[.int .i64 s, .slice ao len cap] 26) := ⟨_, rfl⟩
  have hXs : X.heap.size = w.heap.size + 1 := by rw [hX]; simp
  have hXb : Below w.heap.size w X := by rw [hX]; exact (Below.refl _ _).alloc (Nat.le_refl _) _
  have x0 : X.heap[w.heap.size]? = some (.cells #[.int .i64 s, .slice ao len cap] 26 (0, 0)) := by rw [hX]; exact heap_new rfl
  have KP := rootsRight_any 0 w.heap.size 0 w.heap.size s ao len cap l ar nr cr roots X (by omega) (by omega) (hs.below hXb (Nat.le_refl _)) (hr.below hXb (Nat.le_refl _)) hl hnr hcap
  have HX : Hid (X = _) := hX
  have hx0 : w.heap.size < X.heap.size := by omega
  obtain ⟨f0, f1⟩ := cells2 x0
  clear hX hXs
  cases hq : rokB s l roots with
  | false =>
    rw [hq] at KP HR
    have HE : Hid (ans = 0) := HR.out
    clear hq
    go_enter Tryd.func8, Tryd.ntmps8
    go_wp2_with fail
    rw [← HX.out]
    refine KP.mono ?_
    rintro e w1 ⟨rfl, hb1⟩
    have hbw : Below w.heap.size w w1 := hXb.trans (hb1.mono (by omega))
    clear KP
    go_wp2_with fail
    go_ret
    exact ⟨ret_int (by rw [HE.out]; rfl), hbw⟩
  | true =>
    have hq2 := hq
    unfold rokB at hq2
    rw [Bool.and_eq_true] at hq2
    have hok := hq2.1
    have hrw : ∀ x ∈ roots, RW l x := fun x hx => rgt_RW (List.all_eq_true.1 hq2.2 x hx)
    rw [hq] at KP HR
    have HE : Hid (ans = wrds l (plc l roots)) := HR.out
    clear hq hq2 HR
    refine (callsIn_wide (n := 10)).1 ?_
    refine callsIn_of_wp_marks Tryd.func8 rfl trivial ?_ rfl
    simp only [Tryd.ntmps8, List.size_toArray, List.length_cons, List.length_nil, Nat.reduceAdd, Nat.reduceSub, Array.replicate_succ, Array.replicate_zero, List.push_toArray, List.append_toArray, List.nil_append, List.cons_append]
    gi_wp2_with fail
    rw [← HX.out]
    refine ⟨trivial, (callsIn_wide.2 KP).mono ?_⟩
    rintro e w1 ⟨rfl, hb1⟩
    clear KP f0 f1
    have hz1 := hb1.size
    have hbw : Below w.heap.size w w1 := hXb.trans (hb1.mono (by omega))
    obtain ⟨f0, f1⟩ := cells2 ((hb1.block _ hx0).trans x0)
    have hx1 : w.heap.size < w1.heap.size := by omega
    gi_wp2_with fail
    refine ⟨trivial, (objFrom_in 9 _ _ _ _ _ _ _).mono ?_⟩
    rintro e w2 ⟨rfl, rfl⟩
    gi_wp2_with fail
    obtain ⟨W0, hW0⟩ : ∃ W0, ((w1.alloc (.cells #[.int .i64 0] 3)).alloc (.cells #[.slice ao len cap] 24)).alloc (.cells #[.slice ar nr cr] 24) = W0 := ⟨_, rfl⟩
    have hsz : W0.heap.size = w1.heap.size + 3 := by rw [← hW0]; simp
    have hB0 : Below w1.heap.size w1 W0 := by rw [← hW0]; exact (((Below.refl _ _).alloc (Nat.le_refl _) _).alloc (by simp) _).alloc (by simp; omega) _
    have b5 : Blk W0 w1.heap.size 3 #[.int .i64 (wsum (prs ([] : List (OB l))) : Nat)] := by
      unfold Blk
      rw [← hW0, Below.heap_alloc _ _ _ (by simp; omega), Below.heap_alloc _ _ _ (by simp)]
      exact heap_new rfl
    have bS1 : W0.heap[w1.heap.size + 1]? = some (.cells #[.slice ao len cap] 24 (0, 0)) := by
      rw [← hW0, Below.heap_alloc _ _ _ (by simp)]; exact heap_new (by simp)
    have bS2 : W0.heap[w1.heap.size + 1 + 1]? = some (.cells #[.slice ar nr cr] 24 (0, 0)) := by
      rw [← hW0]; exact heap_new (by simp)
    have hbW0 : Below w.heap.size w W0 := hbw.trans (hB0.mono hbw.size)
    rw [hW0]
    clear hW0 f0 f1
    refine wpIn_range_prv (own := fun _ => none) (by omega) (gf := 33) (lb := #[.pointer (some ⟨w1.heap.size + 1, 0, none⟩), .pointer (some ⟨w1.heap.size + 1 + 1, 0, none⟩)]) rfl (enters_of Tryd.func33 (by kernel_rfl) rfl)
      (objFrom_seq 9 (by omega) (w1.heap.size + 1) (w1.heap.size + 1 + 1) w.heap.size len cap nr cr ao ar s l roots (fun _ => none) hok hl hcap hnr hrw W0 hbW0.size (fun _ _ _ => rfl) bS1 bS2 (hs.below hbW0 (Nat.le_refl _)) (hr.below hbW0 (Nat.le_refl _))) (fun _ _ => rfl) KpF.trans
      (fun W k o o' hk h ho => ?kput) (fun _ => rfl)
      (fun pre W => Blk W w1.heap.size 3 #[.int .i64 (wsum (prs pre) : Nat)] ∧ Oth [w1.heap.size] W0 W)
      (fun c pre W => False)
      (OwnFrom.and (Own.from (blk_own _ _ _) _) (ownFrom_oth (Nat.le_refl _)))
      (fun c => fun _ _ _ _ h => h.elim)
      (fun pre A B hA hp => ⟨(hp.low _ (by omega)).trans hA.1, ⟨hp.os.trans hA.2.os, hp.tape.trans hA.2.tape, hp.output.trans hA.2.output, Nat.le_trans hA.2.size hp.size, fun k hk hd => (hp.low k (by omega)).trans (hA.2.block k hk hd)⟩⟩)
      (fun c pre A B hA hp => hA)
      ⟨b5, Oth.refl _ _⟩
      (fun x => { tmps := #[vH s ao len cap, .slice ar nr cr, .pointer (some ⟨w.heap.size, 0, none⟩), undef, .int .i64 0, .pointer (some ⟨w1.heap.size, 0, none⟩), undef, .slice (shf ao x.1.1) (x.1.2 + 1) (x.1.2 + 1), .agg #[.int .i64 s, .slice ao len cap], .slice ar nr cr, .bool true, .bool false, .pointer (some ⟨w.heap.size, 1, none⟩), .slice ao len cap, .slice ar nr cr, .func (.func 33) #[] #[.pointer (some ⟨w1.heap.size + 1, 0, none⟩), .pointer (some ⟨w1.heap.size + 1 + 1, 0, none⟩)], .int .i64 (x.1.1 : Int), .slice (shf ao x.1.1) (x.1.2 + 1) (x.1.2 + 1), undef, undef, undef, undef, undef], defers := [] })
      ?assign ?body ?done ?stop
    case kput =>
      have hg := grownBy_putObj' W k o'
      refine ⟨⟨hg.os, hg.tape, hg.output, hg.size, fun q hq => World.putObj_heap_other (by have := hbW0.size; omega)⟩, fun c t fr hc => ?_, fun c t fr hc => ?_, fun q c t fr hq hc _ => ?_, (fun q hq => by cases hq), (fun q hq => by cases hq)⟩
      · exact (World.putObj_heap_other (by omega)).trans hc
      · exact (World.putObj_heap_other (by omega)).trans hc
      · refine (World.putObj_heap_other (fun e => ?_)).trans hc
        subst e
        rw [hc] at h
        cases h
        cases ho
    case assign =>
      rintro y x W K hK
      unfold encO
      gi_wp2
      exact hK
    case body =>
      rintro y pre x W ⟨i1, hO⟩ hlt
      obtain ⟨⟨p, c⟩, hob⟩ := x
      have c5 := row_cell (show W.heap[w1.heap.size]? = _ from i1) 0
      have z5 := row_free (show W.heap[w1.heap.size]? = _ from i1) 0
      have hc99 : c ≤ 99 := cntH_le (ob_some hob).2.1
      have hws := wsum_le pre
      have HS : Hid (wsum (prs (pre ++ [(⟨(p, c), hob⟩ : OB l)])) = wsum (prs pre) + (c + 1)) := by show _ = _; rw [prs_snoc, wsum_snoc]
      generalize wsum (prs pre) = t at *
      have goes : ∀ (v : Int) Z, v = (t : Int) + ((c : Int) + 1) → Z = W.setCell ⟨w1.heap.size, 0, none⟩ (.int .i64 v) → KeepsFrom W0.heap.size W Z ∧ KpF w.heap.size (w1.heap.size + 1) (w1.heap.size + 1 + 1) W0.heap.size (fun _ => none) W Z ∧ Blk Z w1.heap.size 3 #[.int .i64 (wsum (prs (pre ++ [(⟨(p, c), hob⟩ : OB l)])) : Nat)] ∧ Oth [w1.heap.size] W0 Z := by
        rintro v Z rfl rfl
        refine ⟨keeps_set.from _, ⟨(Below.refl _ W).setCell (p := ⟨w1.heap.size, 0, none⟩) (by show w.heap.size ≤ w1.heap.size; omega) _, fun c' t' fr hc => (row_other _ _ _ (by omega)).trans hc, fun c' t' fr hc => (row_other _ _ _ (by omega)).trans hc, fun q c' t' fr hq hc _ => (row_other _ _ _ (by omega)).trans hc, (fun q hq => by cases hq), (fun q hq => by cases hq)⟩, ?_, hO.set (by simp) _ _⟩
        rw [HS.out]
        have := row_set (show W.heap[w1.heap.size]? = _ from i1) 0 (.int .i64 ((t : Int) + ((c : Int) + 1)))
        unfold Blk
        rw [this]
        simp
      have GOES : Hid (∀ (v : Int) Z, _ → _ → _) := goes
      have hpl : pre.length ≤ 1048576 := by omega
      clear goes
      gi_wp2_with fail
      exact GOES.out _ _ (by omega) rfl
    case done =>
      rintro D zs W hD hzs ⟨i1, hO⟩ hK
      rw [hzs, wsum_plc] at i1
      have c5 := row_cell (show W.heap[w1.heap.size]? = _ from i1) 0
      have hbW : Below w.heap.size w W := hbW0.trans (hO.toBelow hbW0.size (by intro d hd; simp at hd; omega))
      rw [← HE.out] at c5
      gi_wp2_with fail
      refine ⟨by simp, .inl ⟨_, _, rfl, run_takeDeferred hK, ?_⟩⟩
      refine ⟨.int .i64 (ans : Int), by simp [results, Tryd.results8, go_sem], rfl, ?_⟩
      have hg := grownBy_putObj' W D (.deferred none)
      exact hbW.trans ⟨hg.os, hg.tape, hg.output, hg.size, fun q hq => World.putObj_heap_other (by have := hbW0.size; omega)⟩
    case stop =>
      rintro D c pre W hD hpre hf hK
      exact hf.elim

end Go.Proofs.YtapamdjoipofmaaDoor
