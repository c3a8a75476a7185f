/-
  The lists that are open on the way through a term, each with how many of its parts are asked; what lies in memory of them: no walk.
-/
import Derived.Test.YtmjpckbpkpbkjaaPu0
namespace Go.Proofs.Ytmjpckbpkpbkjaa
open Go.RowKit
set_option linter.unusedVariables false
set_option linter.unusedSimpArgs false

theorem Try.infoOp : (Try.prog.info? 59).map (fun i => (i.zero, i.size, i.bytes)) = some (some (.agg #[.slice none 0 0, .int .i64 0]), 2, 32) := by kernel_rfl

/-- A list of two that is open, at the head of block g; n of its parts are asked. -/
structure Fr where
  g : Nat
  cap : Nat
  ts : List Tm
  bss : List (List Nat)
  n : Nat

abbrev Fr.vs (f : Fr) : Array Value := #[.slice (some ⟨f.g, 0, none⟩) 2 f.cap, .int .i64 (f.n : Int)]
def Fr.cells (f : Fr) : List Value := f.vs.toList
def Fr.left (f : Fr) : List Nat := (f.bss.drop f.n).flatten
def Fr.ok (f : Fr) : Bool := (f.ts.drop f.n).all pureM
def Fr.wt (f : Fr) : Nat := 1 + ((f.ts.drop f.n).map fun t => 1 + 2 * cntM t).sum
def wsum (fs : List Fr) : Nat := (fs.map Fr.wt).sum
def Fr.next (f : Fr) : Fr := { f with n := f.n + 1 }

structure FrOk (w : World) (D d : Nat) (f : Fr) : Prop where
  lt : f.ts.length = 2
  lb : f.bss.length = 2
  n : f.n ≤ 2
  it : ∀ i (hi : i < f.ts.length) (hi' : i < f.bss.length), ∃ a1 l1 c1 a2 l2 c2 a3 l3 c3, Nine w f.g (i * 9) f.ts[i].K f.ts[i].N f.ts[i].S f.ts[i].Z f.ts[i].T.K f.ts[i].T.N (.slice a1 l1 c1) (.slice a2 l2 c2) (.slice a3 l3 c3) ∧ FldO w D (OwM w D d) f.ts[i] a1 l1 a2 l2 a3 l3 f.bss[i]

/-- What holds of them in the world in which the call began. -/
structure PSt (w : World) (D d : Nat) (fs : List Fr) (cs : List Nat) : Prop where
  ok : ∀ f ∈ fs, FrOk w D d f
  cin : ∀ f ∈ fs, f.g ∈ cs
  nodup : (fs.flatMap Fr.left ++ cs).Nodup
  bnd : ∀ b ∈ fs.flatMap Fr.left ++ cs, b < w.heap.size
  fro : ∀ b ∈ cs, ∃ a t, w.heap[b]? = some (.cells a t (0, 0))

/-- What lies in the world at hand. -/
structure PDyn (w wr : World) (wp mp : Nat) (v : Value) (fs : List Fr) (cs : List Nat) : Prop where
  bel : Below w.heap.size w wr
  wpl : w.heap.size ≤ wp
  mpl : w.heap.size ≤ mp
  box : wr.heap[wp]? = some (.cells #[v, .map (some mp)] 48 (0, 0))
  row : wr.ownsRow 0 59 2 v fs.length (fs.flatMap Fr.cells)
  blk : ∀ x, v.ownBlock = some x → w.heap.size ≤ x
  map : ∃ es clock, wr.heap[mp]? = some (.map es clock) ∧ KeysP es cs

theorem wsum_append (a b : List Fr) : wsum (a ++ b) = wsum a + wsum b := by simp [wsum]
theorem wsum_len (fs : List Fr) : fs.length ≤ wsum fs := by
  induction fs with
  | nil => simp [wsum]
  | cons f l ih => simp only [wsum, List.map_cons, List.sum_cons, List.length_cons] at *; have : 1 ≤ f.wt := by unfold Fr.wt; omega
                   omega

theorem p_below {w wr w1 : World} {wp mp : Nat} {v : Value} {fs : List Fr} {cs : List Nat} (h : PDyn w wr wp mp v fs cs) (hb : Below wr.heap.size wr w1) : PDyn w w1 wp mp v fs cs := by
  refine ⟨h.bel.trans (hb.mono h.bel.size), h.wpl, h.mpl, (hb.block wp (Array.getElem?_eq_some_iff.1 h.box).1).trans h.box, own_keep h.row fun g hg => hb.block g (own_cells h.row hg).1, h.blk, ?_⟩
  obtain ⟨es, clock, hm, hk⟩ := h.map
  exact ⟨es, clock, (hb.block mp (Array.getElem?_eq_some_iff.1 hm).1).trans hm, hk⟩

theorem p_apart {w wr : World} {wp mp : Nat} {v : Value} {fs : List Fr} {cs : List Nat} (h : PDyn w wr wp mp v fs cs) : wp ≠ mp ∧ v.ownBlock ≠ some wp ∧ v.ownBlock ≠ some mp := by
  obtain ⟨es, clock, hm, _⟩ := h.map
  refine ⟨fun e => ?_, fun e => ?_, fun e => ?_⟩
  · subst e; rw [h.box] at hm; cases hm
  · obtain ⟨_, cur, fr, e1⟩ := own_cells h.row e
    rw [h.box] at e1; cases e1
  · obtain ⟨_, cur, fr, e1⟩ := own_cells h.row e
    rw [hm] at e1; cases e1

theorem cellsF_len (f : Fr) : f.cells.length = 2 := rfl
theorem cellsF_flat (fs : List Fr) : (fs.flatMap Fr.cells).length = fs.length * 2 := by
  induction fs with
  | nil => rfl
  | cons i l ih => simp only [List.flatMap_cons, List.length_append, ih, cellsF_len, List.length_cons]; omega

/-- The last one that is open: where it lies. -/
theorem p_top {w wr : World} {wp mp : Nat} {v : Value} {init : List Fr} {f : Fr} {cs : List Nat} (h : PDyn w wr wp mp v (init ++ [f]) cs) :
    ∃ g cap cur, v = .slice (some ⟨g, 0, none⟩) (init.length + 1) cap ∧ wr.heap[g]? = some (.cells cur 59 (0, 0)) ∧ w.heap.size ≤ g ∧ g ≠ wp ∧ g ≠ mp ∧ init.length + 1 ≤ cap ∧ cap ≤ 9223372036854775807 ∧ init.length * 2 + 1 < cur.size ∧
      wr.cell? ⟨g, init.length * 2, none⟩ = some (.slice (some ⟨f.g, 0, none⟩) 2 f.cap) ∧ wr.cell? ⟨g, init.length * 2 + 1, none⟩ = some (.int .i64 (f.n : Int)) ∧
      PDyn w (wr.setCell ⟨wp, 0, none⟩ (.slice (some ⟨g, 0, none⟩) init.length cap)) wp mp (.slice (some ⟨g, 0, none⟩) init.length cap) init cs ∧
      PDyn w (wr.setCell ⟨g, init.length * 2 + 1, none⟩ (.int .i64 ((f.n : Int) + 1))) wp mp v (init ++ [f.next]) cs := by
  have hrow := h.row
  obtain ⟨hne, hv1, hv2⟩ := p_apart h
  rw [List.length_append, List.flatMap_append] at hrow
  simp only [List.length_singleton, List.flatMap_cons, List.flatMap_nil, List.append_nil] at hrow
  rcases hrow.2 with ⟨_, hn⟩ | ⟨g, cap, cur, rfl, hg, hh, hc1, hc2, hc3, ht⟩
  · omega
  · have hl := cellsF_flat init
    have hgp : g ≠ wp := fun e => hv1 (by simp [Value.ownBlock, e])
    have hgm : g ≠ mp := fun e => hv2 (by simp [Value.ownBlock, e])
    have look : ∀ j, j < 2 → wr.cell? ⟨g, init.length * 2 + j, none⟩ = f.vs[j]? := by
      intro j hj
      rw [row_cell hh]
      have e : (cur.toList.take ((init.length + 1) * 2))[init.length * 2 + j]? = f.cells[j]? := by
        rw [ht, List.getElem?_append_right (by omega), hl]; congr 1; omega
      rw [List.getElem?_take, if_pos (by omega)] at e
      rw [← Array.getElem?_toList, e]
      unfold Fr.cells
      exact Array.getElem?_toList
    have hcs : init.length * 2 + 1 < cur.size := by
      have h1 := look 1 (by omega)
      rw [row_cell hh] at h1
      exact (Array.getElem?_eq_some_iff.1 h1).1
    obtain ⟨es, clock, hm, hk⟩ := h.map
    refine ⟨g, cap, cur, rfl, hh, h.blk g rfl, hgp, hgm, hc1, by unfold maxLen at hc2; omega, hcs, look 0 (by omega), look 1 (by omega), ?_, ?_⟩
    · refine ⟨h.bel.setCell (p := ⟨wp, 0, none⟩) h.wpl _, h.wpl, h.mpl, row_set h.box _ _, ⟨hl, Or.inr ⟨g, cap, cur, rfl, hg, (row_other _ _ _ hgp).trans hh, by omega, hc2, hc3, ?_⟩⟩, fun x hx => h.blk x hx, ⟨es, clock, (row_other _ _ _ (fun e => hne e.symm)).trans hm, hk⟩⟩
      have e2 : cur.toList.take (init.length * 2) = (cur.toList.take ((init.length + 1) * 2)).take (init.length * 2) := by rw [List.take_take]; congr 1; omega
      rw [e2, ht, List.take_append_of_le_length (by omega), List.take_of_length_le (by omega)]
    · refine ⟨h.bel.setCell (p := ⟨g, _, none⟩) (h.blk g rfl) _, h.wpl, h.mpl, (row_other _ _ _ (fun e => hgp e.symm)).trans h.box, ?_, fun x hx => h.blk x hx, ⟨es, clock, (row_other _ _ _ (fun e => hgm e.symm)).trans hm, hk⟩⟩
      rw [List.length_append, List.flatMap_append]
      simp only [List.length_singleton, List.flatMap_cons, List.flatMap_nil, List.append_nil]
      refine ⟨by simp [hl, cellsF_len]; omega, Or.inr ⟨g, cap, _, rfl, hg, row_set hh _ _, hc1, hc2, by simpa using hc3, ?_⟩⟩
      rw [Array.toList_setIfInBounds, List.take_set, ht, List.set_append_right _ _ (by omega), hl]
      congr 1
      have : init.length * 2 + 1 - init.length * 2 = 1 := by omega
      rw [this]
      simp [Fr.cells, Fr.vs, Fr.next]

/-- One more that is open: what 'append' gives. -/
theorem p_push {w wr : World} {wp mp : Nat} {v : Value} {fs : List Fr} {cs : List Nat} (h : PDyn w wr wp mp v fs cs) (hsz : fs.length ≤ 2097153) (f : Fr) :
    ∃ g cap w2, (Builtin.append_ #[46, 46] 46 #[v, .slice (some ⟨wr.heap.size, 0, none⟩) 1 1]).run Try.prog (wr.alloc (.cells f.vs 59)) = .ok (.slice (some ⟨g, 0, none⟩) (fs.length + 1) cap) w2 ∧
      PDyn w (w2.setCell ⟨wp, 0, none⟩ (.slice (some ⟨g, 0, none⟩) (fs.length + 1) cap)) wp mp (.slice (some ⟨g, 0, none⟩) (fs.length + 1) cap) (fs ++ [f]) cs ∧ (∀ i, i < wr.heap.size → v.ownBlock ≠ some i → w2.heap[i]? = wr.heap[i]?) ∧ Below w.heap.size w w2 ∧ w2.heap[wp]? = some (.cells #[v, .map (some mp)] 48 (0, 0)) := by
  obtain ⟨i0, hi, hz0, hz1, hz2⟩ := info_parts Try.infoOp
  have hX : Below wr.heap.size wr (wr.alloc (.cells f.vs 59)) := (Below.refl _ _).alloc (Nat.le_refl _) _
  have h1 := p_below h hX
  have hgw := h.bel.size
  obtain ⟨g, cap, w2, hrun, hown2, hgrow, hat, hlt⟩ := run_append_lies (P := Try.prog) (wr.alloc (.cells f.vs 59)) 46 46 0 59 i0 _ 2 32 Try.underlying46 hi hz0 hz1 hz2 rfl (by omega) v fs.length _ h1.row
    ⟨wr.heap.size, 0, none⟩ 1 1 f.cells rfl (World.news_of_block (cs := f.vs) (t := 59) (fr := (0, 0)) (heap_alloc_new wr _)) (by simp [Value.oneCell', Fr.cells])
    (by omega) (by unfold maxLen; omega) (by omega) (by simp) _ rfl
  obtain ⟨hne, hv1, hv2⟩ := p_apart h1
  have hkeep : ∀ i, i < (wr.alloc (.cells f.vs 59)).heap.size → v.ownBlock ≠ some i → w2.heap[i]? = (wr.alloc (.cells f.vs 59)).heap[i]? := fun i hi hr => hgrow.block i hi (fun e => hr e.symm)
  have hb2 : Below w.heap.size w w2 := ⟨hgrow.os.trans h1.bel.os, hgrow.tape.trans h1.bel.tape, hgrow.output.trans h1.bel.output, Nat.le_trans h1.bel.size hgrow.size, fun i hi => by
    have hne : v.ownBlock ≠ some i := fun e => by have := h1.blk i e; omega
    exact (hkeep i (Nat.lt_of_lt_of_le hi h1.bel.size) hne).trans (h1.bel.block i hi)⟩
  have hbx : w2.heap[wp]? = some (.cells #[v, .map (some mp)] 48 (0, 0)) := (hkeep wp (Array.getElem?_eq_some_iff.1 h1.box).1 hv1).trans h1.box
  have hwlt : wp < wr.heap.size := (Array.getElem?_eq_some_iff.1 h.box).1
  obtain ⟨es, clock, hm, hk⟩ := h1.map
  have hm2 : w2.heap[mp]? = some (.map es clock) := (hkeep mp (Array.getElem?_eq_some_iff.1 hm).1 hv2).trans hm
  have hgwp : g ≠ wp := by
    rcases hat with hat | hat
    · exact fun e => hv1 (by rw [hat, e])
    · simp at hat; omega
  refine ⟨g, cap, w2, hrun, ⟨hb2.setCell (p := ⟨wp, 0, none⟩) h.wpl _, h.wpl, h.mpl, row_set hbx _ _, ?_, ?_, ⟨es, clock, (row_other _ _ _ (fun e => hne e.symm)).trans hm2, hk⟩⟩, fun i hi hr => (hkeep i (by simp; omega) hr).trans (Below.heap_alloc _ _ _ hi), hb2, hbx⟩
  · rw [List.length_append, List.flatMap_append]
    exact own_keep (by simpa using hown2) fun g' hg' => row_other _ _ _ (by
      have : g = g' := by simpa [Value.ownBlock] using hg'
      omega)
  · intro x hx
    have hx' : g = x := by simpa [Value.ownBlock] using hx
    subst hx'
    rcases hat with hat | hat
    · exact h1.blk g hat
    · simp at hat; omega

/-- Whatever is laid into the map at the key of block c. -/
theorem p_key {w wr : World} {wp mp : Nat} {v : Value} {fs : List Fr} {cs : List Nat} (h : PDyn w wr wp mp v fs cs) (c : Nat) (hfr : ∀ x, x = c ∨ x ∈ cs → ∃ a t, w.heap[x]? = some (.cells a t (0, 0))) (u : Value) :
    ∃ w1, (Instr.mapUpdate 45 (.map (some mp)) (keyP c) u).run Try.prog wr = .ok () w1 ∧ PDyn w w1 wp mp v fs (c :: cs) ∧ (∀ i, i ≠ mp → w1.heap[i]? = wr.heap[i]?) ∧ w1.heap.size = wr.heap.size := by
  obtain ⟨es, clock, hm, hk⟩ := h.map
  obtain ⟨hne, hv1, hv2⟩ := p_apart h
  have hfr' : ∀ x, x = c ∨ x ∈ cs → ∃ a t, wr.heap[x]? = some (.cells a t (0, 0)) := fun x hx => by
    obtain ⟨a, t, ha⟩ := hfr x hx
    exact ⟨a, t, (h.bel.block x (Array.getElem?_eq_some_iff.1 ha).1).trans ha⟩
  obtain ⟨es', clock', hrun, hk'⟩ := updateP u hm hfr' hk
  have hlt : mp < wr.heap.size := (Array.getElem?_eq_some_iff.1 hm).1
  have other : ∀ i, i ≠ mp → (wr.heap.setIfInBounds mp (.map es' clock'))[i]? = wr.heap[i]? := fun i hi => by
    rw [Array.getElem?_setIfInBounds]; rw [if_neg (fun e => hi e.symm)]
  refine ⟨_, hrun, ⟨⟨h.bel.os, h.bel.tape, h.bel.output, by simpa using h.bel.size, fun i hi => (other i (by have := h.mpl; omega)).trans (h.bel.block i hi)⟩, h.wpl, h.mpl, (other wp hne).trans h.box, own_keep h.row fun g hg => other g (fun e => hv2 (e ▸ hg)), h.blk, ⟨es', clock', by show (Array.setIfInBounds _ _ _)[mp]? = _; rw [Array.getElem?_setIfInBounds]; simp [hlt], hk'⟩⟩, other, by simp⟩

theorem p_look {w wr : World} {wp mp : Nat} {v : Value} {fs : List Fr} {cs : List Nat} (h : PDyn w wr wp mp v fs cs) (c : Nat) (hc : c ∉ cs) (hfr : ∀ x, x = c ∨ x ∈ cs → ∃ a t, w.heap[x]? = some (.cells a t (0, 0))) :
    (Instr.lookup 45 (.map (some mp)) (keyP c) false).run Try.prog wr = .ok (.int .i64 0) wr := by
  obtain ⟨es, clock, hm, hk⟩ := h.map
  exact lookupP hm (fun x hx => by
    obtain ⟨a, t, ha⟩ := hfr x hx
    exact ⟨a, t, (h.bel.block x (Array.getElem?_eq_some_iff.1 ha).1).trans ha⟩) hc hk

end Go.Proofs.Ytmjpckbpkpbkjaa
