/-
  What 'l1Bend' has in memory while it bends: no walk.
-/
import Derived.Test.YtfjbgbnhjejchaaDoorLc2
import Derived.Test.YtfjbgbnhjejchaaDoorRd
namespace Go.Proofs.YtfjbgbnhjejchaaDoor
open Go.RowKit
set_option linter.unusedVariables false
set_option linter.unusedSimpArgs false

structure BdRel (w wr : World) (p : Nat) (cao : Option Addr) (clen ccap d : Nat) (K N : Int) (v : Value) (us : List Tr) : Prop where
  drw : Drw w wr p cao clen ccap
  box : wr.heap[w.heap.size]? = some (.cells #[.int .i64 K, .int .i64 N, v] 29 (0, 0))
  res : wr.heap[w.heap.size + 1]? = some (.cells #[.int .i64 0, .int .i64 0, .slice none 0 0] 29 (0, 0))
  ap : ApRel (w.heap.size + 2) wr d v us.length us

theorem bd_size {w wr : World} {p : Nat} {cao : Option Addr} {clen ccap d : Nat} {K N : Int} {v : Value} {us : List Tr} (h : BdRel w wr p cao clen ccap d K N v us) : w.heap.size + 2 ≤ wr.heap.size := by
  have := (Array.getElem?_eq_some_iff.1 h.res).1
  omega

theorem bd_drw {w wr w1 : World} {p : Nat} {cao : Option Addr} {clen ccap d : Nat} {K N : Int} {v : Value} {us : List Tr} (h : BdRel w wr p cao clen ccap d K N v us) (hp : p < w.heap.size) (hD : Drw wr w1 p cao clen ccap) : BdRel w w1 p cao clen ccap d K N v us := by
  have hz := bd_size h
  exact ⟨h.drw.trans hD, (hD.grown.block _ (by omega) (by simp; omega)).trans h.box, (hD.grown.block _ (by omega) (by simp; omega)).trans h.res, ap_moved h.ap (Sm.grown hD.grown (by omega))⟩

/-- Behind the copy. -/
theorem bd_copied {w w1 : World} {p : Nat} {cao : Option Addr} {clen ccap d : Nat} {k n : Int} {v0 v : Value} {us : List Tr} (hc : Cur w p cao clen ccap)
    (hb : Below (w.heap.size + 1 + 1) ((w.alloc (.cells #[.int .i64 k, .int .i64 n, v0] 29)).alloc (.cells #[.int .i64 0, .int .i64 0, .slice none 0 0] 29)) w1) (ha : ApRel (w.heap.size + 1 + 1) w1 d v us.length us) :
    BdRel w (set3 w1 w.heap.size 0 (.int .i64 k) (.int .i64 n) v) p cao clen ccap d k n v us := by
  have hp := hc.lt
  have hX : Below w.heap.size w ((w.alloc (.cells #[.int .i64 k, .int .i64 n, v0] 29)).alloc (.cells #[.int .i64 0, .int .i64 0, .slice none 0 0] 29)) := ((Below.refl _ _).alloc (Nat.le_refl _) _).alloc (by simp) _
  have h0 : w1.heap[w.heap.size]? = some (.cells #[.int .i64 k, .int .i64 n, v0] 29 (0, 0)) := (hb.block _ (by omega)).trans ((Below.heap_alloc _ _ _ (by simp)).trans (heap_new rfl))
  have h1 : w1.heap[w.heap.size + 1]? = some (.cells #[.int .i64 0, .int .i64 0, .slice none 0 0] 29 (0, 0)) := (hb.block _ (by omega)).trans (heap_new (by simp))
  have hbw : Below w.heap.size w w1 := hX.trans (hb.mono (by omega))
  have hbs : Below w.heap.size w (set3 w1 w.heap.size 0 (.int .i64 k) (.int .i64 n) v) := set3_below hbw (Nat.le_refl _)
  refine ⟨⟨grown_below _ hbs, hc.below hbs⟩, ?_, (set3_other _ (by omega)).trans h1, ?_⟩
  · rw [set3_row h0]; rfl
  · have := ap_set (o := w.heap.size) (j := 0) ha (by omega) (.int .i64 k)
    have := ap_set (o := w.heap.size) (j := 0 + 1) this (by omega) (.int .i64 n)
    exact ap_set (o := w.heap.size) (j := 0 + 2) this (by omega) v

theorem bd_setK {w wr : World} {p : Nat} {cao : Option Addr} {clen ccap d : Nat} {K N : Int} {v : Value} {us : List Tr} (h : BdRel w wr p cao clen ccap d K N v us) (hp : p < w.heap.size) (K' : Int) : BdRel w (wr.setCell ⟨w.heap.size, 0, none⟩ (.int .i64 K')) p cao clen ccap d K' N v us := by
  refine ⟨h.drw.set hp (Nat.le_refl _) _, ?_, (row_other _ _ _ (by omega)).trans h.res, ap_set h.ap (by omega) _⟩
  rw [row_set h.box]; rfl
theorem bd_setN {w wr : World} {p : Nat} {cao : Option Addr} {clen ccap d : Nat} {K N : Int} {v : Value} {us : List Tr} (h : BdRel w wr p cao clen ccap d K N v us) (hp : p < w.heap.size) (N' : Int) : BdRel w (wr.setCell ⟨w.heap.size, 1, none⟩ (.int .i64 N')) p cao clen ccap d K N' v us := by
  refine ⟨h.drw.set hp (Nat.le_refl _) _, ?_, (row_other _ _ _ (by omega)).trans h.res, ap_set h.ap (by omega) _⟩
  rw [row_set h.box]; rfl

/-- One more behind its parts. -/
theorem bd_append {w wr : World} {p : Nat} {cao : Option Addr} {clen ccap d : Nat} {K N : Int} {v : Value} {us : List Tr} (h : BdRel w wr p cao clen ccap d K N v us) (hp : p < w.heap.size) (hl : us.length ≤ 1000000) :
    ∃ g cap w2, (Builtin.append_ #[27, 27] 27 #[v, .slice (some ⟨wr.heap.size, 0, none⟩) 1 1]).run Tryd.prog (wr.alloc (.cells #[.int .i64 1, .int .i64 0, .slice none 0 0] 29)) = .ok (.slice (some ⟨g, 0, none⟩) (us.length + 1) cap) w2 ∧
      w2.cell? ⟨w.heap.size, 2, none⟩ = some v ∧ w2.frozen? ⟨w.heap.size, 2, none⟩ = false ∧
      BdRel w (w2.setCell ⟨w.heap.size, 2, none⟩ (.slice (some ⟨g, 0, none⟩) (us.length + 1) cap)) p cao clen ccap d K N (.slice (some ⟨g, 0, none⟩) (us.length + 1) cap) (us ++ [⟨1, 0, []⟩]) := by
  have hz := bd_size h
  have hap := ap_more h.ap rfl ⟨1, 0, []⟩
  have e : (us ++ [(⟨1, 0, []⟩ : Tr)])[us.length]'(by simp) = ⟨1, 0, []⟩ := by simp
  have hrun := ap_run2 (w1 := wr) (ao1 := none) (len1 := 0) (cap1 := 0) hap (by simp) (by simp; omega) ⟨Nat.le_refl _, fun _ _ _ => rfl⟩ hz (by rw [e]; exact OwR.nil _ _ _ _ _)
  rw [e] at hrun
  obtain ⟨g, cap, w2, hrun, hap2, hlo⟩ := hrun
  have o2 := (hlo.block w.heap.size (by omega)).trans h.box
  refine ⟨g, cap, w2, hrun, (box_cells o2).2.2, row_free o2 2, ⟨⟨⟨hlo.os.trans h.drw.grown.os, hlo.tape.trans h.drw.grown.tape, hlo.output.trans h.drw.grown.output, by simp; have := hlo.size; omega, fun q hq hne => ?_⟩, ?_⟩, ?_, ?_, ?_⟩⟩
  · rw [row_other _ _ _ (by omega), hlo.block q (by omega)]
    exact h.drw.grown.block q hq hne
  · exact h.drw.cur.keep fun q hq => by rw [row_other _ _ _ (by omega)]; exact hlo.block q (by omega)
  · rw [row_set o2]; rfl
  · rw [row_other _ _ _ (by omega), hlo.block _ (by omega)]; exact h.res
  · have e2 : (us ++ [(⟨1, 0, []⟩ : Tr)]).length = us.length + 1 := by simp
    rw [e2]
    exact ap_set hap2 (by omega) _

/-- A list around it. -/
theorem bd_wrap {w wr : World} {p : Nat} {cao : Option Addr} {clen ccap d : Nat} {K N : Int} {ao : Option Addr} {len cap : Nat} {us : List Tr} (h : BdRel w wr p cao clen ccap d K N (.slice ao len cap) us) (hp : p < w.heap.size) (hl : us.length ≤ 1000000) :
    BdRel w ((set3 wr w.heap.size 0 (.int .i64 6) (.int .i64 0) (.slice (some ⟨wr.heap.size, 0, none⟩) 1 1)).alloc (.cells #[.int .i64 K, .int .i64 N, .slice ao len cap] 29)) p cao clen ccap (d + 1) 6 0 (.slice (some ⟨wr.heap.size, 0, none⟩) 1 1) [⟨K, N, us⟩] := by
  have hz := bd_size h
  obtain ⟨ao2, cap2, e, ho⟩ := ap_done h.ap rfl (by omega)
  cases e
  have hD1 : Drw w (set3 wr w.heap.size 0 (.int .i64 6) (.int .i64 0) (.slice (some ⟨wr.heap.size, 0, none⟩) 1 1)) p cao clen ccap := ((h.drw.set hp (Nat.le_refl _) _).set hp (Nat.le_refl _) _).set hp (Nat.le_refl _) _
  have b0 : (set3 wr w.heap.size 0 (.int .i64 6) (.int .i64 0) (.slice (some ⟨wr.heap.size, 0, none⟩) 1 1)).heap[w.heap.size]? = some (.cells #[.int .i64 6, .int .i64 0, .slice (some ⟨wr.heap.size, 0, none⟩) 1 1] 29 (0, 0)) := by rw [set3_row h.box]; rfl
  have b1 : (set3 wr w.heap.size 0 (.int .i64 6) (.int .i64 0) (.slice (some ⟨wr.heap.size, 0, none⟩) 1 1)).heap[w.heap.size + 1]? = _ := (set3_other _ (by omega)).trans h.res
  have oth : ∀ x, x ≠ w.heap.size → (set3 wr w.heap.size 0 (.int .i64 6) (.int .i64 0) (.slice (some ⟨wr.heap.size, 0, none⟩) 1 1)).heap[x]? = wr.heap[x]? := fun x hx => set3_other _ hx
  have hsz : (set3 wr w.heap.size 0 (.int .i64 6) (.int .i64 0) (.slice (some ⟨wr.heap.size, 0, none⟩) 1 1)).heap.size = wr.heap.size := set3_size _ _ _ _ _ _
  generalize set3 wr w.heap.size 0 (.int .i64 6) (.int .i64 0) (.slice (some ⟨wr.heap.size, 0, none⟩) 1 1) = Y at *
  have hA : Below Y.heap.size Y (Y.alloc (.cells #[.int .i64 K, .int .i64 N, .slice ao us.length cap] 29)) := (Below.refl _ _).alloc (Nat.le_refl _) _
  refine ⟨⟨grown_trans' hD1.grown (grown_below _ hA), hD1.cur.below hA⟩, (hA.block _ (by omega)).trans b0, (hA.block _ (by omega)).trans b1, ?_⟩
  obtain ⟨bs, hw, hnd, hrng⟩ := ho
  have hg : (Y.alloc (.cells #[.int .i64 K, .int .i64 N, .slice ao us.length cap] 29)).heap[wr.heap.size]? = some (.cells #[.int .i64 K, .int .i64 N, .slice ao us.length cap] 29 (0, 0)) := by rw [← hsz]; exact heap_new rfl
  refine ⟨[.int .i64 K, .int .i64 N, .slice ao us.length cap], ⟨rfl, Or.inr ⟨wr.heap.size, 1, _, rfl, hz, hg, by simp, by unfold maxLen; simp, by simp, by simp⟩⟩, [bs], rfl, by simpa using hnd, fun b hb => ?_, fun i hi hi' => ?_⟩
  · have := hrng b (by simpa using hb)
    refine ⟨this.1, by simp; omega, ?_⟩
    simp only [Value.ownBlock]
    intro e
    have e' : wr.heap.size = b := by simpa using e
    omega
  · have hi0 : i = 0 := by simp at hi; exact hi
    subst hi0
    refine ⟨ao, us.length, cap, rfl, rfl, rfl, ?_⟩
    show Ow _ (d + 1) ao us.length us bs
    exact hw.keep fun b hb => by
      have := hrng b hb
      rw [hA.block b (by omega)]
      exact oth b (by omega)

/-- What it answers. -/
theorem bd_done {w wr : World} {p : Nat} {cao : Option Addr} {clen ccap d : Nat} {K N : Int} {ao : Option Addr} {len cap : Nat} {us : List Tr} (h : BdRel w wr p cao clen ccap d K N (.slice ao len cap) us) (hp : p < w.heap.size) (hl : us.length ≤ 1000000) (a b c : Value) :
    Drw w (set3 wr (w.heap.size + 1) 0 a b c) p cao clen ccap ∧ Hs w.heap.size (set3 wr (w.heap.size + 1) 0 a b c).heap.size (set3 wr (w.heap.size + 1) 0 a b c) (d + 1) ao len us := by
  have hz := bd_size h
  obtain ⟨ao2, cap2, e, ho⟩ := ap_done h.ap rfl (by omega)
  cases e
  refine ⟨((h.drw.set hp (by omega) _).set hp (by omega) _).set hp (by omega) _, ?_⟩
  rw [set3_size]
  exact ho.hs.keep (fun q hq _ => set3_other _ (by omega)) (by omega) (Nat.le_refl _)

theorem cntS_set (l : List Tr) (j : Nat) (hj : j < l.length) (t : Tr) : cntS (l.set j t) + cnt l[j] = cntS l + cnt t := by
  unfold cntS
  induction l generalizing j with
  | nil => simp at hj
  | cons x l ih =>
    cases j with
    | zero => simp; omega
    | succ j =>
      have := ih j (by simpa using hj)
      simp only [List.set_cons_succ, List.map_cons, List.sum_cons, List.getElem_cons_succ]
      omega

/-- One part bent, in its place. -/
theorem bd_part {w wr w3 : World} {p : Nat} {cao : Option Addr} {clen ccap d D : Nat} {K N : Int} {g len cap : Nat} {us : List Tr} (h : BdRel w wr p cao clen ccap d K N (.slice (some ⟨g, 0, none⟩) len cap) us) (hp : p < w.heap.size) (hl : us.length ≤ 1000000) (j : Nat) (hj : j < us.length)
    (hD : Drw wr w3 p cao clen ccap) {K3 N3 : Int} {ao3 : Option Addr} {len3 cap3 : Nat} {ts3 : List Tr} (hs : Hs wr.heap.size w3.heap.size w3 D ao3 len3 ts3) (hdD : d ≤ D) :
    (∃ cs, w3.heap[g]? = some (.cells cs 29 (0, 0)) ∧ j * 3 + 2 < cs.size) ∧ w.heap.size + 2 ≤ g ∧ g < wr.heap.size ∧ len = us.length ∧
    BdRel w w3 p cao clen ccap d K N (.slice (some ⟨g, 0, none⟩) len cap) us ∧
    ∀ a b c, Drw w (set3 (set3 w3 g (j * 3) (.int .i64 K3) (.int .i64 N3) (.slice ao3 len3 cap3)) (w.heap.size + 1) 0 a b c) p cao clen ccap ∧
      Hs w.heap.size (set3 (set3 w3 g (j * 3) (.int .i64 K3) (.int .i64 N3) (.slice ao3 len3 cap3)) (w.heap.size + 1) 0 a b c).heap.size (set3 (set3 w3 g (j * 3) (.int .i64 K3) (.int .i64 N3) (.slice ao3 len3 cap3)) (w.heap.size + 1) 0 a b c) (D + 1) (some ⟨g, 0, none⟩) len (us.set j ⟨K3, N3, ts3⟩) := by
  have hz := bd_size h
  have h3 := bd_drw h hp hD
  have hz3 := hD.grown.size
  obtain ⟨ao2, cap2, e, bs, ho, hnd, hrng⟩ := ap_done h3.ap rfl (by omega)
  cases e
  have hblk := ap_block h.ap (g := g) rfl
  rcases ho with ⟨h0, _⟩ | ⟨g', cs, bss, e, hlen, hm, hg, hcs, hbl, rfl, hE⟩
  · omega
  cases e
  refine ⟨⟨cs, hg, by omega⟩, hblk.1, hblk.2, rfl, h3, fun a b c => ?_⟩
  have hgin : ∀ i (hi : i < bss.length), ∀ x ∈ bss[i], x ≠ g ∧ w.heap.size + 2 ≤ x ∧ x < w3.heap.size := by
    intro i hi x hx
    have hin := mem_part hi hx
    refine ⟨fun e => (List.nodup_cons.1 hnd).1 (e ▸ hin), hrng x (List.mem_cons_of_mem _ hin)⟩
  obtain ⟨Y, hY⟩ : ∃ Y, Y = set3 (set3 w3 g (j * 3) (.int .i64 K3) (.int .i64 N3) (.slice ao3 len3 cap3)) (w.heap.size + 1) 0 a b c := ⟨_, rfl⟩
  have hYo : ∀ x, x ≠ g → x ≠ w.heap.size + 1 → Y.heap[x]? = w3.heap[x]? := fun x h1 h2 => by rw [hY, set3_other _ h2, set3_other _ h1]
  have hYs : Y.heap.size = w3.heap.size := by rw [hY, set3_size, set3_size]
  have hYg : ∀ o, Y.cell? ⟨g, o, none⟩ = (set3 w3 g (j * 3) (.int .i64 K3) (.int .i64 N3) (.slice ao3 len3 cap3)).cell? ⟨g, o, none⟩ := fun o => by rw [hY]; exact World.cell?_of_block (set3_other _ (show g ≠ w.heap.size + 1 by omega))
  have hD3 : Drw w Y p cao clen ccap := by
    rw [hY]
    exact (((((h3.drw.set hp (by omega) _).set hp (by omega) _).set hp (by omega) _).set hp (by omega) _).set hp (by omega) _).set hp (by omega) _
  rw [← hY]
  refine ⟨hD3, ?_⟩
  rw [hYs]
  refine ⟨by simp, by omega, fun i hi => ⟨g, 0, rfl, by omega, by omega, ?_⟩⟩
  rw [Nat.zero_add]
  have hi' : i < us.length := by simpa using hi
  by_cases hij : i = j
  · subst hij
    obtain ⟨c0, c1, c2⟩ := set3_cells (o := i * 3) (a := .int .i64 K3) (b := .int .i64 N3) (c := .slice ao3 len3 cap3) hg (by omega)
    refine ⟨ao3, len3, cap3, ?_, ?_, ?_, ?_⟩
    · rw [hYg]; simpa using c0
    · rw [hYg]; simpa using c1
    · rw [hYg]; exact c2
    · have := hs.keep (w' := Y) (L' := w.heap.size) (B' := w3.heap.size) (fun x hx hx2 => hYo x (by omega) (by omega)) (by omega) (Nat.le_refl _)
      simpa using this
  · have hset : (us.set j (⟨K3, N3, ts3⟩ : Tr))[i]'hi = us[i] := by rw [List.getElem_set]; exact if_neg (fun e => hij e.symm)
    rw [hset]
    obtain ⟨ao1, len1, cap1, x0, x1, x2, hr⟩ := hE i hi' (by omega)
    have hfar : ∀ o, o < 3 → Y.cell? ⟨g, i * 3 + o, none⟩ = w3.cell? ⟨g, i * 3 + o, none⟩ := fun o ho => (hYg _).trans (set3_far hg _ (by omega))
    refine ⟨ao1, len1, cap1, ?_, ?_, ?_, ?_⟩
    · exact (hfar 0 (by omega)).trans x0
    · exact (hfar 1 (by omega)).trans x1
    · exact (hfar 2 (by omega)).trans x2
    · have hk := hr.keep (w' := Y) fun x hx => hYo x (hgin i (by omega) x hx).1 (by have := (hgin i (by omega) x hx).2; omega)
      have hh := hk.hs (L := w.heap.size) (B := w3.heap.size) fun x hx => by have := (hgin i (by omega) x hx).2; omega
      exact hh.deeper hdD

end Go.Proofs.YtfjbgbnhjejchaaDoor
