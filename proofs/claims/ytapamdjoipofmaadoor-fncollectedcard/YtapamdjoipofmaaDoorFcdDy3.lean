/-
  What a drawing of a heap has in memory, and how that goes on: no walk but 'HeapNew' of the model.
-/
import Derived.Test.YtapamdjoipofmaaDoorFcdZ36
import Derived.Test.YtapamdjoipofmaaDoorFcdSa
namespace Go.Proofs.YtapamdjoipofmaaDoor
open Go.RowKit
set_option linter.unusedVariables false
set_option linter.unusedSimpArgs false

def hnw (n : Int) : Int := if sizeB n then n else 0

set_option maxHeartbeats 400000 in
theorem sHnw_any (n : Int) (w : World) : Calls Tryd.prog 25 #[.int .i64 n] w fun e w' => e = .returned (vH (hnw n) none 0 0) ∧ Below w.heap.size w w' := by
  have HH : Hid (hnw n = if sizeB n then n else 0) := rfl
  obtain ⟨r, hr⟩ : ∃ r, hnw n = r := ⟨_, rfl⟩
  rw [hr] at HH ⊢
  clear hr
  have K := l1In_all n 0 5000 (w.alloc (.cells #[.int .i64 0, .slice none 0 0] 26))
  rw [show (decide (0 ≤ n) && decide (n ≤ 5000)) = sizeB n from rfl] at K
  cases hc : sizeB n with
  | true =>
    rw [hc] at K HH
    obtain rfl : r = n := HH
    go_enter Tryd.func25, Tryd.ntmps25
    go_wp2_with fail
    refine K.mono ?_
    rintro e w1 ⟨rfl, rfl⟩
    clear K
    go_wp2_with fail
    refine bodyPost_ret (v := vH r none 0 0) (by simp [results, Tryd.results25, go_sem]) rfl ⟨rfl, ?_⟩
    exact (Below.refl _ _).alloc (Nat.le_refl _) _
  | false =>
    rw [hc] at K HH
    obtain rfl : r = 0 := HH
    go_enter Tryd.func25, Tryd.ntmps25
    go_wp2_with fail
    refine K.mono ?_
    rintro e w1 ⟨rfl, rfl⟩
    clear K
    go_wp2_with fail
    refine bodyPost_ret (v := vH 0 none 0 0) (by simp [results, Tryd.results25, go_sem]) rfl ⟨rfl, ?_⟩
    exact (Below.refl _ _).alloc (Nat.le_refl _) _

/-- One word behind a row of one's own. -/
theorem wors_push {base : Nat} {w1 : World} {v : Value} {P : List Wrd} (h : Wors base w1 v P) (hb : base ≤ w1.heap.size) (hl : P.length ≤ 1000000) (x : Wrd) :
    ∃ ao2 cap w2, (Builtin.append_ #[24, 24] 24 #[v, .slice (some ⟨w1.heap.size, 0, none⟩) 1 1]).run Tryd.prog (w1.alloc (.cells #[.int .i64 x.K, .int .i64 x.N] 34)) = .ok (.slice ao2 (P.length + 1) cap) w2 ∧
      Wors base w2 (.slice ao2 (P.length + 1) cap) (P ++ [x]) ∧ Below base w1 w2 := by
  have hA : Below w1.heap.size w1 (w1.alloc (.cells #[.int .i64 x.K, .int .i64 x.N] 34)) := (Below.refl _ _).alloc (Nat.le_refl _) _
  have hrow : (w1.alloc (.cells #[.int .i64 x.K, .int .i64 x.N] 34)).heap[w1.heap.size]? = some (.cells #[.int .i64 x.K, .int .i64 x.N] 34 (0, 0)) := heap_new rfl
  have hs : Ws 0 (w1.heap.size + 1) (w1.alloc (.cells #[.int .i64 x.K, .int .i64 x.N] 34)) (some ⟨w1.heap.size, 0, none⟩) 1 [x] := by
    refine ⟨rfl, by omega, fun i hi => ?_⟩
    have e : i = 0 := by simpa using hi
    subst e
    exact ⟨w1.heap.size, 0, rfl, by omega, by omega, ⟨by simp, by simp⟩⟩
  obtain ⟨ao2, cap, w2, h1, h2, h3, h4⟩ := wors_app2 (wors_bel h hA) (by simp; omega) 1 hs (by omega)
  refine ⟨ao2, cap, w2, h1, h2, ⟨h3.os.trans hA.os, h3.tape.trans hA.tape, h3.output.trans hA.output, Nat.le_trans hA.size h3.size, fun q hq => ?_⟩⟩
  refine (h3.block q (by simp; omega) (fun e => ?_)).trans (hA.block q (by omega))
  have := (wors_own h e.symm).1
  omega

/-- What a drawing of a heap has in memory: its result's block is as it was made; the heap's own block H has a size and a row of words, which lies elsewhere. -/
structure DwS (w wr : World) (p : Nat) (cao : Option Addr) (clen ccap : Nat) (H : Nat) (s : Int) (v : Value) (l : List Wrd) : Prop where
  drw : Drw w wr p cao clen ccap
  lo : p < w.heap.size
  res : wr.heap[w.heap.size]? = some (.cells #[.int .i64 0, .slice none 0 0] 26 (0, 0))
  hH : w.heap.size < H
  box : wr.heap[H]? = some (.cells #[.int .i64 s, v] 26 (0, 0))
  row : Wors (w.heap.size + 1) wr v l
  ne : ∀ g, v.ownBlock = some g → g ≠ H

theorem DwS.lt {w wr : World} {p : Nat} {cao : Option Addr} {clen ccap H : Nat} {s : Int} {v : Value} {l : List Wrd} (h : DwS w wr p cao clen ccap H s v l) : H < wr.heap.size := (Array.getElem?_eq_some_iff.1 h.box).1
theorem DwS.draw {w wr w1 : World} {p : Nat} {cao : Option Addr} {clen ccap H : Nat} {s : Int} {v : Value} {l : List Wrd} (h : DwS w wr p cao clen ccap H s v l) (hD : Drw wr w1 p cao clen ccap) : DwS w w1 p cao clen ccap H s v l := by
  have h1 := h.lo
  have h2 := h.hH
  have h3 := h.lt
  refine ⟨h.drw.trans hD, h.lo, (hD.blk (by omega) (by omega)).trans h.res, h.hH, (hD.blk (by omega) (by omega)).trans h.box, wors_keep h.row fun g hg => ?_, h.ne⟩
  have := wors_own h.row hg
  exact hD.blk this.2 (by omega)
theorem DwS.below {w wr w1 : World} {p : Nat} {cao : Option Addr} {clen ccap H : Nat} {s : Int} {v : Value} {l : List Wrd} (h : DwS w wr p cao clen ccap H s v l) (hb : Below wr.heap.size wr w1) : DwS w w1 p cao clen ccap H s v l :=
  h.draw (drw_below h.drw.cur hb)
/-- All from a block on may change, behind what it has. -/
theorem DwS.upto {w wr w1 : World} {p : Nat} {cao : Option Addr} {clen ccap H : Nat} {s : Int} {v : Value} {l : List Wrd} (h : DwS w wr p cao clen ccap H s v l) {B : Nat} (hb : Below B wr w1) (hB : H < B) (hv : ∀ q, v.ownBlock = some q → q < B) : DwS w w1 p cao clen ccap H s v l := by
  have h1 := h.lo
  have h2 := h.hH
  exact ⟨⟨⟨hb.os.trans h.drw.grown.os, hb.tape.trans h.drw.grown.tape, hb.output.trans h.drw.grown.output, Nat.le_trans h.drw.grown.size hb.size, fun k hk hne => (hb.block k (by omega)).trans (h.drw.grown.block k hk hne)⟩, h.drw.cur.keep fun k hk => hb.block k (by omega)⟩, h.lo, (hb.block _ (by omega)).trans h.res, h.hH, (hb.block _ hB).trans h.box, wors_keep h.row fun g hg => hb.block g (hv g hg), h.ne⟩
/-- Another heap is laid into the heap's block. -/
theorem DwS.lay {w wr : World} {p : Nat} {cao : Option Addr} {clen ccap H : Nat} {s : Int} {v : Value} {l : List Wrd} (h : DwS w wr p cao clen ccap H s v l) (s' : Int) (v' : Value) (l' : List Wrd) (hw : Wors (w.heap.size + 1) wr v' l') (hne : ∀ g, v'.ownBlock = some g → g ≠ H) :
    DwS w ((wr.setCell ⟨H, 0, none⟩ (.int .i64 s')).setCell ⟨H, 1, none⟩ v') p cao clen ccap H s' v' l' := by
  have h1 := h.lo
  have h2 := h.hH
  refine ⟨drw_set (drw_set h.drw _ _ _ (by omega) h.lo) _ _ _ (by omega) h.lo, h.lo, (row_other _ _ _ (by show _ ≠ H; omega)).trans ((row_other _ _ _ (by show _ ≠ H; omega)).trans h.res), h.hH, ?_, wors_keep hw fun g hg => ?_, hne⟩
  · have := row_set (row_set h.box 0 (.int .i64 s')) 1 v'
    rw [this]
    simp
  · have := hne g hg
    exact (row_other _ _ _ (by show g ≠ H; omega)).trans (row_other _ _ _ (by show g ≠ H; omega))
/-- A word of it is set. -/
theorem DwS.put {w wr : World} {p : Nat} {cao : Option Addr} {clen ccap H : Nat} {s : Int} {g n cap : Nat} {l : List Wrd} (h : DwS w wr p cao clen ccap H s (.slice (some ⟨g, 0, none⟩) n cap) l) (j : Nat) (hj : j < l.length) (x : Wrd) :
    DwS w ((wr.setCell ⟨g, j * 2, none⟩ (.int .i64 x.K)).setCell ⟨g, j * 2 + 1, none⟩ (.int .i64 x.N)) p cao clen ccap H s (.slice (some ⟨g, 0, none⟩) n cap) (l.set j x) := by
  have h1 := h.lo
  have h2 := h.hH
  have h3 := (wors_own h.row (g := g) rfl).1
  have h4 := h.ne g rfl
  obtain ⟨q1, q2⟩ := wors_put h.row j hj x _ rfl
  refine ⟨drw_set (drw_set h.drw _ _ _ (by omega) h.lo) _ _ _ (by omega) h.lo, h.lo, (row_other _ _ _ (by show _ ≠ g; omega)).trans ((row_other _ _ _ (by show _ ≠ g; omega)).trans h.res), h.hH, ?_, q1, h.ne⟩
  exact (row_other _ _ _ (by show _ ≠ g; omega)).trans ((row_other _ _ _ (by show _ ≠ g; omega)).trans h.box)
theorem wors_two {base : Nat} {w : World} {g n cap : Nat} {P : List Wrd} (h : Wors base w (.slice (some ⟨g, 0, none⟩) n cap) P) (j : Nat) (hj : j < P.length) : w.cell? ⟨g, j * 2, none⟩ = some (.int .i64 P[j].K) ∧ w.cell? ⟨g, j * 2 + 1, none⟩ = some (.int .i64 P[j].N) := by
  obtain ⟨g', cap', e, _, _, h3, _⟩ := wors_at h j hj
  injection e with e1 e2 e3
  injection e1 with e1
  injection e1 with e1
  subst e1
  have h4 := h3.c0
  have h5 := h3.c1
  rw [Nat.zero_add] at h4 h5
  exact ⟨h4, h5⟩
theorem DwS.drew {w wr : World} {p : Nat} {cao : Option Addr} {clen ccap H : Nat} {s : Int} {v : Value} {l : List Wrd} (h : DwS w wr p cao clen ccap H s v l) : DwS w wr.drew p cao clen ccap H s v l :=
  h.draw ⟨⟨rfl, rfl, rfl, Nat.le_refl _, fun _ _ _ => rfl⟩, h.drw.cur.keep (fun _ _ => rfl)⟩
/-- The size of it is set. -/
theorem DwS.size {w wr : World} {p : Nat} {cao : Option Addr} {clen ccap H : Nat} {s : Int} {v : Value} {l : List Wrd} (h : DwS w wr p cao clen ccap H s v l) (s' : Int) :
    DwS w (wr.setCell ⟨H, 0, none⟩ (.int .i64 s')) p cao clen ccap H s' v l := by
  have h1 := h.lo
  have h2 := h.hH
  refine ⟨drw_set h.drw _ _ _ (by omega) h.lo, h.lo, (row_other _ _ _ (by show _ ≠ H; omega)).trans h.res, h.hH, ?_, wors_keep h.row fun g hg => ?_, h.ne⟩
  · have := row_set h.box 0 (.int .i64 s')
    rw [this]
    simp
  · exact row_other _ _ _ (h.ne g hg)
/-- The end: the heap is laid into the result's block. -/
theorem DwS.fin {w wr : World} {p : Nat} {cao : Option Addr} {clen ccap H : Nat} {s : Int} {v : Value} {l : List Wrd} (h : DwS w wr p cao clen ccap H s v l) :
    Drw w ((wr.setCell ⟨w.heap.size, 0, none⟩ (.int .i64 s)).setCell ⟨w.heap.size, 1, none⟩ v) p cao clen ccap ∧ Wors (w.heap.size + 1) ((wr.setCell ⟨w.heap.size, 0, none⟩ (.int .i64 s)).setCell ⟨w.heap.size, 1, none⟩ v) v l := by
  have h2 := h.hH
  refine ⟨drw_set (drw_set h.drw _ _ _ (by omega) h.lo) _ _ _ (by omega) h.lo, wors_keep h.row fun g hg => ?_⟩
  have := (wors_own h.row hg).1
  exact (row_other _ _ _ (by show g ≠ w.heap.size; omega)).trans (row_other _ _ _ (by show g ≠ w.heap.size; omega))
/-- Its words as a slice that is read. -/
theorem DwS.ws {w wr : World} {p : Nat} {cao : Option Addr} {clen ccap H : Nat} {s : Int} {ao : Option Addr} {n cap : Nat} {l : List Wrd} (h : DwS w wr p cao clen ccap H s (.slice ao n cap) l) (hl : l.length ≤ 1000) : n = l.length ∧ n ≤ cap ∧ Ws 0 wr.heap.size wr ao n l := by
  obtain ⟨a, c, e, h1, h2⟩ := wors_is h.row (by omega)
  injection e with e1 e2 e3
  subst e1 e2 e3
  exact ⟨rfl, h1, h2.keep (fun _ _ _ => rfl) (Nat.zero_le _) (Nat.le_refl _)⟩

/-- The beginning. -/
theorem DwS.start {w w1 : World} {p : Nat} {cao : Option Addr} {clen ccap : Nat} (hD : Drw w w1 p cao clen ccap) (hp : p < w.heap.size) (hr : w1.heap[w.heap.size]? = some (.cells #[.int .i64 0, .slice none 0 0] 26 (0, 0))) (s : Int) (v : Value) (l : List Wrd) (hw : Wors (w.heap.size + 1) w1 v l) :
    DwS w (w1.alloc (.cells #[.int .i64 s, v] 26)) p cao clen ccap w1.heap.size s v l := by
  have hlt : w.heap.size < w1.heap.size := (Array.getElem?_eq_some_iff.1 hr).1
  have hA : Below w1.heap.size w1 (w1.alloc (.cells #[.int .i64 s, v] 26)) := (Below.refl _ _).alloc (Nat.le_refl _) _
  exact ⟨hD.trans (drw_below hD.cur hA), hp, (hA.block _ hlt).trans hr, hlt, heap_new rfl, wors_bel hw hA, fun g hg => by have := (wors_own hw hg).2; omega⟩

end Go.Proofs.YtapamdjoipofmaaDoor
