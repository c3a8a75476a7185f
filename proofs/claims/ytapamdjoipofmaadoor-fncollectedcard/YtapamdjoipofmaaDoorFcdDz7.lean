/-
  What the model's 'DrawHeap' comes to: some right heap of few words, and some right roots.
-/
import Derived.Test.YtapamdjoipofmaaDoorFcdDz4
namespace Go.Proofs.YtapamdjoipofmaaDoor
open Go.RowKit
set_option linter.unusedVariables false
set_option linter.unusedSimpArgs false

theorem bts_belowR {w w' : World} {cao : Option Addr} {clen : Nat} (h : Bts w cao clen) (hb : Below w.heap.size w w') : Bts w' cao clen := by
  intro j hj
  obtain ⟨b, o, x, e, hbw, hx, r⟩ := h j hj
  have := hb.size
  exact ⟨b, o, x, e, by omega, (World.cell?_of_block (hb.block b hbw)).trans hx, r⟩
theorem bel_drwR {w wr w1 : World} {p : Nat} {cao : Option Addr} {clen ccap : Nat} (hb : Below w.heap.size w wr) (hD : Drw wr w1 p cao clen ccap) (hp : w.heap.size ≤ p) : Below w.heap.size w w1 :=
  ⟨hD.grown.os.trans hb.os, hD.grown.tape.trans hb.tape, hD.grown.output.trans hb.output, Nat.le_trans hb.size hD.grown.size, fun i hi => (hD.grown.block i (Nat.lt_of_lt_of_le hi hb.size) (by simp; omega)).trans (hb.block i hi)⟩

def DhEnd (w : World) (e : Ending) (w' : World) : Prop :=
  ∃ s ao n cap l ar nr cr roots, e = .returned (.tuple #[vH s ao n cap, .slice ar nr cr]) ∧ Below w.heap.size w w' ∧ Wors w.heap.size w' (.slice ao n cap) l ∧ Wors w.heap.size w' (.slice ar nr cr) roots ∧ l.length ≤ 80 ∧ roots.length ≤ 3 ∧ okH s l = true ∧ roots.all (rgt (heads l)) = true

/-- What the drawing of roots has in memory. -/
structure DhS (w w2 wr : World) (p : Nat) (cao : Option Addr) (clen ccap H : Nat) (s : Int) (ao : Option Addr) (cap : Nat) (l : List Wrd) : Prop where
  bel : Below w.heap.size w wr
  cur : Cur wr p cao clen ccap
  lo : w.heap.size < p
  res : wr.heap[w.heap.size]? = some (.cells #[.int .i64 0, .slice none 0 0] 26 (0, 0))
  hH : p < H
  box : wr.heap[H]? = some (.cells #[.int .i64 s, .slice ao l.length cap] 26 (0, 0))
  row : Wors (p + 1) wr (.slice ao l.length cap) l
theorem DhS.lt {w w2 wr : World} {p : Nat} {cao : Option Addr} {clen ccap H : Nat} {s : Int} {ao : Option Addr} {cap : Nat} {l : List Wrd} (h : DhS w w2 wr p cao clen ccap H s ao cap l) : H < wr.heap.size := (Array.getElem?_eq_some_iff.1 h.box).1
theorem DhS.draw {w w2 wr w1 : World} {p : Nat} {cao : Option Addr} {clen ccap H : Nat} {s : Int} {ao : Option Addr} {cap : Nat} {l : List Wrd} (h : DhS w w2 wr p cao clen ccap H s ao cap l) (hD : Drw wr w1 p cao clen ccap) : DhS w w2 w1 p cao clen ccap H s ao cap l := by
  have h1 := h.lo
  have h2 := h.hH
  have h3 := h.lt
  refine ⟨bel_drwR h.bel hD (by omega), hD.cur, h.lo, (hD.blk (by omega) (by omega)).trans h.res, h.hH, (hD.blk (by omega) (by omega)).trans h.box, wors_keep h.row fun g hg => ?_⟩
  have := wors_own h.row hg
  exact hD.blk this.2 (by omega)
theorem DhS.below {w w2 wr w1 : World} {p : Nat} {cao : Option Addr} {clen ccap H : Nat} {s : Int} {ao : Option Addr} {cap : Nat} {l : List Wrd} (h : DhS w w2 wr p cao clen ccap H s ao cap l) (hb : Below wr.heap.size wr w1) : DhS w w2 w1 p cao clen ccap H s ao cap l := h.draw (drw_below h.cur hb)
theorem DhS.upto {w w2 wr w1 : World} {p : Nat} {cao : Option Addr} {clen ccap H : Nat} {s : Int} {ao : Option Addr} {cap : Nat} {l : List Wrd} (h : DhS w w2 wr p cao clen ccap H s ao cap l) {B : Nat} (hb : Below B wr w1) (hB : H < B) (hv : ∀ q, (Value.slice ao l.length cap).ownBlock = some q → q < B) : DhS w w2 w1 p cao clen ccap H s ao cap l := by
  have h1 := h.lo
  have h2 := h.hH
  exact ⟨h.bel.trans (hb.mono (by omega)), h.cur.keep fun k hk => hb.block k (by omega), h.lo, (hb.block _ (by omega)).trans h.res, h.hH, (hb.block _ hB).trans h.box, wors_keep h.row fun g hg => hb.block g (hv g hg)⟩

set_option maxRecDepth 100000 in
set_option maxHeartbeats 4000000 in
theorem drawHeap_any (cao : Option Addr) (clen ccap : Nat) (w : World) (hb : Bts w cao clen) (hl : clen ≤ 1048576) :
    Calls Tryd.prog 5 #[.slice cao clen ccap] w fun e w' => DhEnd w e w' := by
  have hX : Below w.heap.size w (w.alloc (.cells #[.int .i64 0, .slice none 0 0] 26)) := (Below.refl _ _).alloc (Nat.le_refl _) _
  have hr0 : (w.alloc (.cells #[.int .i64 0, .slice none 0 0] 26)).heap[w.heap.size]? = some (.cells #[.int .i64 0, .slice none 0 0] 26 (0, 0)) := heap_new rfl
  go_enter Tryd.func5, Tryd.ntmps5
  go_wp2_with fail
  refine (l1New_any cao clen ccap _ (bts_belowR hb hX) hl).mono ?_
  rintro e w1 ⟨p, rfl, hb1, hpw, hc1⟩
  simp only [World.size_alloc] at hpw
  have hz1 := hb1.size
  simp only [World.size_alloc] at hz1
  have hr1 := (hb1.block _ (by simp)).trans hr0
  have hbw1 : Below w.heap.size w w1 := hX.trans (hb1.mono (by simp))
  clear hr0 hb1
  go_wp2_with fail
  refine (l1Size_any cao clen ccap 20 _ hl (by omega) (by omega)).mono ?_
  rintro e w2 ⟨x, rfl, hx0, hx1, hb2⟩
  have hc2 := hc1.below hb2
  have hz2 := hb2.size
  have hp2 := hc2.lt
  have hr2 := (hb2.block _ (by omega)).trans hr1
  have hbw2 : Below w.heap.size w w2 := hbw1.trans (hb2.mono (by omega))
  clear hr1 hbw1 hb2 hc1
  go_wp2_with fail
  refine (l12Draw_rgt p cao clen ccap x _ hc2 hx0 (by omega)).mono ?_
  rintro e w3 ⟨s, ao, n, cap, l, rfl, hD3, hW3, hl3, hok⟩
  obtain ⟨ao', cap', ev, hcap⟩ := wors_form hW3
  injection ev with ev1 ev2 ev3
  subst ev1 ev2 ev3
  have hz3 := hD3.grown.size
  have hA3 : Below w3.heap.size w3 (w3.alloc (.cells #[.int .i64 s, .slice ao l.length cap] 26)) := (Below.refl _ _).alloc (Nat.le_refl _) _
  have hS3 : DhS w w2 (w3.alloc (.cells #[.int .i64 s, .slice ao l.length cap] 26)) p cao clen ccap w3.heap.size s ao cap l := by
    refine ⟨(bel_drwR hbw2 hD3 (by omega)).trans (hA3.mono (by have := hbw2.size; omega)), hD3.cur.below hA3, by omega, (hA3.block _ (by omega)).trans ((hD3.blk (by omega) (by omega)).trans hr2), by omega, heap_new rfl, wors_le (wors_bel hW3 hA3) (by omega)⟩
  have HL80 : Hid (l.length ≤ 80) := hl3
  have HOK : Hid (okH s l = true) := hok
  have hws3 : Ws 0 (w3.heap.size + 1) (w3.alloc (.cells #[.int .i64 s, .slice ao l.length cap] 26)) ao l.length l := (wors_is6 rfl (by omega) hS3.row).keep (fun _ _ _ => rfl) (Nat.zero_le _) (by simp)
  obtain ⟨b0, b1⟩ := cells2 hS3.box
  clear hW3 hD3 hl3 hok hr2 hbw2 hA3
  go_wp2_with fail
  refine (l12Heads_any 0 (w3.heap.size + 1) ao l.length cap l _ (by simp) hws3 (by have := HL80.out; omega)).mono ?_
  rintro e w4 ⟨rfl, hb4, hbr4⟩
  have hS4 := hS3.below hb4
  simp only [World.size_alloc] at hbr4 ⊢
  generalize hH : w3.heap.size = H at *
  clear hS3 hb4 hws3 b0 b1 hH
  have hg4 := hbr4.lt
  have hH4 := hS4.lt
  have hpH := hS4.hH
  have hwp := hS4.lo
  obtain ⟨Y, hY⟩ : ∃ Y, Y = w4.alloc (.cells #[] 34) := ⟨_, rfl⟩
  have hYb : Below w4.heap.size w4 Y := by rw [hY]; exact (Below.refl _ _).alloc (Nat.le_refl _) _
  have hYs : Y.heap.size = w4.heap.size + 1 := by rw [hY]; simp
  have hW0 : Wors w4.heap.size Y (.slice (some ⟨w4.heap.size, 0, none⟩) 0 0) [] := wors_emp (by rw [hY]; exact heap_new rfl) (Nat.le_refl _)
  have hSY := hS4.below hYb
  have hbrY : BRow Y (H + 1) (heads l) := hbr4.bel hYb hg4
  have hown : ∀ q, (Value.slice ao l.length cap).ownBlock = some q → q < w4.heap.size := fun q hq => (wors_own hS4.row hq).2
  have HY : Hid (Y = _) := hY
  clear hY
  go_wp2_with fail
  rw [← HY.out]
  refine (l1Below_any p cao clen ccap 3 _ hSY.cur (by omega) (by omega)).mono ?_
  rintro e w5 ⟨j0, rfl, hj0, hj1, hD5⟩
  obtain ⟨jn, hjn⟩ : ∃ jn : Nat, j0 = jn := ⟨j0.toNat, by omega⟩
  subst hjn
  have hjn3 : jn + 1 ≤ 3 := by omega
  have hS5 := hSY.draw hD5
  have hz5 := hD5.grown.size
  have hbr5 : BRow w5 (H + 1) (heads l) := (hD5.blk (by omega) (by omega)).trans hbrY
  have hW5 : Wors w4.heap.size w5 (.slice (some ⟨w4.heap.size, 0, none⟩) 0 0) [] := wors_keep hW0 fun g hg => by have := wors_own hW0 hg; exact hD5.blk this.2 (by omega)
  have hone : (1 : Int) + (jn : Int) = ((jn + 1 : Nat) : Int) := by omega
  generalize hG : w4.heap.size = G at *
  have HG : Hid (w4.heap.size = G) := hG
  clear hW0 hbrY hSY hD5 hYb hS4 hbr4 HY hG
  go_wp2_with fail
  go_loopw [8, 9] (fun v i wr => ∃ (k m : Nat) (af : Option Addr) (cf : Nat) (F : List Wrd), i = .int .i64 k ∧ v = .slice af m cf ∧ m + k ≤ 3 ∧ Hid (m = F.length) ∧ Hid (F.all (rgt (heads l)) = true) ∧ DhS w w2 wr p cao clen ccap H s ao cap l ∧ BRow wr (H + 1) (heads l) ∧ Wors G wr (.slice af m cf) F ∧ G ≤ wr.heap.size) (fun _ i _ => (intOf i).toNat)
  case atStart => exact ⟨jn + 1, 0, _, _, [], by go_num, rfl, by omega, rfl, rfl, hS5, hbr5, hW5, by omega⟩
  case round =>
    clear hS5 hbr5 hW5
    obtain ⟨k, m, af, cf, F, rfl, rfl, hmk, HN, HRF, hSr, hbr, hW, hGr⟩ := hrel
    have hgr := hbr.lt
    by_cases hk0 : 0 < k
    · go_wp2_with fail
      refine (l12Some_rgt p cao clen ccap (H + 1) l.length l.length (heads l) _ hSr.cur hbr (by omega) (heads_len l).symm (by have := HL80.out; omega)).mono ?_
      rintro e w6 ⟨y, rfl, hyr, hD6⟩
      have hz6 := hD6.grown.size
      have hW6 : Wors G w6 (.slice af m cf) F := wors_keep hW fun g hg => by have := wors_own hW hg; exact hD6.blk this.2 (by omega)
      have hS6 := hSr.draw hD6
      have hb6 : BRow w6 (H + 1) (heads l) := (hD6.blk hgr (by omega)).trans hbr
      obtain ⟨a2, c2, w7, hrun, hW7, hb7⟩ := wors_push hW6 (by omega) (by have := HN.out; omega) y
      rw [← HN.out] at hrun hW7
      have HR : Hid (_ = _) := hrun
      have hz7 := hb7.size
      have hS7 := hS6.upto hb7 (by omega) hown
      have hb7' : BRow w7 (H + 1) (heads l) := hb6.bel hb7 (by omega)
      have HN7 : Hid (m + 1 = (F ++ [y]).length) := by show _ = _; have := HN.out; simp; omega
      have HRF7 : Hid ((F ++ [y]).all (rgt (heads l)) = true) := by show _ = _; rw [List.all_append, HRF.out]; simp [hyr]
      clear hrun hW6 hb6 hD6 hb7 hW hbr hSr hS6 hyr
      go_wp2_with (at_builtin; refine list_run HR.out (by rfl) _ _ (by rfl) (by rfl) (by rfl) (by rfl) ?_)
      go_roundw
      case rel => exact ⟨k - 1, m + 1, _, _, _, by go_num, rfl, by omega, HN7, HRF7, hS7, hb7', hW7, by omega⟩
      case measure => simp [intOf]; omega
    · obtain rfl : k = 0 := by omega
      obtain ⟨b0, b1⟩ := cells2 hSr.box
      obtain ⟨r0, r1⟩ := cells2 hSr.res
      have r2 := row_free hSr.res
      have hbel := hSr.bel
      have hK : ∀ Z, Z = (wr.setCell ⟨w.heap.size, 0, none⟩ (.int .i64 s)).setCell ⟨w.heap.size, 1, none⟩ (.slice ao l.length cap) → DhEnd w (.returned (.tuple #[vH s ao l.length cap, .slice af m cf])) Z := by
        rintro Z rfl
        refine ⟨s, ao, l.length, cap, l, af, m, cf, F, rfl, (hbel.setCell (p := ⟨w.heap.size, 0, none⟩) (Nat.le_refl _) _).setCell (p := ⟨w.heap.size, 1, none⟩) (Nat.le_refl _) _, wors_le (wors_keep hSr.row fun g hg => ?_) (by omega), wors_le (wors_keep hW fun g hg => ?_) (by omega), HL80.out, by have := HN.out; omega, HOK.out, HRF.out⟩
        · have := (wors_own hSr.row hg).1
          exact (row_other _ _ _ (by show g ≠ w.heap.size; omega)).trans (row_other _ _ _ (by show g ≠ w.heap.size; omega))
        · have := (wors_own hW hg).1
          exact (row_other _ _ _ (by show g ≠ w.heap.size; omega)).trans (row_other _ _ _ (by show g ≠ w.heap.size; omega))
      have HKK : Hid (DhEnd w _ _) := hK _ rfl
      clear hK hW hSr hbr hbel
      go_wp2_with fail
      refine bodyPost_ret (v := .tuple #[vH s ao l.length cap, .slice af m cf]) (by simp [results, Tryd.results5, go_sem, r0, r1]) rfl HKK.out

end Go.Proofs.YtapamdjoipofmaaDoor
