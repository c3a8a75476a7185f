/-
  What the model's 'DrawCollect' comes to: some heap of few words, and some roots.
-/
import Derived.Test.YtkplfdckfbihcaaFhpDy6
namespace Go.Proofs.Ytkplfdckfbihcaa
open Go.RowKit
set_option linter.unusedVariables false
set_option linter.unusedSimpArgs false

theorem bts_below {w w' : World} {cao : Option Addr} {clen : Nat} (h : Bts w cao clen) (hb : Below w.heap.size w w') : Bts w' cao clen := by
  intro j hj
  obtain ⟨b, o, x, e, hbw, hx, r⟩ := h j hj
  have := hb.size
  exact ⟨b, o, x, e, by omega, (World.cell?_of_block (hb.block b hbw)).trans hx, r⟩
theorem bel_drw {w wr w1 : World} {p : Nat} {cao : Option Addr} {clen ccap : Nat} (hb : Below w.heap.size w wr) (hD : Drw wr w1 p cao clen ccap) (hp : w.heap.size ≤ p) : Below w.heap.size w w1 :=
  ⟨hD.grown.os.trans hb.os, hD.grown.tape.trans hb.tape, hD.grown.output.trans hb.output, Nat.le_trans hb.size hD.grown.size, fun i hi => (hD.grown.block i (Nat.lt_of_lt_of_le hi hb.size) (by simp; omega)).trans (hb.block i hi)⟩

def DcEnd (w : World) (e : Ending) (w' : World) : Prop :=
  ∃ s ao n cap l ar nr cr roots, e = .returned (.tuple #[vH s ao n cap, .slice ar nr cr]) ∧ Below w.heap.size w w' ∧ Wors w.heap.size w' (.slice ao n cap) l ∧ Wors w.heap.size w' (.slice ar nr cr) roots ∧ l.length ≤ 80 ∧ roots.length ≤ 5

set_option maxRecDepth 100000 in
set_option maxHeartbeats 4000000 in
theorem drawCollect_any (cao : Option Addr) (clen ccap : Nat) (w : World) (hb : Bts w cao clen) (hl : clen ≤ 1048576) :
    Calls Try.prog 11 #[.slice cao clen ccap] w fun e w' => DcEnd w e w' := by
  have hX : Below w.heap.size w (w.alloc (.cells #[.int .i64 0, .slice none 0 0] 26)) := (Below.refl _ _).alloc (Nat.le_refl _) _
  have hr0 : (w.alloc (.cells #[.int .i64 0, .slice none 0 0] 26)).heap[w.heap.size]? = some (.cells #[.int .i64 0, .slice none 0 0] 26 (0, 0)) := heap_new rfl
  go_enter Try.func11, Try.ntmps11
  go_wp2_with fail
  refine (l1New_any cao clen ccap _ (bts_below hb hX) hl).mono ?_
  rintro e w1 ⟨p, rfl, hb1, hpw, hc1⟩
  simp only [World.size_alloc] at hpw
  have hz1 := hb1.size
  simp only [World.size_alloc] at hz1
  have hr1 := (hb1.block _ (by simp)).trans hr0
  have hbw1 : Below w.heap.size w w1 := hX.trans (hb1.mono (by simp))
  clear hr0 hb1
  go_wp2_with fail
  refine (l1Size_any cao clen ccap 16 _ hl (by omega) (by omega)).mono ?_
  rintro e w2 ⟨x, rfl, hx0, hx1, hb2⟩
  have hc2 := hc1.below hb2
  have hz2 := hb2.size
  have hr2 := (hb2.block _ (by omega)).trans hr1
  have hbw2 : Below w.heap.size w w2 := hbw1.trans (hb2.mono (by omega))
  clear hr1 hbw1 hb2 hc1
  go_wp2_with fail
  refine (l12DrawAny_any p cao clen ccap x _ hc2 hx0 (by omega)).mono ?_
  rintro e w3 ⟨s, ao, n, cap, l, rfl, hD3, hW3, hl3⟩
  have hz3 := hD3.grown.size
  have hlt2 : w.heap.size < w2.heap.size := by omega
  have hr3 := (hD3.blk hlt2 (by omega)).trans hr2
  have hbw3 : Below w.heap.size w w3 := bel_drw hbw2 hD3 (by omega)
  have hA3 : Below w3.heap.size w3 (w3.alloc (.cells #[.int .i64 s, .slice ao n cap] 26)) := (Below.refl _ _).alloc (Nat.le_refl _) _
  obtain ⟨Y, hY⟩ : ∃ Y, Y = (w3.alloc (.cells #[.int .i64 s, .slice ao n cap] 26)) := ⟨_, rfl⟩
  rw [← hY] at hA3
  have hYs : Y.heap.size = w3.heap.size + 1 := by rw [hY]; simp
  have y0 : Y.heap[w3.heap.size]? = some (.cells #[.int .i64 s, .slice ao n cap] 26 (0, 0)) := by rw [hY]; exact heap_new rfl
  have hrY := (hA3.block _ (by omega)).trans hr3
  have hWY : Wors (w2.heap.size + 1) Y (.slice ao n cap) l := wors_bel hW3 hA3
  have hcY := hD3.cur.below hA3
  have hbwY : Below w.heap.size w Y := hbw3.trans (hA3.mono (by omega))
  have HY : Hid (Y = _) := hY
  obtain ⟨ao', cap', ev, hcap⟩ := wors_form hWY
  injection ev with ev1 ev2 ev3
  subst ev1 ev2 ev3
  have hws : Ws 0 Y.heap.size Y ao l.length l := (wors_is6 rfl (by omega) hWY).keep (fun _ _ _ => rfl) (Nat.zero_le _) (Nat.le_refl _)
  have KS := l12RootsAny_any p cao clen ccap s ao l.length cap l Y.drew (hcY.keep (fun _ _ => rfl)) hws.drew hl3
  obtain ⟨d0, d1⟩ := cells2 y0
  have hltY : w.heap.size < Y.heap.size := by omega
  have hRp : w.heap.size ≠ p := by omega
  have hp2 : p < w2.heap.size := hc2.lt
  have hHp : w3.heap.size ≠ p := by have := hD3.cur.lt; omega
  have hHY : w3.heap.size < Y.heap.size := by omega
  have hpl : w.heap.size + 1 ≤ p := hpw
  generalize hH : w3.heap.size = H at *
  have HH : Hid (w3.heap.size = H) := hH
  clear hY hW3 hr2 hr3 hbw2 hbw3 hA3 hD3 hc2 hH
  go_wp2_with fail
  rw [← HY.out, HH.out]
  go_region_law (go_simp; go_at_call 32; refine KS.mono ?_; rintro e w4 ⟨ar, nr, cr, roots, rfl, hD4, hW4, hl4⟩; have hr4 := (hD4.blk hltY hRp).trans hrY; have y4 := (hD4.blk (k := H) hHY hHp).trans y0; obtain ⟨e0, e1⟩ := cells2 y4; obtain ⟨r0, r1⟩ := cells2 hr4; have r2 := row_free hr4)
  all_goals
    have hDY4 : Drw Y w4 p cao clen ccap := ⟨⟨hD4.grown.os, hD4.grown.tape, hD4.grown.output, hD4.grown.size, hD4.grown.block⟩, hD4.cur⟩
    have hb4 : Below w.heap.size w w4 := bel_drw hbwY hDY4 (by omega)
    have hW4' : Wors (w2.heap.size + 1) w4 (.slice ao l.length cap) l := wors_keep hWY fun g hg => hDY4.blk (wors_own hWY hg).2 (by have := wors_own hWY hg; omega)
    have hz4 := hD4.grown.size
    have hK : ∀ Z, Z = (w4.setCell ⟨w.heap.size, 0, none⟩ (.int .i64 s)).setCell ⟨w.heap.size, 1, none⟩ (.slice ao l.length cap) → DcEnd w (.returned (.tuple #[vH s ao l.length cap, .slice ar nr cr])) Z := by
      rintro Z rfl
      refine ⟨s, ao, l.length, cap, l, ar, nr, cr, roots, rfl, (hb4.setCell (p := ⟨w.heap.size, 0, none⟩) (Nat.le_refl _) _).setCell (p := ⟨w.heap.size, 1, none⟩) (Nat.le_refl _) _, wors_le (wors_keep hW4' fun g hg => ?_) (by omega), wors_le (wors_keep hW4 fun g hg => ?_) (by show w.heap.size ≤ Y.heap.size; omega), hl3, hl4⟩
      · have := (wors_own hW4' hg).1
        exact (row_other _ _ _ (by show g ≠ w.heap.size; omega)).trans (row_other _ _ _ (by show g ≠ w.heap.size; omega))
      · have h5 : Y.heap.size ≤ g := (wors_own hW4 hg).1
        exact (row_other _ _ _ (by show g ≠ w.heap.size; omega)).trans (row_other _ _ _ (by show g ≠ w.heap.size; omega))
    have HK : Hid (DcEnd w _ _) := hK _ rfl
    clear hK hW4' hW4 hb4 hDY4 hD4 hWY
    go_wp2_with fail
    refine bodyPost_ret (v := .tuple #[vH s ao l.length cap, .slice ar nr cr]) (by simp [results, Try.results11, go_sem, r0, r1]) rfl HK.out

end Go.Proofs.Ytkplfdckfbihcaa
