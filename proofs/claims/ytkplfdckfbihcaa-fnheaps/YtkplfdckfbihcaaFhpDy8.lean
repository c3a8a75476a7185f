/-
  What the model's 'DrawAlloc' comes to: some heap of few words, some head, and some fields.
-/
import Derived.Test.YtkplfdckfbihcaaFhpDy7
namespace Go.Proofs.Ytkplfdckfbihcaa
open Go.RowKit
set_option linter.unusedVariables false
set_option linter.unusedSimpArgs false

/-- A heap in a block H of its own, its row elsewhere, both behind a world w. -/
structure DaS (w wr : World) (p : Nat) (cao : Option Addr) (clen ccap : Nat) (H : Nat) (s : Int) (v : Value) (l : List Wrd) : Prop where
  drw : Drw w wr p cao clen ccap
  lo : p < w.heap.size
  hH : w.heap.size ≤ H
  box : wr.heap[H]? = some (.cells #[.int .i64 s, v] 26 (0, 0))
  row : Wors w.heap.size wr v l
theorem DaS.lt {w wr : World} {p : Nat} {cao : Option Addr} {clen ccap H : Nat} {s : Int} {v : Value} {l : List Wrd} (h : DaS w wr p cao clen ccap H s v l) : H < wr.heap.size := (Array.getElem?_eq_some_iff.1 h.box).1
theorem DaS.draw {w wr w1 : World} {p : Nat} {cao : Option Addr} {clen ccap H : Nat} {s : Int} {v : Value} {l : List Wrd} (h : DaS w wr p cao clen ccap H s v l) (hD : Drw wr w1 p cao clen ccap) : DaS w w1 p cao clen ccap H s v l := by
  have h1 := h.lo
  have h2 := h.hH
  have h3 := h.lt
  refine ⟨h.drw.trans hD, h.lo, h.hH, (hD.blk (by omega) (by omega)).trans h.box, wors_keep h.row fun g hg => ?_⟩
  have := wors_own h.row hg
  exact hD.blk this.2 (by omega)
theorem DaS.below {w wr w1 : World} {p : Nat} {cao : Option Addr} {clen ccap H : Nat} {s : Int} {v : Value} {l : List Wrd} (h : DaS w wr p cao clen ccap H s v l) (hb : Below wr.heap.size wr w1) : DaS w w1 p cao clen ccap H s v l :=
  h.draw (drw_below h.drw.cur hb)
theorem DaS.upto {w wr w1 : World} {p : Nat} {cao : Option Addr} {clen ccap H : Nat} {s : Int} {v : Value} {l : List Wrd} (h : DaS w wr p cao clen ccap H s v l) {B : Nat} (hb : Below B wr w1) (hB : H < B) (hv : ∀ q, v.ownBlock = some q → q < B) : DaS w w1 p cao clen ccap H s v l := by
  have h1 := h.lo
  have h2 := h.hH
  exact ⟨⟨⟨hb.os.trans h.drw.grown.os, hb.tape.trans h.drw.grown.tape, hb.output.trans h.drw.grown.output, Nat.le_trans h.drw.grown.size hb.size, fun k hk hne => (hb.block k (by omega)).trans (h.drw.grown.block k hk hne)⟩, h.drw.cur.keep fun k hk => hb.block k (by omega)⟩, h.lo, h.hH, (hb.block _ hB).trans h.box, wors_keep h.row fun g hg => hb.block g (hv g hg)⟩
theorem DaS.ws {w wr : World} {p : Nat} {cao : Option Addr} {clen ccap H : Nat} {s : Int} {ao : Option Addr} {cap : Nat} {l : List Wrd} (h : DaS w wr p cao clen ccap H s (.slice ao l.length cap) l) (hl : l.length ≤ 1000) : Ws 0 wr.heap.size wr ao l.length l :=
  (wors_is6 rfl (by omega) h.row).keep (fun _ _ _ => rfl) (Nat.zero_le _) (Nat.le_refl _)

def DaEnd (w : World) (e : Ending) (w' : World) : Prop :=
  ∃ s ao n cap l x af nf cf F, e = .returned (.tuple #[vH s ao n cap, vW x, .slice af nf cf]) ∧ Below w.heap.size w w' ∧ Wors w.heap.size w' (.slice ao n cap) l ∧ Wors w.heap.size w' (.slice af nf cf) F ∧ l.length ≤ 80 ∧ F.length ≤ 4

theorem DaEnd.drew {w : World} {e : Ending} {w' : World} (h : DaEnd w e w') : DaEnd w e w'.drew := by
  obtain ⟨s, ao, n, cap, l, x, af, nf, cf, F, h1, h2, h3, h4, h5, h6⟩ := h
  exact ⟨s, ao, n, cap, l, x, af, nf, cf, F, h1, h2.drew, wors_keep h3 (fun _ _ => rfl), wors_keep h4 (fun _ _ => rfl), h5, h6⟩

theorem da_end {w w2 w8 : World} {p : Nat} {cao : Option Addr} {clen ccap H D : Nat} {s : Int} {ao : Option Addr} {cap : Nat} {l : List Wrd} {x : Wrd} {af : Option Addr} {n cf : Nat} {F : List Wrd}
    (hB : Below w.heap.size w w2) (hS : DaS w2 w8 p cao clen ccap H s (.slice ao l.length cap) l) (hW : Wors (D + 1) w8 (.slice af n cf) F) (hwD : w.heap.size + 1 < D + 1) (hw2 : w.heap.size + 2 ≤ w2.heap.size) (hp : w.heap.size + 2 ≤ p)
    (u0 : w8.heap[w.heap.size]? = some (.cells #[.int .i64 0, .slice none 0 0] 26 (0, 0))) (u1 : w8.heap[w.heap.size + 1]? = some (.cells #[.int .i64 0, .int .i64 0] 28 (0, 0))) (hl : l.length ≤ 80) (hF : F.length ≤ 4) :
    ∀ Z, (Z = (((w8.setCell ⟨w.heap.size, 0, none⟩ (.int .i64 s)).setCell ⟨w.heap.size, 1, none⟩ (.slice ao l.length cap)).setCell ⟨w.heap.size + 1, 0, none⟩ (.int .i64 x.K)).setCell ⟨w.heap.size + 1, 1, none⟩ (.int .i64 x.N) ∨ Z = (((w8.setCell ⟨w.heap.size + 1, 0, none⟩ (.int .i64 x.K)).setCell ⟨w.heap.size + 1, 1, none⟩ (.int .i64 x.N)).setCell ⟨w.heap.size, 0, none⟩ (.int .i64 s)).setCell ⟨w.heap.size, 1, none⟩ (.slice ao l.length cap)) →
      DaEnd w (.returned (.tuple #[vH s ao l.length cap, vW x, .slice af n cf])) Z := by
  intro Z hZ
  have hB8 : Below w.heap.size w w8 := bel_drw hB hS.drw (by omega)
  obtain ⟨_, _, h3, h4, h5⟩ := lay_four (R := w.heap.size) (S := w.heap.size + 1) (n := w.heap.size) (by omega) u0 u1 (Nat.le_refl _) (by omega) hB8 (.int .i64 s) (.slice ao l.length cap) (.int .i64 x.K) (.int .i64 x.N) Z hZ
  have hrow := hS.row
  refine ⟨s, ao, l.length, cap, l, x, af, n, cf, F, rfl, h3, wors_le (wors_keep hrow fun g hg => ?_) (by omega), wors_le (wors_keep hW fun g hg => ?_) (by omega), hl, hF⟩
  · have := (wors_own hrow hg).1
    exact h4 g (by omega) (by omega)
  · have := (wors_own hW hg).1
    exact h4 g (by omega) (by omega)

set_option maxRecDepth 100000 in
set_option maxHeartbeats 4000000 in
theorem drawAlloc_any (cao : Option Addr) (clen ccap : Nat) (w : World) (hb : Bts w cao clen) (hl : clen ≤ 1048576) :
    Calls Try.prog 6 #[.slice cao clen ccap] w fun e w' => DaEnd w e w' := by
  obtain ⟨X, hX⟩ : ∃ X, X = (w.alloc (.cells #[.int .i64 0, .slice none 0 0] 26)).alloc (.cells #[.int .i64 0, .int .i64 0] 28) := ⟨_, rfl⟩
  have hXs : X.heap.size = w.heap.size + 2 := by rw [hX]; simp
  have hXb : Below w.heap.size w X := by rw [hX]; exact ((Below.refl _ _).alloc (Nat.le_refl _) _).alloc (by simp) _
  have x0 : X.heap[w.heap.size]? = some (.cells #[.int .i64 0, .slice none 0 0] 26 (0, 0)) := by rw [hX, Below.heap_alloc _ _ _ (by simp)]; exact heap_new rfl
  have x1 : X.heap[w.heap.size + 1]? = some (.cells #[.int .i64 0, .int .i64 0] 28 (0, 0)) := by rw [hX]; exact heap_new (by simp)
  have HX : Hid (X = _) := hX
  clear hX
  go_enter Try.func6, Try.ntmps6
  go_wp2_with fail
  rw [← HX.out]
  refine (l1New_any cao clen ccap _ (bts_below hb hXb) hl).mono ?_
  rintro e w1 ⟨p, rfl, hb1, hpw, hc1⟩
  have hz1 := hb1.size
  have u0 := (hb1.block _ (by omega)).trans x0
  have u1 := (hb1.block _ (by omega)).trans x1
  have hbw1 : Below w.heap.size w w1 := hXb.trans (hb1.mono (by omega))
  clear x0 x1 hb1 hXb
  go_wp2_with fail
  refine (l1Size_any cao clen ccap 12 _ hl (by omega) (by omega)).mono ?_
  rintro e w2 ⟨x12, rfl, hx0, hx1, hb2⟩
  have hc2 := hc1.below hb2
  have hz2 := hb2.size
  have hp2 := hc2.lt
  have u0' := (hb2.block _ (by omega)).trans u0
  have u1' := (hb2.block _ (by omega)).trans u1
  have hbw2 : Below w.heap.size w w2 := hbw1.trans (hb2.mono (by omega))
  clear hbw1 hb2 hc1 u0 u1 HX
  go_wp2_with fail
  refine (l12DrawAny_any p cao clen ccap x12 _ hc2 hx0 (by omega)).mono ?_
  rintro e w3 ⟨s, ao, n, cap, l, rfl, hD3, hW3, hl3⟩
  obtain ⟨ao', cap', ev, hcap⟩ := wors_form hW3
  injection ev with ev1 ev2 ev3
  subst ev1 ev2 ev3
  have hA3 : Below w3.heap.size w3 (w3.alloc (.cells #[.int .i64 s, .slice ao l.length cap] 26)) := (Below.refl _ _).alloc (Nat.le_refl _) _
  have hS3 : DaS w2 (w3.alloc (.cells #[.int .i64 s, .slice ao l.length cap] 26)) p cao clen ccap w3.heap.size s (.slice ao l.length cap) l :=
    ⟨hD3.trans (drw_below hD3.cur hA3), hp2, hD3.grown.size, heap_new rfl, wors_le (wors_bel hW3 hA3) (by omega)⟩
  have HL80 : Hid (l.length ≤ 80) := hl3
  clear hW3 hD3 hl3
  go_wp2_with fail
  refine (l12Heads_any 0 (w3.heap.size + 1) ao l.length cap l _ (by simp) ((hS3.ws (by have := HL80.out; omega)).keep (fun _ _ _ => rfl) (Nat.le_refl _) (by simp)) (by have := HL80.out; omega)).mono ?_
  rintro e w4 ⟨rfl, hb4, hbr4⟩
  have hS4 := hS3.below hb4
  simp only [World.size_alloc] at hbr4 ⊢
  generalize hH : w3.heap.size = H at *
  clear hS3 hb4 hA3 hH
  have hH4 := hS4.lt
  have hHp := hS4.hH
  go_wp2_with fail
  refine (l12Head_any p cao clen ccap _ hS4.drw.cur).mono ?_
  rintro e w5 ⟨x, rfl, hfew, hD5⟩
  obtain ⟨cx, hcx, hcx3⟩ := hfew
  have hcI : cntI x = (cx : Int) := by unfold cntI; rw [hcx]
  have hS5 := hS4.draw hD5
  have hg4 := hbr4.lt
  have hbr5 : BRow w5 (H + 1) (heads l) := (hD5.blk hg4 (by omega)).trans hbr4
  have hg5 := hbr5.lt
  obtain ⟨Y, hY⟩ : ∃ Y, Y = (w5.alloc (.cells #[.int .i64 x.K, .int .i64 x.N] 28)).alloc (.cells #[] 28) := ⟨_, rfl⟩
  have hYs : Y.heap.size = w5.heap.size + 2 := by rw [hY]; simp
  have hYb : Below w5.heap.size w5 Y := by rw [hY]; exact ((Below.refl _ _).alloc (Nat.le_refl _) _).alloc (by simp) _
  have y0 : Y.heap[w5.heap.size]? = some (.cells #[.int .i64 x.K, .int .i64 x.N] 28 (0, 0)) := by rw [hY, Below.heap_alloc _ _ _ (by simp)]; exact heap_new rfl
  have y1 : Y.heap[w5.heap.size + 1]? = some (.cells #[] 28 (0, 0)) := by rw [hY]; exact heap_new (by simp)
  have hW0 : Wors (w5.heap.size + 1) Y (.slice (some ⟨w5.heap.size + 1, 0, none⟩) 0 0) [] := wors_emp y1 (Nat.le_refl _)
  have hSY := hS5.below hYb
  have hbrY : BRow Y (H + 1) (heads l) := hbr5.bel hYb hg5
  have HY : Hid (Y = _) := hY
  clear hY hbr4 hS4 y1
  go_wp2_with fail
  rw [← HY.out]
  refine (l12Fields_any x _).mono ?_
  rintro e w6 ⟨rfl, hb6⟩
  rw [hcI]
  have hS6 := hSY.below hb6
  have y6 := (hb6.block _ (by omega)).trans y0
  have hbr6 := hbrY.bel hb6 (by omega)
  have hW6 := wors_bel hW0 hb6
  have hown : ∀ q, (Value.slice ao l.length cap).ownBlock = some q → q < w5.heap.size + 1 := fun q hq => by have := (wors_own hS5.row hq).2; omega
  have hH5 : H < w5.heap.size := hS5.lt
  have hw25 := hS5.drw.grown.size
  generalize hD : w5.heap.size = D at *
  clear hW0 hbrY hSY y0 HY hYb hbr5 hS5 hb6 hD5 hD
  have HU0 : Hid _ := u0'
  have HU1 : Hid _ := u1'
  have HBW : Hid (Below w.heap.size w w2) := hbw2
  clear u0' u1' hbw2
  go_wp2_with fail
  go_loopw [10, 11] (fun vf i wr => ∃ (k n : Nat) (af : Option Addr) (cf : Nat) (F : List Wrd), i = .int .i64 k ∧ vf = .slice af n cf ∧ n + k ≤ 3 ∧ Hid (n = F.length) ∧ DaS w2 wr p cao clen ccap H s (.slice ao l.length cap) l ∧ BRow wr (H + 1) (heads l) ∧ wr.heap[D]? = some (.cells #[.int .i64 x.K, .int .i64 x.N] 28 (0, 0)) ∧ Wors (D + 1) wr (.slice af n cf) F) (fun _ i _ => (intOf i).toNat)
  case atStart => exact ⟨cx, 0, _, _, [], rfl, rfl, by omega, rfl, hS6, hbr6, y6, hW6⟩
  case round =>
    clear hS6 hbr6 y6 hW6
    obtain ⟨k, n, af, cf, F, rfl, rfl, hnk, HN, hSq, hbq, hyq, hWq⟩ := hrel
    have hltq : D < wr.heap.size := (Array.getElem?_eq_some_iff.1 hyq).1
    by_cases hk0 : 0 < k
    · go_wp2_with fail
      refine (l12Some_any p cao clen ccap (H + 1) l.length l.length (heads l) _ hSq.drw.cur hbq (by omega) (heads_len l).symm (by have := HL80.out; omega)).mono ?_
      rintro e w7 ⟨y, rfl, hD7⟩
      have hz7 := hD7.grown.size
      have hW7 : Wors (D + 1) w7 (.slice af n cf) F := wors_keep hWq fun g hg => by have := wors_own hWq hg; exact hD7.blk this.2 (by omega)
      have hS7 := hSq.draw hD7
      have hb7 : BRow w7 (H + 1) (heads l) := (hD7.blk (by omega) (by omega)).trans hbq
      have hy7 := (hD7.blk hltq (by omega)).trans hyq
      obtain ⟨a2, c2, w8, hrun, hW8, hb8⟩ := wors_push hW7 (by omega) (by have := HN.out; omega) y
      rw [← HN.out] at hrun hW8
      have HR : Hid (_ = _) := hrun
      have hS8 := hS7.upto hb8 (by omega) hown
      have hbr8 : BRow w8 (H + 1) (heads l) := hb7.bel hb8 (by omega)
      have hy8 := (hb8.block _ (by omega)).trans hy7
      have HN8 : Hid (n + 1 = (F ++ [y]).length) := by show _ = _; have := HN.out; simp; omega
      clear hrun hS7 hb7 hy7 hW7 hD7 hb8 hWq hSq hbq hyq
      go_wp2_with (at_builtin; refine list_run HR.out (by rfl) _ _ (by rfl) (by rfl) (by rfl) (by rfl) ?_)
      go_roundw
      case rel => exact ⟨k - 1, n + 1, _, _, _, by go_num, rfl, by omega, HN8, hS8, hbr8, hy8, hW8⟩
      case measure => simp [intOf]; omega
    · obtain rfl : k = 0 := by omega
      go_wp2_with fail
      refine (l1Once_any p cao clen ccap 8 _ hSq.drw.cur (by omega) (by omega)).mono ?_
      rintro e w7 ⟨b, rfl, hD7⟩
      have hz7 := hD7.grown.size
      have hW7 : Wors (D + 1) w7 (.slice af n cf) F := wors_keep hWq fun g hg => by have := wors_own hWq hg; exact hD7.blk this.2 (by omega)
      have hS7 := hSq.draw hD7
      have hy7 := (hD7.blk hltq (by omega)).trans hyq
      clear hWq hSq hbq hyq
      cases b with
      | true =>
        go_wp2_with fail
        refine (l1Below_any p cao clen ccap 6 _ hS7.drw.cur (by omega) (by omega)).mono ?_
        rintro e w8 ⟨xk, rfl, hxk0, hxk1, hD8⟩
        have hz8 := hD8.grown.size
        have hlt7 : D < w7.heap.size := by omega
        have hW8 : Wors (D + 1) w8 (.slice af n cf) F := wors_keep hW7 fun g hg => by have := wors_own hW7 hg; exact hD8.blk this.2 (by omega)
        have hS8 := hS7.draw hD8
        have hy8 := (hD8.blk hlt7 (by omega)).trans hy7
        obtain ⟨a2, c2, w9, hrun, hW9, hb9⟩ := wors_push hW8 (by omega) (by have := HN.out; omega) ⟨xk, 0⟩
        rw [← HN.out] at hrun hW9
        have HR : Hid (_ = _) := hrun
        have hS9 := hS8.upto hb9 (by omega) hown
        have hy9 := (hb9.block _ (by omega)).trans hy8
        clear hrun hW7 hW8 hS7 hS8 hy7 hy8 hb9 hD8 hD7
        have hlt2 : w.heap.size + 1 < w2.heap.size := by omega
        have v0 := (hS9.drw.blk (k := w.heap.size) (by omega) (by omega)).trans HU0.out
        have v1 := (hS9.drw.blk (k := w.heap.size + 1) (by omega) (by omega)).trans HU1.out
        have KE := da_end (x := x) HBW.out hS9 hW9 (by omega) (by omega) (by omega) v0 v1 HL80.out (by have := HN.out; simp; omega)
        have HKE : Hid (∀ Z, _ → DaEnd w _ Z) := KE
        obtain ⟨b0, b1⟩ := cells2 hS9.box
        obtain ⟨k0, k1⟩ := cells2 hy9
        obtain ⟨r0, r1⟩ := cells2 v0
        have r2 := row_free v0
        obtain ⟨q0, q1⟩ := cells2 v1
        have q2 := row_free v1
        have hn1 : ¬ H = w.heap.size := by omega
        have hn2 : ¬ D = w.heap.size := by omega
        have hn3 : ¬ H = w.heap.size + 1 := by omega
        have hn4 : ¬ D = w.heap.size + 1 := by omega
        have hn5 : ¬ w.heap.size = H := by omega
        have hn6 : ¬ w.heap.size = D := by omega
        have hn7 : ¬ w.heap.size + 1 = H := by omega
        have hn8 : ¬ w.heap.size + 1 = D := by omega
        clear KE v0 v1 hS9 hW9 hy9
        go_wp2_with (at_builtin; refine list_run HR.out (by rfl) _ _ (by rfl) (by rfl) (by rfl) (by rfl) ?_)
        go_region
        all_goals
          go_wp2_with fail
          refine bodyPost_ret (v := .tuple #[vH s ao l.length cap, vW x, .slice a2 (n + 1) c2]) (by simp [results, Try.results6, go_sem, r0, r1, q0, q1]) rfl (HKE.out _ (by first | exact Or.inl rfl | exact Or.inr rfl)).drew
      | false =>
        have hlt2 : w.heap.size + 1 < w2.heap.size := by omega
        have v0 := (hS7.drw.blk (k := w.heap.size) (by omega) (by omega)).trans HU0.out
        have v1 := (hS7.drw.blk (k := w.heap.size + 1) (by omega) (by omega)).trans HU1.out
        have KE := da_end (x := x) HBW.out hS7 hW7 (by omega) (by omega) (by omega) v0 v1 HL80.out (by have := HN.out; omega)
        have HKE : Hid (∀ Z, _ → DaEnd w _ Z) := KE
        obtain ⟨b0, b1⟩ := cells2 hS7.box
        obtain ⟨k0, k1⟩ := cells2 hy7
        obtain ⟨r0, r1⟩ := cells2 v0
        have r2 := row_free v0
        obtain ⟨q0, q1⟩ := cells2 v1
        have q2 := row_free v1
        have hn1 : ¬ H = w.heap.size := by omega
        have hn2 : ¬ D = w.heap.size := by omega
        have hn3 : ¬ H = w.heap.size + 1 := by omega
        have hn4 : ¬ D = w.heap.size + 1 := by omega
        have hn5 : ¬ w.heap.size = H := by omega
        have hn6 : ¬ w.heap.size = D := by omega
        have hn7 : ¬ w.heap.size + 1 = H := by omega
        have hn8 : ¬ w.heap.size + 1 = D := by omega
        clear KE v0 v1 hS7 hW7 hy7
        go_wp2_with fail
        go_region
        all_goals
          go_wp2_with fail
          refine bodyPost_ret (v := .tuple #[vH s ao l.length cap, vW x, .slice af n cf]) (by simp [results, Try.results6, go_sem, r0, r1, q0, q1]) rfl (HKE.out _ (by first | exact Or.inl rfl | exact Or.inr rfl)).drew

end Go.Proofs.Ytkplfdckfbihcaa
