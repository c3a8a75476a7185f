/-
  What the model's 'l12RootsAny' and 'DrawCollect' come to: some heap of few words, and some roots.
-/
import Derived.Test.YtkplfdckfbihcaaFhpDy5
namespace Go.Proofs.Ytkplfdckfbihcaa
open Go.RowKit
set_option linter.unusedVariables false
set_option linter.unusedSimpArgs false

/-- What a drawing of roots comes to. -/
def RtEnd (w : World) (p : Nat) (cao : Option Addr) (clen ccap : Nat) (e : Ending) (w' : World) : Prop :=
  ∃ ar nr cr roots, e = .returned (.slice ar nr cr) ∧ Drw w w' p cao clen ccap ∧ Wors w.heap.size w' (.slice ar nr cr) roots ∧ roots.length ≤ 5

set_option maxRecDepth 100000 in
set_option maxHeartbeats 4000000 in
theorem l12RootsAny_any (p : Nat) (cao : Option Addr) (clen ccap : Nat) (s : Int) (ao : Option Addr) (n cap : Nat) (l : List Wrd) (w : World) (hc : Cur w p cao clen ccap) (hs : Ws 0 w.heap.size w ao n l) (hl : n ≤ 80) :
    Calls Try.prog 32 #[.pointer (some ⟨p, 0, none⟩), vH s ao n cap] w fun e w' => RtEnd w p cao clen ccap e w' := by
  have hp := hc.lt
  have HL : Hid (n = l.length) := hs.1
  have hA : Below w.heap.size w (w.alloc (.cells #[.int .i64 s, .slice ao n cap] 26)) := (Below.refl _ _).alloc (Nat.le_refl _) _
  have hcA := hc.below hA
  have hsA := hs.below hA (Nat.le_refl _)
  go_enter Try.func32, Try.ntmps32
  go_wp2_with fail
  refine (l12Heads_any 0 w.heap.size ao n cap l _ (by simp) hsA (by omega)).mono ?_
  rintro e w1 ⟨rfl, hb1, hbr1⟩
  simp only [World.size_alloc] at hbr1
  have hz1 := hb1.size
  simp only [World.size_alloc] at hz1
  have hc1 := hcA.below hb1
  have hD1 : Drw w w1 p cao clen ccap := drw_below hc (hA.trans (hb1.mono (by simp)))
  have hgl := hbr1.lt
  obtain ⟨Y, hY⟩ : ∃ Y, Y = w1.alloc (.cells #[] 28) := ⟨_, rfl⟩
  have hYb : Below w1.heap.size w1 Y := by rw [hY]; exact (Below.refl _ _).alloc (Nat.le_refl _) _
  have hW0 : Wors w1.heap.size Y (.slice (some ⟨w1.heap.size, 0, none⟩) 0 0) [] := wors_emp (by rw [hY]; exact heap_new rfl) (Nat.le_refl _)
  have hcY := hc1.below hYb
  have HY : Hid (Y = _) := hY
  clear hY hs hsA hcA
  go_wp2_with fail
  rw [← HY.out]
  refine (l1Below_any p cao clen ccap 4 _ hcY (by omega) (by omega)).mono ?_
  rintro e w2 ⟨j0, rfl, hj0, hj1, hD2⟩
  obtain ⟨jn, hjn⟩ : ∃ jn : Nat, j0 = jn := ⟨j0.toNat, by omega⟩
  subst hjn
  have hjn3 : jn ≤ 3 := by omega
  have hDY : Drw w Y p cao clen ccap := hD1.trans (drw_below hc1 hYb)
  have hDw2 := hDY.trans hD2
  have hgY : w.heap.size + 1 < Y.heap.size := by have := hYb.size; omega
  have hbr2 : BRow w2 (w.heap.size + 1) (heads l) := (hD2.blk hgY (by omega)).trans (hbr1.bel hYb hgl)
  have hW2 : Wors w1.heap.size w2 (.slice (some ⟨w1.heap.size, 0, none⟩) 0 0) [] := wors_keep hW0 fun g hg => by have := wors_own hW0 hg; exact hD2.blk this.2 (by omega)
  have hz2 := hD2.grown.size
  have hzY := hYb.size
  generalize hG : w1.heap.size = G at *
  have HG : Hid (w1.heap.size = G) := hG
  clear hW0 hbr1 hD2 hDY hcY hc1 HY hD1 hb1 hYb hG
  go_wp2_with fail
  skip
  go_loopw [7, 8] (fun v i wr => ∃ (k m : Nat) (af : Option Addr) (cf : Nat) (F : List Wrd), i = .int .i64 k ∧ v = .slice af m cf ∧ m + k ≤ 3 ∧ Hid (m = F.length) ∧ Drw w wr p cao clen ccap ∧ BRow wr (w.heap.size + 1) (heads l) ∧ Wors G wr (.slice af m cf) F ∧ G ≤ wr.heap.size) (fun _ i _ => (intOf i).toNat)
  case atStart => exact ⟨jn, 0, _, _, [], rfl, rfl, by omega, rfl, hDw2, hbr2, hW2, by omega⟩
  case round =>
    clear hDw2 hbr2 hW2
    obtain ⟨k, m, af, cf, F, rfl, rfl, hmk, HN, hDr, hbr, hW, hGr⟩ := hrel
    have hgr := hbr.lt
    by_cases hk0 : 0 < k
    · go_wp2_with fail
      refine (l12Some_any p cao clen ccap (w.heap.size + 1) n n (heads l) _ hDr.cur hbr (by omega) (by rw [heads_len]; exact HL.out) (by omega)).mono ?_
      rintro e w3 ⟨y, rfl, hD3⟩
      have hz3 := hD3.grown.size
      have hW3 : Wors G w3 (.slice af m cf) F := wors_keep hW fun g hg => by have := wors_own hW hg; exact hD3.blk this.2 (by omega)
      have hb3 : BRow w3 (w.heap.size + 1) (heads l) := (hD3.blk hgr (by omega)).trans hbr
      obtain ⟨a2, c2, w4, hrun, hW4, hb4⟩ := wors_push hW3 (by omega) (by have := HN.out; omega) y
      rw [← HN.out] at hrun hW4
      have HR : Hid (_ = _) := hrun
      have hz4 := hb4.size
      have hD4 : Drw w w4 p cao clen ccap := ⟨⟨hb4.os.trans (hDr.trans hD3).grown.os, hb4.tape.trans (hDr.trans hD3).grown.tape, hb4.output.trans (hDr.trans hD3).grown.output, Nat.le_trans (hDr.trans hD3).grown.size hz4, fun q hq hne => (hb4.block q (by omega)).trans ((hDr.trans hD3).grown.block q hq hne)⟩, hD3.cur.keep fun q hq => hb4.block q (by omega)⟩
      have hb4' : BRow w4 (w.heap.size + 1) (heads l) := hb3.bel hb4 (by omega)
      have HN4 : Hid (m + 1 = (F ++ [y]).length) := by show _ = _; have := HN.out; simp; omega
      clear hrun hW3 hb3 hD3 hb4 hW hbr hDr
      go_wp2_with (at_builtin; refine list_run HR.out (by rfl) _ _ (by rfl) (by rfl) (by rfl) (by rfl) ?_)
      go_roundw
      case rel => exact ⟨k - 1, m + 1, _, _, _, by go_num, rfl, by omega, HN4, hD4, hb4', hW4, by omega⟩
      case measure => simp [intOf]; omega
    · obtain rfl : k = 0 := by omega
      go_wp2_with fail
      refine (l1Once_any p cao clen ccap 14 _ hDr.cur (by omega) (by omega)).mono ?_
      rintro e w3 ⟨b, rfl, hD3⟩
      have hz3 := hD3.grown.size
      have hW3 : Wors G w3 (.slice af m cf) F := wors_keep hW fun g hg => by have := wors_own hW hg; exact hD3.blk this.2 (by omega)
      have hDw3 := hDr.trans hD3
      clear hW hbr hDr
      cases b with
      | true =>
        go_wp2_with fail
        refine (l1Below_any p cao clen ccap 50 _ hD3.cur (by omega) (by omega)).mono ?_
        rintro e w4 ⟨x, rfl, hx0, hx1, hD4⟩
        have hz4 := hD4.grown.size
        have hW4 : Wors G w4 (.slice af m cf) F := wors_keep hW3 fun g hg => by have := wors_own hW3 hg; exact hD4.blk this.2 (by omega)
        have hDw4 := hDw3.trans hD4
        obtain ⟨a2, c2, w5, hrun, hW5, hb5⟩ := wors_push hW4 (by omega) (by have := HN.out; omega) ⟨4, x⟩
        rw [← HN.out] at hrun hW5
        have HR : Hid (_ = _) := hrun
        have hz5 := hb5.size
        have hD5 : Drw w w5 p cao clen ccap := ⟨⟨hb5.os.trans hDw4.grown.os, hb5.tape.trans hDw4.grown.tape, hb5.output.trans hDw4.grown.output, Nat.le_trans hDw4.grown.size hz5, fun q hq hne => (hb5.block q (by omega)).trans (hDw4.grown.block q hq hne)⟩, hDw4.cur.keep fun q hq => hb5.block q (by omega)⟩
        have HN5 : Hid ((F ++ [(⟨4, x⟩ : Wrd)]).length ≤ 5) := by show _ ≤ _; have := HN.out; simp; omega
        clear hrun hW3 hW4 hDw3 hDw4 hD3 hD4 hb5
        go_wp2_with (at_builtin; refine list_run HR.out (by rfl) _ _ (by rfl) (by rfl) (by rfl) (by rfl) ?_)
        go_ret
        exact ⟨_, _, _, _, rfl, hD5, wors_le hW5 (by omega), HN5.out⟩
      | false =>
        have HN5 : Hid (F.length ≤ 5) := by show _ ≤ _; have := HN.out; omega
        go_wp2_with fail
        go_ret
        exact ⟨_, _, _, _, rfl, hDw3, wors_le hW3 (by omega), HN5.out⟩

end Go.Proofs.Ytkplfdckfbihcaa
