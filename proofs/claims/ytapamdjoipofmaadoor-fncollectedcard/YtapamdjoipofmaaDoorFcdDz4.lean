/-
  What the model's 'l12Draw' comes to: some right heap of few words.
-/
import Derived.Test.YtapamdjoipofmaaDoorFcdDy3
import Derived.Test.YtapamdjoipofmaaDoorFcdDz2
import Derived.Test.YtapamdjoipofmaaDoorFcdZ40
import Derived.Deep.RegionLaw
namespace Go.Proofs.YtapamdjoipofmaaDoor
open Go.RowKit
set_option linter.unusedVariables false
set_option linter.unusedSimpArgs false

theorem alP_lenR (q : Bool) (l : List Wrd) (x : Wrd) (f : List Wrd) : (alP q l x f).length ≤ l.length + 1 + f.length := by
  unfold alP
  split
  · simp; omega
  · omega
theorem alP_ok {s : Int} {l : List Wrd} {x : Wrd} {f : List Wrd} (h : okH s l = true) : okH s (alP (alB s l x f) l x f) = true := by
  unfold alP
  split
  · rename_i hq
    exact (ok_alloc hq).2
  · exact h
theorem hnw_ok (n : Int) : okH (hnw n) [] = true := by
  apply ok_nil
  unfold hnw
  split
  · assumption
  · rfl

set_option maxRecDepth 100000 in
set_option maxHeartbeats 4000000 in
theorem l12Draw_rgt (p : Nat) (cao : Option Addr) (clen ccap : Nat) (most : Int) (w : World) (hc : Cur w p cao clen ccap) (h1 : 3 ≤ most) (h2 : most ≤ 20) :
    Calls Tryd.prog 11 #[.pointer (some ⟨p, 0, none⟩), .int .i64 most] w fun e w' => ∃ s ao n cap l, e = .returned (vH s ao n cap) ∧ Drw w w' p cao clen ccap ∧ Wors (w.heap.size + 1) w' (.slice ao n cap) l ∧ l.length ≤ 80 ∧ okH s l = true := by
  have hp := hc.lt
  obtain ⟨X, hX⟩ : ∃ X, X = (w.alloc (.cells #[.int .i64 0, .slice none 0 0] 26)).alloc (.cells #[.int .i64 40, .int .i64 100, .int .i64 12, .int .i64 5000] 3) := ⟨_, rfl⟩
  have hXs : X.heap.size = w.heap.size + 2 := by rw [hX]; simp
  have hXb : Below w.heap.size w X := by rw [hX]; exact ((Below.refl _ _).alloc (Nat.le_refl _) _).alloc (by simp) _
  have x0 : X.heap[w.heap.size]? = some (.cells #[.int .i64 0, .slice none 0 0] 26 (0, 0)) := by rw [hX, Below.heap_alloc _ _ _ (by simp)]; exact heap_new rfl
  have x1 : X.heap[w.heap.size + 1]? = some (.cells #[.int .i64 40, .int .i64 100, .int .i64 12, .int .i64 5000] 3 (0, 0)) := by rw [hX]; exact heap_new (by simp)
  have HX : Hid (X = _) := hX
  clear hX
  go_enter Tryd.func11, Tryd.ntmps11
  go_wp2_with fail
  rw [← HX.out]
  refine (l1Int_any p cao clen ccap (w.heap.size + 1) 4 4 [40, 100, 12, 5000] _ (hc.below hXb) x1 (by omega) rfl (by omega) (by omega)).mono ?_
  rintro e w1 ⟨x, rfl, hx, hD1⟩
  clear hx x1
  go_wp2_with fail
  refine (sHnw_any x _).mono ?_
  rintro e w2 ⟨rfl, hb2⟩
  have hD2 := hD1.trans (drw_below hD1.cur hb2)
  have hr2 := (hD2.blk (by omega) (by omega)).trans x0
  have hS0 := DwS.start ((drw_below hc hXb).trans hD2) hp hr2 (hnw x) (.slice none 0 0) [] (wors_nil _ _)
  have hk0 := hnw_ok x
  have HK0 : Hid (okH (hnw x) [] = true) := hk0
  clear hk0
  generalize hnw x = s0 at *
  generalize hH : w2.heap.size = H at *
  have HH : Hid (w2.heap.size = H) := hH
  clear hH hr2 hD2 hb2 hD1 x0
  go_wp2_with fail
  rw [HH.out]
  refine (l1Below_any p cao clen ccap most _ hS0.drw.cur (by omega) (by omega)).mono ?_
  rintro e w3 ⟨j0, rfl, hj0, hj1, hD3⟩
  have hS1 := hS0.draw hD3
  obtain ⟨jn, hjn⟩ : ∃ jn : Nat, j0 = jn := ⟨j0.toNat, by omega⟩
  subst hjn
  have hjm : jn ≤ 19 := by omega
  clear hS0 hD3 hj0 hj1 h1 h2 HX hXb hXs
  go_wp2_with fail
  go_loopw [6] (fun i wr => ∃ (j : Nat) (s : Int) (v : Value) (l : List Wrd), j ≤ 19 ∧ i = .int .i64 j ∧ Hid (l.length + 4 * j ≤ 80) ∧ Hid (okH s l = true) ∧ DwS w wr p cao clen ccap H s v l) (fun i _ => (intOf i).toNat)
  case atStart => exact ⟨jn, _, _, [], hjm, rfl, (by show _ ≤ _; simp; omega), HK0, hS1⟩
  case round =>
    clear hS1
    obtain ⟨j, s, v, l, hj, rfl, HJ, HOK, hS⟩ := hrel
    obtain ⟨ao, cap, rfl, hcap⟩ := wors_form hS.row
    obtain ⟨_, _, hws⟩ := hS.ws (by have := HJ.out; omega)
    have HL80 : Hid (l.length ≤ 80) := by show _ ≤ _; have := HJ.out; omega
    obtain ⟨b0, b1⟩ := cells2 hS.box
    have hlt := hS.lt
    have hhH := hS.hH
    by_cases hlt0 : 0 < j
    · go_wp2_with fail
      refine (l12Heads_any 0 wr.heap.size ao l.length cap l _ (Nat.le_refl _) hws (by have := HL80.out; omega)).mono ?_
      rintro e w4 ⟨rfl, hb4, hbr4⟩
      have hS4 := hS.below hb4
      generalize hG : wr.heap.size = G at *
      clear hws b0 b1 hS hb4 hG
      go_wp2_with fail
      refine (l12Head_any p cao clen ccap _ hS4.drw.cur).mono ?_
      rintro e w5 ⟨x, rfl, hfew, hD5⟩
      obtain ⟨cx, hcx, hcx3⟩ := hfew
      have hcI : cntI x = (cx : Int) := by unfold cntI; rw [hcx]
      have hS5 := hS4.draw hD5
      have hg4 := hbr4.lt
      have hbr5 : BRow w5 G (heads l) := (hD5.blk hg4 (by omega)).trans hbr4
      have hg5 := hbr5.lt
      obtain ⟨Y, hY⟩ : ∃ Y, Y = (w5.alloc (.cells #[.int .i64 x.K, .int .i64 x.N] 34)).alloc (.cells #[] 34) := ⟨_, rfl⟩
      have hYs : Y.heap.size = w5.heap.size + 2 := by rw [hY]; simp
      have hYb : Below w5.heap.size w5 Y := by rw [hY]; exact ((Below.refl _ _).alloc (Nat.le_refl _) _).alloc (by simp) _
      have y0 : Y.heap[w5.heap.size]? = some (.cells #[.int .i64 x.K, .int .i64 x.N] 34 (0, 0)) := by rw [hY, Below.heap_alloc _ _ _ (by simp)]; exact heap_new rfl
      have y1 : Y.heap[w5.heap.size + 1]? = some (.cells #[] 34 (0, 0)) := by rw [hY]; exact heap_new (by simp)
      have hW0 : Wors (w5.heap.size + 1) Y (.slice (some ⟨w5.heap.size + 1, 0, none⟩) 0 0) [] := wors_emp y1 (Nat.le_refl _)
      have hSY := hS5.below hYb
      have hbrY : BRow Y G (heads l) := hbr5.bel hYb hg5
      obtain ⟨k0, k1⟩ := cells2 y0
      have HY : Hid (Y = _) := hY
      clear hY hbr4 hS4 y1
      go_wp2_with fail
      rw [← HY.out]
      refine (l12Fields_any x _).mono ?_
      rintro e w6 ⟨rfl, hb6⟩
      rw [hcI]
      have hS6 := hSY.below hb6
      have y6 := (hb6.block _ (by omega)).trans y0
      have hbr6 := hbrY.bel hb6 (by omega)
      have hW6 := wors_bel hW0 hb6
      have hz6 := hb6.size
      clear hW0 hbrY hSY y0 k0 k1 HY hYb hbr5
      have hown : ∀ q, (Value.slice ao l.length cap).ownBlock = some q → q < w5.heap.size + 1 := fun q hq => by have := (wors_own hS5.row hq).2; omega
      have hH5 : H < w5.heap.size := hS5.lt
      clear hS5
      go_wp2_with fail
      go_loopw [10, 11] (fun vf i wq => ∃ (k n : Nat) (af : Option Addr) (cf : Nat) (F : List Wrd), i = .int .i64 k ∧ vf = .slice af n cf ∧ n + k ≤ 3 ∧ Hid (n = F.length) ∧ DwS w wq p cao clen ccap H s (.slice ao l.length cap) l ∧ BRow wq G (heads l) ∧ wq.heap[w5.heap.size]? = some (.cells #[.int .i64 x.K, .int .i64 x.N] 34 (0, 0)) ∧ Wors (w5.heap.size + 1) wq (.slice af n cf) F) (fun _ i _ => (intOf i).toNat)
      case atStart => exact ⟨cx, 0, _, _, [], rfl, rfl, by omega, rfl, hS6, hbr6, y6, hW6⟩
      case round =>
        clear hS6 hbr6 y6 hW6 hz6
        obtain ⟨k, n, af, cf, F, rfl, rfl, hnk, HN, hSq, hbq, hyq, hWq⟩ := hrel
        have hltq : w5.heap.size < wr.heap.size := (Array.getElem?_eq_some_iff.1 hyq).1
        by_cases hk0 : 0 < k
        · go_wp2_with fail
          refine (l12Some_rgt p cao clen ccap G l.length l.length (heads l) _ hSq.drw.cur hbq (by omega) (heads_len l).symm (by have := HL80.out; omega)).mono ?_
          rintro e w7 ⟨y, rfl, _, hD7⟩
          have hz7 := hD7.grown.size
          have hW7 : Wors (w5.heap.size + 1) w7 (.slice af n cf) F := wors_keep hWq fun g hg => by have := wors_own hWq hg; exact hD7.blk this.2 (by omega)
          have hS7 := hSq.draw hD7
          have hb7 : BRow w7 G (heads l) := (hD7.blk (by omega) (by omega)).trans hbq
          have hy7 := (hD7.blk hltq (by omega)).trans hyq
          obtain ⟨a2, c2, w8, hrun, hW8, hb8⟩ := wors_push hW7 (by omega) (by have := HN.out; omega) y
          rw [← HN.out] at hrun hW8
          have HR : Hid (_ = _) := hrun
          have hS8 := hS7.upto hb8 (by omega) hown
          have hbr8 : BRow w8 G (heads l) := hb7.bel hb8 (by omega)
          have hy8 := (hb8.block _ (by omega)).trans hy7
          have HN8 : Hid (n + 1 = (F ++ [y]).length) := by show _ = _; have := HN.out; simp; omega
          clear hrun hS7 hb7 hy7 hW7 hD7 hb8 hWq hSq hbq hyq
          go_wp2_with (at_builtin; refine list_run HR.out (by rfl) _ _ (by rfl) (by rfl) (by rfl) (by rfl) ?_)
          go_roundw
          case rel => exact ⟨k - 1, n + 1, _, _, _, by go_num, rfl, by omega, HN8, hS8, hbr8, hy8, hW8⟩
          case measure => simp [intOf]; omega
        · obtain rfl : k = 0 := by omega
          obtain ⟨b0, b1⟩ := cells2 hSq.box
          obtain ⟨k0, k1⟩ := cells2 hyq
          have hFl : F.length ≤ 3 := by have := HN.out; omega
          obtain ⟨_, _, hws⟩ := hSq.ws (by have := HL80.out; omega)
          have hwf : Ws (w5.heap.size + 1) wr.heap.size wr af n F := wors_is6 HN.out (by omega) hWq
          go_wp2_with fail
          refine (sAlloc_any 0 wr.heap.size (w5.heap.size + 1) wr.heap.size s ao l.length cap l x af n cf F _ (Nat.le_refl _) (Nat.le_refl _) hws hwf (by have := HL80.out; omega) (by omega)).mono ?_
          rintro e w9 ⟨⟨a9, n9, c9, rfl, hn9, hW9⟩, hb9⟩
          have hS9 := hSq.below hb9
          obtain ⟨d0, d1⟩ := cells2 hS9.box
          have d2 := row_free hS9.box
          have hltH := hSq.lt
          have hSA := hS9.lay s (.slice a9 n9 c9) _ (wors_le hW9 (by omega)) (fun g hg => by have := (wors_own hW9 hg).1; omega)
          have HOK9 : Hid (okH s (alP (alB s l x F) l x F) = true) := alP_ok HOK.out
          have HJ9 : Hid ((alP (alB s l x F) l x F).length + 4 * (j - 1) ≤ 80) := by show _ ≤ _; have h1 := alP_lenR (alB s l x F) l x F; have h2 := HJ.out; omega
          clear b0 b1 k0 k1 hws hwf hS9 hb9 hW9 hn9 hWq hSq hbq hyq
          go_wp2_with fail
          go_roundw
          case rel => exact ⟨j - 1, s, _, _, by omega, by go_num, HJ9, HOK9, hSA⟩
          case measure => simp [intOf]; omega
    · obtain rfl : j = 0 := by omega
      go_wp2_with fail
      refine (l12Heads_any 0 wr.heap.size ao l.length cap l _ (Nat.le_refl _) hws (by have := HL80.out; omega)).mono ?_
      rintro e w4 ⟨rfl, hb4, hbr4⟩
      have hS4 := hS.below hb4
      have hown : ∀ q, (Value.slice ao l.length cap).ownBlock = some q → q < wr.heap.size := fun q hq => (wors_own hS.row hq).2
      generalize hG : wr.heap.size = G at *
      clear hws b0 b1 hS hb4 hG
      have hg4 := hbr4.lt
      go_wp2_with fail
      refine (l1Below_any p cao clen ccap 3 _ hS4.drw.cur (by omega) (by omega)).mono ?_
      rintro e w5 ⟨j1, rfl, hj10, hj11, hD5⟩
      have hS5 := hS4.draw hD5
      have hbr5 : BRow w5 G (heads l) := (hD5.blk hg4 (by omega)).trans hbr4
      obtain ⟨jm, hjm⟩ : ∃ jm : Nat, j1 = jm := ⟨j1.toNat, by omega⟩
      subst hjm
      have hjm3 : jm ≤ 2 := by omega
      clear hS4 hbr4 hD5 hj10 hj11 hg4
      go_wp2_with fail
      go_loopw [14] (fun i wr => ∃ (k : Nat) (l' : List Wrd), k ≤ 2 ∧ i = .int .i64 k ∧ Hid (l'.length = l.length) ∧ Hid (okH s l' = true ∧ heads l' = heads l) ∧ DwS w wr p cao clen ccap H s (.slice ao l.length cap) l' ∧ BRow wr G (heads l)) (fun i _ => (intOf i).toNat)
      case atStart => exact ⟨jm, l, hjm3, rfl, rfl, ⟨HOK.out, rfl⟩, hS5, hbr5⟩
      case round =>
        clear hS5 hbr5
        obtain ⟨k, l', hk2, rfl, HK, HOL, hSr, hbr⟩ := hrel
        have hgr := hbr.lt
        by_cases hk0 : 0 < k
        · by_cases hl0 : 0 < l.length
          · obtain ⟨b0, b1⟩ := cells2 hSr.box
            go_wp2_with fail
            refine (l1Below_any p cao clen ccap l.length _ hSr.drw.cur (by omega) (by have := HL80.out; omega)).mono ?_
            rintro e w6 ⟨x, rfl, hx0, hx1, hD6⟩
            have hS6 := hSr.draw hD6
            have hbr6 : BRow w6 G (heads l) := (hD6.blk hgr (by omega)).trans hbr
            obtain ⟨xn, hxn⟩ : ∃ xn : Nat, x = xn := ⟨x.toNat, by omega⟩
            subst hxn
            have hxl : xn < l.length := by omega
            have hbit := hbr6.get xn (by rw [heads_len]; exact hxl)
            clear b0 b1 hSr hbr hD6
            cases hb : (heads l).getD xn false with
            | true =>
              rw [hb] at hbit
              go_wp2_with fail
              go_roundw
              case rel => exact ⟨k - 1, l', by omega, by go_num, HK, HOL, hS6, hbr6⟩
              case measure => simp [intOf]; omega
            | false =>
              rw [hb] at hbit
              have hxl' : xn < l'.length := by have := HK.out; omega
              obtain ⟨g6, cp6, e6, hg6, hg6', htw6, _⟩ := wors_at hS6.row xn hxl'
              injection e6 with e61 e62 e63
              subst e61 e63
              clear e62
              obtain ⟨b0, b1⟩ := cells2 hS6.box
              have hgr6 := hbr6.lt
              have hS6d := hS6.drew
              have KS := l12Some_rgt p cao clen ccap G l.length l.length (heads l) w6.drew hS6d.drw.cur hbr6 (by omega) (heads_len l).symm (by have := HL80.out; omega)
              go_wp2_with fail
              go_region_law (go_simp; go_at_call 15; refine KS.mono ?_; rintro e w7 ⟨y, rfl, hyr, hD7⟩; have hS7 := hS6d.draw hD7; have hbr7 : BRow w7 G (heads l) := (hD7.blk hgr6 (by omega)).trans hbr6; obtain ⟨n0, n1⟩ := cells2 hS7.box; obtain ⟨m0, m1⟩ := wors_two hS7.row xn hxl'; have m2 := wors_cells hS7.row)
              all_goals
                have hS8 := hS7.put xn hxl' y
                have HOL8 : Hid (okH s (l'.set xn y) = true ∧ heads (l'.set xn y) = heads l) := by
                  obtain ⟨o1, o2⟩ := HOL.out
                  obtain ⟨o3, o4⟩ := ok_set o1 hxl' (by rw [o2]; exact hb) (by rw [o2]; exact hyr)
                  exact ⟨o3, o4.trans o2⟩
                have hgG := hown g6 rfl
                have hbr8 : BRow ((w7.setCell ⟨g6, xn * 2, none⟩ (.int .i64 y.K)).setCell ⟨g6, xn * 2 + 1, none⟩ (.int .i64 y.N)) G (heads l) := (row_other _ _ _ (by show G ≠ g6; omega)).trans ((row_other _ _ _ (by show G ≠ g6; omega)).trans hbr7)
                have HK8 : Hid ((l'.set xn y).length = l.length) := by show _ = _; rw [List.length_set]; exact HK.out
                clear n0 n1 m0 m1 m2 hS7 hbr7 KS
                go_wp2_with fail
                go_roundw
                case rel => exact ⟨k - 1, _, by omega, by go_num, HK8, HOL8, hS8, hbr8⟩
                case measure => simp [intOf]; omega
          · skip
            obtain ⟨b0, b1⟩ := cells2 hSr.box
            obtain ⟨r0, r1⟩ := cells2 hSr.res
            have r2 := row_free hSr.res
            obtain ⟨q1, q2⟩ := hSr.fin
            have HQ1 : Hid (Drw _ _ _ _ _ _) := q1
            have HQ2 : Hid (Wors _ _ _ _) := q2
            have HLE : Hid (l'.length ≤ 80) := by show _ ≤ _; have h1 := HK.out; have h2 := HL80.out; omega
            clear q1 q2 hSr
            go_wp2_with fail
            refine bodyPost_ret (v := vH s ao l.length cap) (by simp [results, Tryd.results11, go_sem, r0, r1]) rfl ⟨s, ao, l.length, cap, l', rfl, HQ1.out, HQ2.out, HLE.out, HOL.out.1⟩
        · obtain rfl : k = 0 := by omega
          obtain ⟨b0, b1⟩ := cells2 hSr.box
          obtain ⟨r0, r1⟩ := cells2 hSr.res
          have r2 := row_free hSr.res
          obtain ⟨q1, q2⟩ := hSr.fin
          have HQ1 : Hid (Drw _ _ _ _ _ _) := q1
          have HQ2 : Hid (Wors _ _ _ _) := q2
          have HLE : Hid (l'.length ≤ 80) := by show _ ≤ _; have h1 := HK.out; have h2 := HL80.out; omega
          clear q1 q2 hSr
          go_wp2_with fail
          refine bodyPost_ret (v := vH s ao l.length cap) (by simp [results, Tryd.results11, go_sem, r0, r1]) rfl ⟨s, ao, l.length, cap, l', rfl, HQ1.out, HQ2.out, HLE.out, HOL.out.1⟩

end Go.Proofs.YtapamdjoipofmaaDoor
