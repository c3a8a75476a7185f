/-
  The law FnCollected: its walk.
-/
import Derived.Test.YtapamdjoipofmaaDoorFcdZ33
import Derived.Test.YtapamdjoipofmaaDoorFcdDz7
import Derived.Test.YtapamdjoipofmaaDoorFcdZ46
import Derived.Test.YtapamdjoipofmaaDoorFcdZ16
namespace Go.Proofs.YtapamdjoipofmaaDoor
open Go.RowKit
set_option linter.unusedVariables false
set_option linter.unusedSimpArgs false

theorem bigC_any (cao : Option Addr) (clen ccap : Nat) (w : World) (hl : clen ≤ 9223372036854775807) :
    Calls Tryd.prog 4 #[.slice cao clen ccap] w fun e w' => e = .returned (.bool (decide (1048576 < (clen : Int)))) ∧ w' = w := by
  go_enter Tryd.func4, Tryd.ntmps4
  go_wp2_with fail
  go_ret
  exact ⟨ret_bool rfl, rfl⟩

/-- What the law has in memory: a heap's box D and its roots, a collected one's box E and its roots. -/
structure CoS (w wr : World) (D E : Nat) (s : Int) (ao : Option Addr) (cap : Nat) (l : List Wrd) (ar : Option Addr) (roots : List Wrd) (va : Option Addr) (vcp : Nat) (P : List Wrd) (oa : Option Addr) (R : List Wrd) : Prop where
  bel : Below w.heap.size w wr
  box : wr.heap[D]? = some (.cells #[.int .i64 s, .slice ao l.length cap] 26 (0, 0))
  ebx : wr.heap[E]? = some (.cells #[.int .i64 s, .slice va P.length vcp] 26 (0, 0))
  ws : Ws 0 wr.heap.size wr ao l.length l
  rs : Ws 0 wr.heap.size wr ar roots.length roots
  ps : Ws 0 wr.heap.size wr va P.length P
  qs : Ws 0 wr.heap.size wr oa R.length R
theorem CoS.lt {w wr : World} {D E : Nat} {s : Int} {ao : Option Addr} {cap : Nat} {l : List Wrd} {ar : Option Addr} {roots : List Wrd} {va : Option Addr} {vcp : Nat} {P : List Wrd} {oa : Option Addr} {R : List Wrd} (h : CoS w wr D E s ao cap l ar roots va vcp P oa R) : D < wr.heap.size ∧ E < wr.heap.size := ⟨(Array.getElem?_eq_some_iff.1 h.box).1, (Array.getElem?_eq_some_iff.1 h.ebx).1⟩
theorem ws_up {w w1 : World} {ao : Option Addr} {n : Nat} {l : List Wrd} (h : Ws 0 w.heap.size w ao n l) (hb : Below w.heap.size w w1) : Ws 0 w1.heap.size w1 ao n l := (h.below hb (Nat.le_refl _)).keep (fun _ _ _ => rfl) (Nat.le_refl _) hb.size
theorem CoS.below {w wr w1 : World} {D E : Nat} {s : Int} {ao : Option Addr} {cap : Nat} {l : List Wrd} {ar : Option Addr} {roots : List Wrd} {va : Option Addr} {vcp : Nat} {P : List Wrd} {oa : Option Addr} {R : List Wrd} (h : CoS w wr D E s ao cap l ar roots va vcp P oa R) (hb : Below wr.heap.size wr w1) : CoS w w1 D E s ao cap l ar roots va vcp P oa R :=
  ⟨h.bel.trans (hb.mono h.bel.size), (hb.block _ h.lt.1).trans h.box, (hb.block _ h.lt.2).trans h.ebx, ws_up h.ws hb, ws_up h.rs hb, ws_up h.ps hb, ws_up h.qs hb⟩

set_option maxRecDepth 100000 in
set_option maxHeartbeats 4000000 in
theorem law_fnCollected (cao : Option Addr) (clen ccap : Nat) (w : World) (hb : Bts w cao clen) (hl : clen ≤ 9223372036854775807) (hT : TabB w.heap.size w) :
    Calls Tryd.prog 3 #[.slice cao clen ccap] w fun e w' => e = .returned (.bool true) ∧ Below w.heap.size w w' := by
  by_cases hbig : 1048576 < (clen : Int)
  · have HBG : Hid (decide (1048576 < (clen : Int)) = true) := by show _ = _; simpa using hbig
    clear hbig
    go_enter Tryd.func3, Tryd.ntmps3
    go_wp2_with fail
    refine (bigC_any _ _ _ _ hl).mono ?_
    rintro e w1 ⟨rfl, rfl⟩
    rw [HBG.out]
    go_wp2_with fail
    go_ret
    exact ⟨rfl, Below.refl _ _⟩
  · have HBG : Hid (decide (1048576 < (clen : Int)) = false) := by show _ = _; simpa using hbig
    have hcl : clen ≤ 1048576 := by omega
    have HTB : Hid (∀ W, Below w.heap.size w W → TabB w.heap.size W) := fun W hb => hT.below hb
    clear hT
    go_enter Tryd.func3, Tryd.ntmps3
    go_wp2_with fail
    refine (bigC_any _ _ _ _ hl).mono ?_
    rintro e w0 ⟨rfl, hw0⟩
    rw [HBG.out, hw0]
    clear hw0 w0
    go_wp2_with fail
    refine (drawHeap_any _ _ _ _ hb hcl).mono ?_
    rintro e w1 ⟨s, ao, n, cap, l, ar, nr, cr, roots, rfl, hb1, hW, hR, hl80, hr3, hok, hrr⟩
    obtain ⟨ao', cap', ev, hcap⟩ := wors_form hW
    injection ev with ev1 ev2 ev3
    subst ev1 ev2 ev3
    obtain ⟨ar', cr', ev, hcr⟩ := wors_form hR
    injection ev with ev1 ev2 ev3
    subst ev1 ev2 ev3
    obtain ⟨f1, f2, f3, f4⟩ := col_facts hok hrr
    obtain ⟨f5, f6⟩ := col_again hok hrr
    have HSW : Hid (∀ i (hi : i < roots.length) (hi' : i < (colR s l roots).length), shT s (colL s l roots) (colR s l roots)[i] = shT s l roots[i] ∧ shT s l roots[i] ≠ []) := fun i hi hi' => col_shows hok hrr hi hi'
    obtain ⟨X, hX⟩ : ∃ X, X = w1.alloc (.cells #[.int .i64 s, .slice ao l.length cap] 26) := ⟨_, rfl⟩
    have hXb : Below w1.heap.size w1 X := by rw [hX]; exact (Below.refl _ _).alloc (Nat.le_refl _) _
    have hXs : X.heap.size = w1.heap.size + 1 := by rw [hX]; simp
    have hXx : X.heap[w1.heap.size]? = some (.cells #[.int .i64 s, .slice ao l.length cap] 26 (0, 0)) := by rw [hX]; exact heap_new rfl
    have hwX : Below w.heap.size w X := hb1.trans (hXb.mono hb1.size)
    have hsX : Ws 0 X.heap.size X ao l.length l := ws_up ((wors_is6 rfl (by omega) hW).keep (fun _ _ _ => rfl) (Nat.zero_le _) (Nat.le_refl _)) hXb
    have hrX : Ws 0 X.heap.size X ar roots.length roots := ws_up ((wors_is6 rfl (by omega) hR).keep (fun _ _ _ => rfl) (Nat.zero_le _) (Nat.le_refl _)) hXb
    have HX : Hid (X = _) := hX
    have HKR : Hid (∀ W, Ws 0 W.heap.size W ao l.length l → Ws 0 W.heap.size W ar roots.length roots → Calls Tryd.prog 8 #[vH s ao l.length cap, .slice ar roots.length cr] W fun e w' => e = .returned (.int .i64 (rchN s l roots : Int)) ∧ Below W.heap.size W w') := fun W h1 h2 => reached_any s ao l.length cap l ar roots.length cr roots W h1 h2 (by omega) (by omega) hcap
    clear hbig hb hW hR hb1 hX hok hrr
    go_wp2_with fail
    rw [← HX.out]
    refine (collect_any s ao l.length cap l ar roots.length cr roots X hsX hrX (by omega) (by omega) hcap).mono ?_
    rintro e w2 ⟨⟨va, vn, vcp, oa, nr, ocp, rfl, hvn, hnr, hP, hQ, _⟩, hb2⟩
    generalize hPe : colL s l roots = P at *
    generalize hRe : colR s l roots = R at *
    generalize hNe : rchN s l roots = rn at *
    subst f3 hvn hnr
    clear hPe hRe hNe
    obtain ⟨va', vcp', ev, hvcp⟩ := wors_form hP
    injection ev with ev1 ev2 ev3
    subst ev1 ev3
    obtain ⟨oa', ocp', ev, hocp⟩ := wors_form hQ
    injection ev with ev1 ev2 ev3
    subst ev1 ev3
    have hXw2 := hb2.size
    obtain ⟨Y, hY⟩ : ∃ Y, Y = w2.alloc (.cells #[.int .i64 s, .slice va P.length vcp] 26) := ⟨_, rfl⟩
    have hYb : Below w2.heap.size w2 Y := by rw [hY]; exact (Below.refl _ _).alloc (Nat.le_refl _) _
    have hYs : Y.heap.size = w2.heap.size + 1 := by rw [hY]; simp
    have hS : CoS w Y w1.heap.size w2.heap.size s ao cap l ar roots va vcp P oa R := by
      refine ⟨(hwX.trans (hb2.mono hwX.size)).trans (hYb.mono ?_), (hYb.block _ (by omega)).trans ((hb2.block _ (by omega)).trans hXx), by rw [hY]; exact heap_new rfl, ws_up (ws_up hsX hb2) hYb, ws_up (ws_up hrX hb2) hYb, ws_up ((wors_is6 rfl (by omega) hP).keep (fun _ _ _ => rfl) (Nat.zero_le _) (Nat.le_refl _)) hYb, ws_up ((wors_is6 rfl (by omega) hQ).keep (fun _ _ _ => rfl) (Nat.zero_le _) (Nat.le_refl _)) hYb⟩
      have := hwX.size
      omega
    have HY : Hid (Y = _) := hY
    generalize hD : w1.heap.size = D at *
    generalize hE : w2.heap.size = E at *
    have HE : Hid (w2.heap.size = E) := hE
    have HD : Hid (w1.heap.size = D) := hD
    clear hY hD hE hXx hwX hsX hrX hP hQ hb2 hXb ev2 hXw2 hXs hYb hYs
    have hDY := hS.lt.1
    have hEY := hS.lt.2
    obtain ⟨b0, b1⟩ := cells2 hS.box
    obtain ⟨c0, c1⟩ := cells2 hS.ebx
    have HK1 : Hid (∀ w' : World, Below Y.heap.size Y w' → Calls Tryd.prog 7 #[vH s va P.length vcp] w' fun e w'' => e = .returned (.bool true) ∧ Below Y.heap.size Y w'') := fun w' hC =>
      (heapOk_any 0 w'.heap.size s va P.length vcp P w' (Nat.le_refl _) (hS.below hC).ps (by omega) hvcp).mono fun e w'' ⟨h1, h2⟩ => ⟨by rw [h1, f1], hC.trans (h2.mono hC.size)⟩
    have HK2 : Hid (∀ w' : World, Below Y.heap.size Y w' → Calls Tryd.prog 8 #[vH s ao l.length cap, .slice ar roots.length cr] w' fun e w'' => e = .returned (.int .i64 (P.length : Int)) ∧ Below Y.heap.size Y w'') := fun w' hC =>
      (HKR.out w' (hS.below hC).ws (hS.below hC).rs).mono fun e w'' ⟨h1, h2⟩ => ⟨h1, hC.trans (h2.mono hC.size)⟩
    have m1 : ((R.length : Int) != (roots.length : Int)) = false := by rw [f2]; simp
    have m1' : (R.length != roots.length) = false := by rw [f2]; simp
    have m2 : ((P.length : Int) != (P.length : Int)) = false := by simp
    have m3 : decide ((P.length : Int) > (l.length : Int)) = false := by simp; omega
    have m3a : decide ((l.length : Int) < (P.length : Int)) = false := by simp; omega
    have m3b : decide (l.length < P.length) = false := by simp; omega
    have m4 : (s != s) = false := by simp
    clear HKR
    go_wp2_with fail
    rw [← HY.out, HE.out]
    refine wp_region_below (by kernel_rfl) (by kernel_rfl) ?_
    repeat (first
      | go_big_quiet_skip
      | (go_big_quiet_want; unfold Oper.quiet; apply Exists.intro; refine ⟨fun w' hC => ?_, ?_⟩; (have g0 := (bcell hC hDY 0).trans b0; have g1 := (bcell hC hDY 1).trans b1; have g2 := (bcell hC hEY 0).trans c0; have g3 := (bcell hC hEY 1).trans c1; unfold Oper.quietAt; go_simp; first | exact rfl | exact ⟨rfl, rfl⟩ | (go_at_call 7; exact HK1.out _ hC) | (go_at_call 8; exact HK2.out _ hC)); go_big_quiet_on; simp only [Act.put, List.setIfInBounds_toArray, List.set_cons_zero, List.set_cons_succ]))
    refine wpQuiet_nil ?_
    intro w3 hb3
    have hS3 := hS.below hb3
    clear HK1 HK2 hS b0 b1 c0 c1 m2 m3 m3a m3b m4 hb3 hDY hEY
    go_wp2_with fail
    have hNE : R.length = roots.length := f2
    have HRL : Hid (R.length = roots.length) := f2
    go_loopw [7, 8] (fun i a wr => ∃ k : Nat, k ≤ roots.length ∧ i = .int .i64 k ∧ CoS w wr D E s ao cap l ar roots va vcp P oa R) (fun i _ _ => roots.length - (intOf i).toNat)
    case atStart => exact ⟨0, by omega, rfl, hS3⟩
    case round =>
      clear hS3
      obtain ⟨k, hk, rfl, hSr⟩ := hrel
      obtain ⟨b0, b1⟩ := cells2 hSr.box
      obtain ⟨c0, c1⟩ := cells2 hSr.ebx
      have hDr := hSr.lt.1
      have hEr := hSr.lt.2
      by_cases hlt : k < roots.length
      · have hltR : k < R.length := by omega
        obtain ⟨br, or, har, _, hbr, hfw⟩ := hSr.rs.2.2 k hlt
        obtain ⟨bq, oq, haq, _, hbq, hgw⟩ := hSr.qs.2.2 k hltR
        subst har haq
        obtain ⟨d0, d1⟩ := hfw
        obtain ⟨e0, e1⟩ := hgw
        obtain ⟨q1, q2⟩ := HSW.out k hlt hltR
        have HC1 : Hid (∀ w' : World, Below wr.heap.size wr w' → Calls Tryd.prog 9 #[vH s ao l.length cap, vW roots[k]] w' fun e w'' => e = .returned (.string ⟨(shT s l roots[k]).toArray⟩) ∧ Below wr.heap.size wr w'') := fun w' hC =>
          (show_any s ao l.length cap l roots[k] w' (hSr.below hC).ws (by omega) hcap (HTB.out w' (hSr.below hC).bel) (hSr.below hC).bel.size).mono fun e w'' ⟨h1, h2⟩ => ⟨h1, hC.trans (h2.mono hC.size)⟩
        have HC2 : Hid (∀ w0, Below wr.heap.size wr w0 → ∀ w' : World, Below w0.heap.size w0 w' → Calls Tryd.prog 9 #[vH s va P.length vcp, vW R[k]] w' fun e w'' => e = .returned (.string ⟨(shT s l roots[k]).toArray⟩) ∧ Below w0.heap.size w0 w'') := fun w0 h0 w' hC =>
          (show_any s va P.length vcp P R[k] w' ((hSr.below h0).below hC).ps (by omega) hvcp (HTB.out w' ((hSr.below h0).below hC).bel) ((hSr.below h0).below hC).bel.size).mono fun e w'' ⟨h1, h2⟩ => ⟨by rw [h1, q1], hC.trans (h2.mono hC.size)⟩
        generalize hst : shT s l roots[k] = st at *
        generalize roots[k] = x at *
        generalize R[k] = y at *
        generalize hsx : (⟨st.toArray⟩ : ByteArray) = sx at *
        have z1 : (sx.toList != sx.toList) = false := by simp
        have z2 : (sx.toList == []) = false := by
          rw [← hsx, ByteArray.toList_eq]
          show (st == []) = false
          cases st with
          | nil => exact absurd rfl q2
          | cons a t => rfl
        unfold vW at HC1 HC2
        unfold vH at HC1 HC2
        clear hst q1 q2 hsx
        go_wp2_with fail
        refine wp_region_below (by kernel_rfl) (by kernel_rfl) ?_
        repeat (first
          | go_big_quiet_skip
          | (go_big_quiet_want; unfold Oper.quiet; apply Exists.intro; refine ⟨fun w' hC => ?_, ?_⟩; (have g0 := (bcell hC hDr 0).trans b0; have g1 := (bcell hC hDr 1).trans b1; have g2 := (bcell hC hbr (or + k * 2)).trans d0; have g3 := (bcell hC hbr (or + k * 2 + 1)).trans d1; unfold Oper.quietAt; go_simp; first | exact rfl | exact ⟨rfl, rfl⟩ | (go_at_call 9; exact HC1.out _ hC)); go_big_quiet_on; simp only [Act.put, List.setIfInBounds_toArray, List.set_cons_zero, List.set_cons_succ]))
        refine wpQuiet_nil ?_
        intro w4 hb4
        have hS4 := hSr.below hb4
        have HC3 : Hid _ := HC2.out w4 hb4
        have f0 := (bcell hb4 hEr 0).trans c0
        have f1 := (bcell hb4 hEr 1).trans c1
        have f2 := (bcell hb4 hbq (oq + k * 2)).trans e0
        have f3 := (bcell hb4 hbq (oq + k * 2 + 1)).trans e1
        have hE4 := hS4.lt.2
        have hq4 : bq < w4.heap.size := Nat.lt_of_lt_of_le hbq hb4.size
        clear HC1 HC2 hSr b0 b1 c0 c1 d0 d1 e0 e1 hb4
        go_wp2_with fail
        refine wp_region_below (by kernel_rfl) (by kernel_rfl) ?_
        repeat (first
          | go_big_quiet_skip
          | (go_big_quiet_want; unfold Oper.quiet; apply Exists.intro; refine ⟨fun w' hC => ?_, ?_⟩; (have g0 := (bcell hC hE4 0).trans f0; have g1 := (bcell hC hE4 1).trans f1; have g2 := (bcell hC hq4 (oq + k * 2)).trans f2; have g3 := (bcell hC hq4 (oq + k * 2 + 1)).trans f3; unfold Oper.quietAt; go_simp; first | exact rfl | exact ⟨rfl, rfl⟩ | (go_at_call 9; exact HC3.out _ hC)); go_big_quiet_on; simp only [Act.put, List.setIfInBounds_toArray, List.set_cons_zero, List.set_cons_succ]))
        refine wpQuiet_nil ?_
        intro w5 hb5
        have hS5 := hS4.below hb5
        clear hS4 hb5 HC3
        go_wp2_with fail
        go_roundw
        case rel => exact ⟨k + 1, by omega, by go_num, hS5⟩
        case measure => simp [intOf]; omega
      · clear b0 b1 HSW
        have hqs : Ws 0 wr.heap.size wr oa roots.length R := HRL.out ▸ hSr.qs
        have m2 : ((P.length : Int) != (P.length : Int)) = false := by simp
        go_wp2_with fail
        refine (collect_any s va P.length vcp P oa roots.length ocp R wr hSr.ps hqs (by omega) (by omega) hvcp).mono ?_
        rintro e w6 ⟨⟨va2, vn2, vcp2, oa2, nr2, ocp2, rfl, hvn2, hnr2, hP2, hQ2, _⟩, hb6⟩
        rw [f5] at hP2 hvn2
        rw [f6] at hQ2 hnr2
        subst hvn2 hnr2
        have hS6 := hSr.below hb6
        obtain ⟨Z, hZ⟩ : ∃ Z, Z = w6.alloc (.cells #[.int .i64 s, .slice va2 P.length vcp2] 26) := ⟨_, rfl⟩
        have hZb : Below w6.heap.size w6 Z := by rw [hZ]; exact (Below.refl _ _).alloc (Nat.le_refl _) _
        have hS7 := hS6.below hZb
        have hU : CoS w Z E w6.heap.size s va vcp P oa R va2 vcp2 P oa2 R :=
          ⟨hS7.bel, hS7.ebx, by rw [hZ]; exact heap_new rfl, hS7.ps, hS7.qs, ws_up ((wors_is6 rfl (by omega) hP2).keep (fun _ _ _ => rfl) (Nat.zero_le _) (Nat.le_refl _)) hZb, ws_up ((wors_is6 rfl (by omega) hQ2).keep (fun _ _ _ => rfl) (Nat.zero_le _) (Nat.le_refl _)) hZb⟩
        have HZ : Hid (Z = _) := hZ
        clear hS6 hS7 hSr hP2 hQ2 hb6 hZb c0 c1 hqs
        obtain ⟨b0, b1⟩ := cells2 hU.box
        obtain ⟨c0, c1⟩ := cells2 hU.ebx
        rw [hZ] at b0 b1 c0 c1
        go_wp2_with fail
        rw [← HZ.out]
        generalize hF : w6.heap.size = F at *
        clear hZ hF b0 b1 c0 c1 m2 HZ
        go_loopw [11] (fun i wr => ∃ k : Nat, k ≤ P.length ∧ i = .int .i64 k ∧ CoS w wr E F s va vcp P oa R va2 vcp2 P oa2 R) (fun i _ => P.length - (intOf i).toNat)
        case atStart => exact ⟨0, by omega, rfl, hU⟩
        case round =>
          clear hU
          obtain ⟨i, hi, rfl, hSr⟩ := hrel
          obtain ⟨b0, b1⟩ := cells2 hSr.box
          obtain ⟨c0, c1⟩ := cells2 hSr.ebx
          by_cases hlt : i < P.length
          · obtain ⟨bp, op, hap, _, _, hfw⟩ := hSr.ws.2.2 i hlt
            obtain ⟨bv, ov, hav, _, _, hgw⟩ := hSr.ps.2.2 i hlt
            subst hap hav
            obtain ⟨d0, d1⟩ := hfw
            obtain ⟨e0, e1⟩ := hgw
            generalize P[i] = z at *
            have hj2 : (i : Int) < (P.length : Int) := by omega
            have hSn : ∀ nq, CoS w (wr.drewN nq) E F s (some ⟨bp, op, none⟩) vcp P oa R (some ⟨bv, ov, none⟩) vcp2 P oa2 R := fun nq => hSr.below (below_drewW (Below.refl _ _) nq)
            clear hSr
            go_wp2_with fail
            go_quiet (fail)
            go_wp2_with fail
            go_roundw
            case rel => exact ⟨i + 1, by omega, by go_num, hSn _⟩
            case measure => simp [intOf]; omega
          · go_wp2_with fail
            clear b0 b1 c0 c1
            go_loopw [12] (fun i wr => ∃ k : Nat, k ≤ roots.length ∧ i = .int .i64 k ∧ CoS w wr E F s va vcp P oa R va2 vcp2 P oa2 R) (fun i _ => roots.length - (intOf i).toNat)
            case atStart => exact ⟨0, by omega, rfl, hSr⟩
            case round =>
              clear hSr
              obtain ⟨j, hj, rfl, hSr⟩ := hrel
              by_cases hlt : j < roots.length
              · have hltR : j < R.length := by omega
                obtain ⟨bp, op, hap, _, _, hfw⟩ := hSr.rs.2.2 j hltR
                obtain ⟨bv, ov, hav, _, _, hgw⟩ := hSr.qs.2.2 j hltR
                subst hap hav
                obtain ⟨d0, d1⟩ := hfw
                obtain ⟨e0, e1⟩ := hgw
                generalize R[j] = z at *
                have hj2 : (j : Int) < (roots.length : Int) := by omega
                have hSn : ∀ nq, CoS w (wr.drewN nq) E F s va vcp P (some ⟨bp, op, none⟩) R va2 vcp2 P (some ⟨bv, ov, none⟩) R := fun nq => hSr.below (below_drewW (Below.refl _ _) nq)
                clear hSr
                go_wp2_with fail
                go_quiet (fail)
                go_wp2_with fail
                go_roundw
                case rel => exact ⟨j + 1, by omega, by go_num, hSn _⟩
                case measure => simp [intOf]; omega
              · go_wp2_with fail
                go_ret
                exact ⟨rfl, hSr.bel⟩

end Go.Proofs.YtapamdjoipofmaaDoor
