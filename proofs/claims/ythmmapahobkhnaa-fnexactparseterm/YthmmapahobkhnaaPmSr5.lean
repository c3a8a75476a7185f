/-
  The model's reader of terms, kind by kind. (Written by mksr5.py.)
-/
import Derived.Test.YthmmapahobkhnaaPmSr4
import Derived.Deep.Cut
import Derived.Deep.CutRange
namespace Go.Proofs.Ythmmapahobkhnaa
open Go.RowKit Go.PlainAid
set_option linter.unusedVariables false
set_option linter.unusedSimpArgs false

set_option maxRecDepth 100000 in
set_option maxHeartbeats 4000000 in
theorem read_5 (lv : Nat) (hlv : lv ≤ 24) (IH : SaidSr lv) (p : Nat) (ao : Option Addr) (len cap a L B : Nat) (bad : Bool) (T : List (List UInt8)) (w : World) (hT : ∀ x ∈ T, x.length ≤ 1048577) (h : Rdr L B w p ao len cap a bad T) (hk : kindW (firstT T a bad) = 5) :
    Calls Try.prog 10 #[.pointer (some ⟨p, 0, none⟩), .int .i64 ((lv + 1 : Nat) : Int)] w fun e w' => TmRs (lv + 1) L B w w' e p ao len cap T a bad := by
  have hp := h.lt
  obtain ⟨X, hX⟩ : ∃ X, X = w.alloc (.cells #[.int .i64 0, .int .i64 0, .string ⟨#[]⟩, .string ⟨#[]⟩, .int .i64 0, .int .i64 0, .slice none 0 0, .slice none 0 0, .slice none 0 0] 27) := ⟨_, rfl⟩
  have hXb : Below w.heap.size w X := by rw [hX]; exact (Below.refl _ _).alloc (Nat.le_refl _) _
  have hXs : X.heap.size = w.heap.size + 1 := by rw [hX]; simp
  have hXr : X.heap[w.heap.size]? = some (.cells #[.int .i64 0, .int .i64 0, .string ⟨#[]⟩, .string ⟨#[]⟩, .int .i64 0, .int .i64 0, .slice none 0 0, .slice none 0 0, .slice none 0 0] 27 (0, 0)) := by rw [hX]; exact heap_new rfl
  have hRX := h.below hXb
  have HX : Hid (X = _) := hX
  have hlv0 : (((lv + 1 : Nat) : Int) == 0) = false := by rw [beq_eq_false_iff_ne]; omega
  have hlv1 : ((lv : Int) + 1 == 0) = false := by rw [beq_eq_false_iff_ne]; omega
  clear hX
  go_enter Try.func10, Try.ntmps10
  go_wp2_with fail
  rw [← HX.out]
  refine (snext_first p ao len cap a L B bad T _ hT hRX).mono ?_
  obtain ⟨x, hx⟩ : ∃ x, x = firstT T a bad := ⟨_, rfl⟩
  rw [← hx] at hk ⊢
  rintro e w1 ⟨a1, b1, rfl, hg1, hR1, hO1⟩
  have hz1 := hg1.size
  have hr1 := (hg1.block w.heap.size (by omega) (by simp; omega)).trans hXr
  have hgw1 : w.grownBy w1 (some p) := gr_trans (gr_below hXb) hg1
  have KK : Hid (∀ w : World, Calls Try.prog 26 #[.string ⟨x.toArray⟩] w fun e w' => e = .returned (.int .i64 5) ∧ Below w.heap.size w w') := fun w => by rw [← hk]; exact l2Kind_any x w
  have HT0 : Hid (∀ t a' b', RdO ((hdS x 5).bind fun h => (manyR (termS lv) 2).bind fun ps => Rr.ret (⟨5, h.n, mkB h.s, mkB h.z, h.t, h.ts, ps⟩ : Tm)) T a1 b1 t a' b' → RdO (termS (lv + 1)) T a bad t a' b') := fun t a' b' hr => rdo_bind (x := x) hO1 (by
    rw [hk]
    exact rdo_neg (by decide) hr)
  clear hx hk
  show _
  unfold tk
  go_wp2_with fail
  refine (KK.out _).mono ?_
  rintro e w2 ⟨rfl, hb2⟩
  have hz2 := hb2.size
  obtain ⟨W2, hW2⟩ : ∃ W2, W2 = w2.alloc (.cells #[.int .i64 5, .int .i64 0, .string ⟨#[]⟩, .string ⟨#[]⟩, .int .i64 0, .int .i64 0, .slice none 0 0, .slice none 0 0, .slice none 0 0] 27) := ⟨_, rfl⟩
  have hbW2 : Below w2.heap.size w2 W2 := by rw [hW2]; exact (Below.refl _ _).alloc (Nat.le_refl _) _
  have hzW2 : W2.heap.size = w2.heap.size + 1 := by rw [hW2]; simp
  have hxW2 : W2.heap[w2.heap.size]? = some (.cells #[.int .i64 5, .int .i64 0, .string ⟨#[]⟩, .string ⟨#[]⟩, .int .i64 0, .int .i64 0, .slice none 0 0, .slice none 0 0, .slice none 0 0] 27 (0, 0)) := by rw [hW2]; exact heap_new rfl
  have hb12 : Below w1.heap.size w1 W2 := hb2.trans (hbW2.mono hz2)
  have HW2 : Hid (W2 = _) := hW2
  have KO : Hid (∀ w : World, Calls Try.prog 27 #[.int .i64 5] w fun e w' => e = .returned (.agg #[.int .i64 2, .int .i64 0, .bool false, .bool false, .bool false]) ∧ Below w.heap.size w w') := fun w => l2Of_any 5 w
  obtain ⟨g0, _, _, _, _, _, _, _, _⟩ := Nine.box hxW2
  clear hW2
  go_upto_region 3 with fail
  rw [← HW2.out]
  go_wp2_with fail
  refine (KO.out _).mono ?_
  rintro e w3 ⟨rfl, hb3⟩
  have hz3 := hb3.size
  obtain ⟨W3, hW3⟩ : ∃ W3, W3 = w3.alloc (.cells #[.int .i64 2, .int .i64 0, .bool false, .bool false, .bool false] 55) := ⟨_, rfl⟩
  have hbW3 : Below w3.heap.size w3 W3 := by rw [hW3]; exact (Below.refl _ _).alloc (Nat.le_refl _) _
  have hzW3 : W3.heap.size = w3.heap.size + 1 := by rw [hW3]; simp
  have hsW3 : W3.heap[w3.heap.size]? = some (.cells #[.int .i64 2, .int .i64 0, .bool false, .bool false, .bool false] 55 (0, 0)) := by rw [hW3]; exact heap_new rfl
  have hb13 : Below w1.heap.size w1 W3 := (hb12.trans (hb3.mono (by omega))).trans (hbW3.mono (by omega))
  have HW3 : Hid (W3 = _) := hW3
  have h0 : LdRel L B w W3 p ao len cap a1 b1 T w2.heap.size w3.heap.size #[.int .i64 5, .int .i64 0, .string ⟨#[]⟩, .string ⟨#[]⟩, .int .i64 0, .int .i64 0, .slice none 0 0, .slice none 0 0, .slice none 0 0] #[.int .i64 2, .int .i64 0, .bool false, .bool false, .bool false] :=
    ⟨gr_trans hgw1 (gr_below hb13), hR1.below hb13, (hb13.block _ (by omega)).trans hr1, (hbW3.block _ (by omega)).trans ((hb3.block _ (by omega)).trans hxW2), hsW3, by omega, by omega, by omega⟩
  obtain ⟨tb, htb⟩ : ∃ tb, tb = w2.heap.size := ⟨_, rfl⟩
  obtain ⟨hb, hhb⟩ : ∃ hb, hb = w3.heap.size := ⟨_, rfl⟩
  have HTB : Hid (tb = w2.heap.size) := htb
  have HHB : Hid (hb = w3.heap.size) := hhb
  rw [← htb, ← hhb] at h0
  clear hW3 htb hhb g0 hxW2 hsW3 hXr hr1 hRX hb12 hb13 hb2 hbW2 hb3 hbW3 hg1 hR1 hgw1 hO1 hXb
  go_upto_region 4 with fail
  rw [← HW3.out, ← HTB.out, ← HHB.out]
  clear hz1 hz2 hz3 hzW2 hzW3 hXs
  have kb := h0.box
  try simp only [List.setIfInBounds_toArray, List.set_cons_zero, List.set_cons_succ] at kb
  obtain ⟨c0, c1, c2, c3, c4, c5, c6, c7, c8⟩ := Nine.box kb
  have s0 := row_cell h0.sh 0
  have s2 := row_cell h0.sh 2
  have s3 := row_cell h0.sh 3
  have s4 := row_cell h0.sh 4
  simp only [List.getElem?_toArray, List.getElem?_cons_zero, List.getElem?_cons_succ] at s0 s2 s3 s4
  obtain ⟨rr0, rr1, rr2⟩ := box_cells h0.rdr.row
  have bf := row_free h0.box
  have HO : Hid (RdO (hdS x 5) T a1 b1 ⟨0, [], [], ⟨0, 0, []⟩, []⟩ a1 b1) := rdo_bind ((rdo_neg (by decide) (rdo_neg (by decide) (rdo_neg (by decide) (rdo_ret _ _ _ _))))) (rdo_bind ((rdo_neg (by decide) (rdo_ret _ _ _ _))) (rdo_bind ((rdo_neg (by decide) (rdo_ret _ _ _ _))) (rdo_bind ((rdo_neg (by decide) (rdo_ret _ _ _ _))) (rdo_bind ((rdo_neg (by decide) (rdo_ret _ _ _ _))) (rdo_bind ((rdo_neg (by decide) (rdo_ret _ _ _ _))) (rdo_bind ((rdo_ret _ _ _ _)) (rdo_ret _ _ _ _)))))))
  obtain ⟨W0, hW0⟩ : ∃ W0, W0 = W3 := ⟨_, rfl⟩
  have hLd := h0
  rw [← hW0] at hLd
  have HW0 : Hid (W0 = _) := hW0
  have hbx0 := hLd.box
  try simp only [List.setIfInBounds_toArray, List.set_cons_zero, List.set_cons_succ] at hbx0
  have lt1 := hLd.lt1
  have lt2 := hLd.lt2
  have lt3 := hLd.lt3
  have hzw := hLd.gr.size
  have hL0 : SlLoop L B w W0 W0 p ao len cap T a1 b1 tb W0.heap.size lv (.int .i64 5) (.int .i64 0) (.string ⟨#[]⟩) (.string ⟨#[]⟩) (.int .i64 0) (.int .i64 0) (.slice none 0 0) (.slice none 0 0) (.slice none 0 0) 0 a1 b1 [] := ⟨hLd.gr, hLd.rdr, hbx0, rdo_ret _ _ _ _, rfl, apm_nil _ _ _ _ _, fun _ _ _ _ => rfl, Nat.le_refl _⟩
  have hsh0 := hLd.sh
  have hres0 := hLd.res
  clear hLd hW0 hbx0
  go_wp2_with fail
  clear kb c0 c1 c2 c3 c4 c5 c6 c7 c8 s0 s2 s3 s4 rr0 rr1 rr2 bf
  rw [← HW0.out]
  refine wp_loop_rounds 1 ?_
  rw [rounds_succ]
  go_wp2_with fail
  go_loopw [10] (fun i wr => ∃ (j a5 : Nat) (b5 : Bool) (us : List Tm) (v : Value), i = .int .i64 j ∧ j ≤ 2 ∧ SlLoop L B w W0 wr p ao len cap T a1 b1 tb W0.heap.size lv (.int .i64 5) (.int .i64 0) (.string ⟨#[]⟩) (.string ⟨#[]⟩) (.int .i64 0) (.int .i64 0) (.slice none 0 0) (.slice none 0 0) v j a5 b5 us) (fun i _ => 2 - (intOf i).toNat)
  case atStart => exact ⟨0, a1, b1, [], _, rfl, by omega, hL0⟩
  case round =>
    obtain ⟨j, a5, b5, us, v, rfl, hj, hI⟩ := hrel
    obtain ⟨ao', cap', hv⟩ := apm_form hI.ap
    have hul := hI.ul
    rw [hul] at hv
    subst hv
    have hzr := hI.gr.size
    have hltr := hI.lt
    have shr := (hI.low hb (by omega) (by omega) (by omega)).trans hsh0
    have sp := row_cell shr 0
    simp only [List.getElem?_toArray, List.getElem?_cons_zero] at sp
    obtain ⟨f0, f1, f2⟩ := box_cells hI.rdr.row
    by_cases hlt : j < 2
    · have hltI : (j : Int) < 2 := by omega
      cases b5 with
      | true =>
        have xr := (hI.low w.heap.size (Nat.le_refl _) (by omega) (by omega)).trans hres0
        obtain ⟨r0, r1, r2, r3, r4, r5, r6, r7, r8⟩ := Nine.box xr
        have rf := row_free xr
        obtain ⟨q0, q1, q2, q3, q4, q5, q6, q7, q8⟩ := Nine.box hI.box
        have HRP : Hid (RdO (manyR (termS lv) 2) T a1 b1 us a5 true) := rdo_parts hI.rdo (by omega) (Or.inr rfl)
        have HF : Hid (∀ e, e = Ending.returned (.agg #[.int .i64 5, .int .i64 0, .string ⟨#[]⟩, .string ⟨#[]⟩, .int .i64 0, .int .i64 0, .slice none 0 0, .slice none 0 0, .slice ao' j cap']) → TmRs (lv + 1) L B w (set9 wr w.heap.size 0 (.int .i64 5) (.int .i64 0) (.string ⟨#[]⟩) (.string ⟨#[]⟩) (.int .i64 0) (.int .i64 0) (.slice none 0 0) (.slice none 0 0) (.slice ao' j cap')) e p ao len cap T a bad) := fun e he => by
          obtain ⟨a7, c7, e7, ho7⟩ := apm_done hI.ap rfl (by omega)
          rw [hul] at e7 ho7
          injection e7 with e71 e72 e73
          subst e71
          subst e73
          refine ⟨(⟨5, 0, mkB [], mkB [], ⟨0, 0, []⟩, [], us⟩ : Tm), none, 0, 0, none, 0, 0, ao', j, cap', a5, true, he, gr_set9 hI.gr (Nat.le_refl _), hI.rdr.keepB (fun q hq => set9_other _ (by have := hI.rdr.lo; omega)) (set9_other _ (by omega)), HT0.out _ _ _ (rdo_bind HO.out (rdo_bind HRP.out (rdo_ret _ _ _ _))), ?_⟩
          have hsm : ∀ l : List UInt8, l.length ≤ 1048577 → (mkB l).size ≤ 9223372036854775807 := fun l hl => by
            have : (mkB l).size = l.length := by simp [mkB, ByteArray.size]
            omega
          have low := hI.low
          have hltw := hI.lt
          refine FmO.mk (M1 := W0.heap.size) (M2 := W0.heap.size) (hsm _ (by simp)) (hsm _ (by simp)) ?_ ?_ ?_ (by omega) (by omega) (by rw [set9_size]; omega)
          · exact OwR.nil _ _ _ _ _
          · exact OwR.nil _ _ _ _ _
          · exact ho7.keep (fun q hq1 hq2 => set9_other _ (by omega)) (by omega) (by rw [set9_size]; exact Nat.le_refl _)
        clear hI hL0
        go_wp2_with fail
        refine bodyPost_ret (v := .agg #[.int .i64 5, .int .i64 0, .string ⟨#[]⟩, .string ⟨#[]⟩, .int .i64 0, .int .i64 0, .slice none 0 0, .slice none 0 0, .slice ao' j cap']) (by simp [results, Try.results10, go_sem, r0, r1, r2, r3, r4, r5, r6, r7, r8]) rfl ?_
        exact HF.out _ rfl

      | false =>
        have hD := hI.drew
        have APR : Hid (∀ (w5 : World) (t : Tm) (r1 : Option Addr) (s1 u1 : Nat) (r2 : Option Addr) (s2 u2 : Nat) (r3 : Option Addr) (s3 u3 a6 : Nat) (b6 : Bool), wr.drew.grownBy w5 (some p) → Rdr L B w5 p ao len cap a6 b6 T → RdO (termS lv) T a5 false t a6 b6 → FmO wr.drew.heap.size w5.heap.size w5 7 lv t r1 s1 r2 s2 r3 s3 →
          ∃ g cp w6, (Builtin.append_ #[25, 25] 25 #[.slice ao' j cap', .slice (some ⟨w5.heap.size, 0, none⟩) 1 1]).run Try.prog (w5.alloc (.cells #[.int .i64 t.K, .int .i64 t.N, .string t.S, .string t.Z, .int .i64 t.T.K, .int .i64 t.T.N, .slice r1 s1 u1, .slice r2 s2 u2, .slice r3 s3 u3] 27)) = .ok (.slice (some ⟨g, 0, none⟩) (j + 1) cp) w6 ∧
            w5.cell? ⟨tb, 8, none⟩ = some (.slice ao' j cap') ∧ tb < w5.heap.size ∧ w6.cell? ⟨tb, 8, none⟩ = some (.slice ao' j cap') ∧ w6.frozen? ⟨tb, 8, none⟩ = false ∧
            SlLoop L B w W0 (w6.setCell ⟨tb, 8, none⟩ (.slice (some ⟨g, 0, none⟩) (j + 1) cp)) p ao len cap T a1 b1 tb W0.heap.size lv (.int .i64 5) (.int .i64 0) (.string ⟨#[]⟩) (.string ⟨#[]⟩) (.int .i64 0) (.int .i64 0) (.slice none 0 0) (.slice none 0 0) (.slice (some ⟨g, 0, none⟩) (j + 1) cp) (j + 1) a6 b6 (us ++ [t])) :=
          fun w5 t r1 s1 u1 r2 s2 u2 r3 s3 u3 a6 b6 hg hR hO ho => sl_next hD (by omega) (by omega) (by omega) (by omega) hg hR hO ho
        have y8 : wr.cell? ⟨tb, 8, none⟩ = some (.slice ao' j cap') := row_cell hI.box 8
        have e1 : IntKind.i64.wrap ((lv : Int) + 1 - 1) = lv := by rw [IntKind.wrap_i64] <;> omega
        have e2 : ((lv : Int) + 1 - 1) = lv := by omega
        have e3 : IntKind.i64.wrap (lv : Int) = lv := by rw [IntKind.wrap_i64] <;> omega
        have IHj := IH p ao len cap a5 L B false T wr.drew hT hD.rdr
        clear hI hL0 IH hD
        go_wp2_with fail
        go_region_law (first | (refine step_run hrun (by rfl) _ _ (by rfl) (by rfl) (by rfl) (by rfl) ?_) | (go_simp; go_at_call 10; refine IHj.mono ?_; rintro e w5 ⟨t, r1, s1, u1, r2, s2, u2, r3, s3, u3, a6, b6, rfl, hg5, hR5, hO5, ho5⟩; obtain ⟨g, cp, w6, hrun, v8, hz5, hc8, hf8, hN6⟩ := APR.out w5 t r1 s1 u1 r2 s2 u2 r3 s3 u3 a6 b6 hg5 hR5 hO5 ho5; have v9 : (w5.alloc (.cells #[.int .i64 t.K, .int .i64 t.N, .string t.S, .string t.Z, .int .i64 t.T.K, .int .i64 t.T.N, .slice r1 s1 u1, .slice r2 s2 u2, .slice r3 s3 u3] 27)).cell? ⟨tb, 8, none⟩ = some (.slice ao' j cap') := (World.cell?_of_block (Below.heap_alloc _ _ _ hz5)).trans v8))
        all_goals
          clear y8 v8 v9 hrun hc8 hf8
          go_wp2_with fail
          go_roundw
          case rel => exact ⟨j + 1, a6, b6, us ++ [t], _, by go_num, by omega, hN6⟩
          case measure => simp [intOf]; omega
    · have hltI : ¬ (j : Int) < 2 := by omega
      have xr := (hI.low w.heap.size (Nat.le_refl _) (by omega) (by omega)).trans hres0
      obtain ⟨r0, r1, r2, r3, r4, r5, r6, r7, r8⟩ := Nine.box xr
      have rf := row_free xr
      obtain ⟨q0, q1, q2, q3, q4, q5, q6, q7, q8⟩ := Nine.box hI.box
      have HRP : Hid (RdO (manyR (termS lv) 2) T a1 b1 us a5 b5) := rdo_parts hI.rdo (by omega) (Or.inl (by omega))
      have HF : Hid (∀ e, e = Ending.returned (.agg #[.int .i64 5, .int .i64 0, .string ⟨#[]⟩, .string ⟨#[]⟩, .int .i64 0, .int .i64 0, .slice none 0 0, .slice none 0 0, .slice ao' j cap']) → TmRs (lv + 1) L B w (set9 wr w.heap.size 0 (.int .i64 5) (.int .i64 0) (.string ⟨#[]⟩) (.string ⟨#[]⟩) (.int .i64 0) (.int .i64 0) (.slice none 0 0) (.slice none 0 0) (.slice ao' j cap')) e p ao len cap T a bad) := fun e he => by
        obtain ⟨a7, c7, e7, ho7⟩ := apm_done hI.ap rfl (by omega)
        rw [hul] at e7 ho7
        injection e7 with e71 e72 e73
        subst e71
        subst e73
        refine ⟨(⟨5, 0, mkB [], mkB [], ⟨0, 0, []⟩, [], us⟩ : Tm), none, 0, 0, none, 0, 0, ao', j, cap', a5, b5, he, gr_set9 hI.gr (Nat.le_refl _), hI.rdr.keepB (fun q hq => set9_other _ (by have := hI.rdr.lo; omega)) (set9_other _ (by omega)), HT0.out _ _ _ (rdo_bind HO.out (rdo_bind HRP.out (rdo_ret _ _ _ _))), ?_⟩
        have hsm : ∀ l : List UInt8, l.length ≤ 1048577 → (mkB l).size ≤ 9223372036854775807 := fun l hl => by
          have : (mkB l).size = l.length := by simp [mkB, ByteArray.size]
          omega
        have low := hI.low
        have hltw := hI.lt
        refine FmO.mk (M1 := W0.heap.size) (M2 := W0.heap.size) (hsm _ (by simp)) (hsm _ (by simp)) ?_ ?_ ?_ (by omega) (by omega) (by rw [set9_size]; omega)
        · exact OwR.nil _ _ _ _ _
        · exact OwR.nil _ _ _ _ _
        · exact ho7.keep (fun q hq1 hq2 => set9_other _ (by omega)) (by omega) (by rw [set9_size]; exact Nat.le_refl _)
      clear hI hL0
      go_wp2_with fail
      refine bodyPost_ret (v := .agg #[.int .i64 5, .int .i64 0, .string ⟨#[]⟩, .string ⟨#[]⟩, .int .i64 0, .int .i64 0, .slice none 0 0, .slice none 0 0, .slice ao' j cap']) (by simp [results, Try.results10, go_sem, r0, r1, r2, r3, r4, r5, r6, r7, r8]) rfl ?_
      exact HF.out _ rfl


set_option maxRecDepth 100000 in
set_option maxHeartbeats 4000000 in
theorem read_8 (lv : Nat) (hlv : lv ≤ 24) (IH : SaidSr lv) (p : Nat) (ao : Option Addr) (len cap a L B : Nat) (bad : Bool) (T : List (List UInt8)) (w : World) (hT : ∀ x ∈ T, x.length ≤ 1048577) (h : Rdr L B w p ao len cap a bad T) (hk : kindW (firstT T a bad) = 8) :
    Calls Try.prog 10 #[.pointer (some ⟨p, 0, none⟩), .int .i64 ((lv + 1 : Nat) : Int)] w fun e w' => TmRs (lv + 1) L B w w' e p ao len cap T a bad := by
  have hp := h.lt
  obtain ⟨X, hX⟩ : ∃ X, X = w.alloc (.cells #[.int .i64 0, .int .i64 0, .string ⟨#[]⟩, .string ⟨#[]⟩, .int .i64 0, .int .i64 0, .slice none 0 0, .slice none 0 0, .slice none 0 0] 27) := ⟨_, rfl⟩
  have hXb : Below w.heap.size w X := by rw [hX]; exact (Below.refl _ _).alloc (Nat.le_refl _) _
  have hXs : X.heap.size = w.heap.size + 1 := by rw [hX]; simp
  have hXr : X.heap[w.heap.size]? = some (.cells #[.int .i64 0, .int .i64 0, .string ⟨#[]⟩, .string ⟨#[]⟩, .int .i64 0, .int .i64 0, .slice none 0 0, .slice none 0 0, .slice none 0 0] 27 (0, 0)) := by rw [hX]; exact heap_new rfl
  have hRX := h.below hXb
  have HX : Hid (X = _) := hX
  have hlv0 : (((lv + 1 : Nat) : Int) == 0) = false := by rw [beq_eq_false_iff_ne]; omega
  have hlv1 : ((lv : Int) + 1 == 0) = false := by rw [beq_eq_false_iff_ne]; omega
  clear hX
  go_enter Try.func10, Try.ntmps10
  go_wp2_with fail
  rw [← HX.out]
  refine (snext_first p ao len cap a L B bad T _ hT hRX).mono ?_
  obtain ⟨x, hx⟩ : ∃ x, x = firstT T a bad := ⟨_, rfl⟩
  rw [← hx] at hk ⊢
  rintro e w1 ⟨a1, b1, rfl, hg1, hR1, hO1⟩
  have hz1 := hg1.size
  have hr1 := (hg1.block w.heap.size (by omega) (by simp; omega)).trans hXr
  have hgw1 : w.grownBy w1 (some p) := gr_trans (gr_below hXb) hg1
  have KK : Hid (∀ w : World, Calls Try.prog 26 #[.string ⟨x.toArray⟩] w fun e w' => e = .returned (.int .i64 8) ∧ Below w.heap.size w w') := fun w => by rw [← hk]; exact l2Kind_any x w
  have HT0 : Hid (∀ t a' b', RdO ((hdS x 8).bind fun h => (manyR (termS lv) 3).bind fun ps => Rr.ret (⟨8, h.n, mkB h.s, mkB h.z, h.t, h.ts, ps⟩ : Tm)) T a1 b1 t a' b' → RdO (termS (lv + 1)) T a bad t a' b') := fun t a' b' hr => rdo_bind (x := x) hO1 (by
    rw [hk]
    exact rdo_neg (by decide) hr)
  clear hx hk
  show _
  unfold tk
  go_wp2_with fail
  refine (KK.out _).mono ?_
  rintro e w2 ⟨rfl, hb2⟩
  have hz2 := hb2.size
  obtain ⟨W2, hW2⟩ : ∃ W2, W2 = w2.alloc (.cells #[.int .i64 8, .int .i64 0, .string ⟨#[]⟩, .string ⟨#[]⟩, .int .i64 0, .int .i64 0, .slice none 0 0, .slice none 0 0, .slice none 0 0] 27) := ⟨_, rfl⟩
  have hbW2 : Below w2.heap.size w2 W2 := by rw [hW2]; exact (Below.refl _ _).alloc (Nat.le_refl _) _
  have hzW2 : W2.heap.size = w2.heap.size + 1 := by rw [hW2]; simp
  have hxW2 : W2.heap[w2.heap.size]? = some (.cells #[.int .i64 8, .int .i64 0, .string ⟨#[]⟩, .string ⟨#[]⟩, .int .i64 0, .int .i64 0, .slice none 0 0, .slice none 0 0, .slice none 0 0] 27 (0, 0)) := by rw [hW2]; exact heap_new rfl
  have hb12 : Below w1.heap.size w1 W2 := hb2.trans (hbW2.mono hz2)
  have HW2 : Hid (W2 = _) := hW2
  have KO : Hid (∀ w : World, Calls Try.prog 27 #[.int .i64 8] w fun e w' => e = .returned (.agg #[.int .i64 3, .int .i64 0, .bool false, .bool false, .bool false]) ∧ Below w.heap.size w w') := fun w => l2Of_any 8 w
  obtain ⟨g0, _, _, _, _, _, _, _, _⟩ := Nine.box hxW2
  clear hW2
  go_upto_region 3 with fail
  rw [← HW2.out]
  go_wp2_with fail
  refine (KO.out _).mono ?_
  rintro e w3 ⟨rfl, hb3⟩
  have hz3 := hb3.size
  obtain ⟨W3, hW3⟩ : ∃ W3, W3 = w3.alloc (.cells #[.int .i64 3, .int .i64 0, .bool false, .bool false, .bool false] 55) := ⟨_, rfl⟩
  have hbW3 : Below w3.heap.size w3 W3 := by rw [hW3]; exact (Below.refl _ _).alloc (Nat.le_refl _) _
  have hzW3 : W3.heap.size = w3.heap.size + 1 := by rw [hW3]; simp
  have hsW3 : W3.heap[w3.heap.size]? = some (.cells #[.int .i64 3, .int .i64 0, .bool false, .bool false, .bool false] 55 (0, 0)) := by rw [hW3]; exact heap_new rfl
  have hb13 : Below w1.heap.size w1 W3 := (hb12.trans (hb3.mono (by omega))).trans (hbW3.mono (by omega))
  have HW3 : Hid (W3 = _) := hW3
  have h0 : LdRel L B w W3 p ao len cap a1 b1 T w2.heap.size w3.heap.size #[.int .i64 8, .int .i64 0, .string ⟨#[]⟩, .string ⟨#[]⟩, .int .i64 0, .int .i64 0, .slice none 0 0, .slice none 0 0, .slice none 0 0] #[.int .i64 3, .int .i64 0, .bool false, .bool false, .bool false] :=
    ⟨gr_trans hgw1 (gr_below hb13), hR1.below hb13, (hb13.block _ (by omega)).trans hr1, (hbW3.block _ (by omega)).trans ((hb3.block _ (by omega)).trans hxW2), hsW3, by omega, by omega, by omega⟩
  obtain ⟨tb, htb⟩ : ∃ tb, tb = w2.heap.size := ⟨_, rfl⟩
  obtain ⟨hb, hhb⟩ : ∃ hb, hb = w3.heap.size := ⟨_, rfl⟩
  have HTB : Hid (tb = w2.heap.size) := htb
  have HHB : Hid (hb = w3.heap.size) := hhb
  rw [← htb, ← hhb] at h0
  clear hW3 htb hhb g0 hxW2 hsW3 hXr hr1 hRX hb12 hb13 hb2 hbW2 hb3 hbW3 hg1 hR1 hgw1 hO1 hXb
  go_upto_region 4 with fail
  rw [← HW3.out, ← HTB.out, ← HHB.out]
  clear hz1 hz2 hz3 hzW2 hzW3 hXs
  have kb := h0.box
  try simp only [List.setIfInBounds_toArray, List.set_cons_zero, List.set_cons_succ] at kb
  obtain ⟨c0, c1, c2, c3, c4, c5, c6, c7, c8⟩ := Nine.box kb
  have s0 := row_cell h0.sh 0
  have s2 := row_cell h0.sh 2
  have s3 := row_cell h0.sh 3
  have s4 := row_cell h0.sh 4
  simp only [List.getElem?_toArray, List.getElem?_cons_zero, List.getElem?_cons_succ] at s0 s2 s3 s4
  obtain ⟨rr0, rr1, rr2⟩ := box_cells h0.rdr.row
  have bf := row_free h0.box
  have HO : Hid (RdO (hdS x 8) T a1 b1 ⟨0, [], [], ⟨0, 0, []⟩, []⟩ a1 b1) := rdo_bind ((rdo_neg (by decide) (rdo_neg (by decide) (rdo_neg (by decide) (rdo_ret _ _ _ _))))) (rdo_bind ((rdo_neg (by decide) (rdo_ret _ _ _ _))) (rdo_bind ((rdo_neg (by decide) (rdo_ret _ _ _ _))) (rdo_bind ((rdo_neg (by decide) (rdo_ret _ _ _ _))) (rdo_bind ((rdo_neg (by decide) (rdo_ret _ _ _ _))) (rdo_bind ((rdo_neg (by decide) (rdo_ret _ _ _ _))) (rdo_bind ((rdo_ret _ _ _ _)) (rdo_ret _ _ _ _)))))))
  obtain ⟨W0, hW0⟩ : ∃ W0, W0 = W3 := ⟨_, rfl⟩
  have hLd := h0
  rw [← hW0] at hLd
  have HW0 : Hid (W0 = _) := hW0
  have hbx0 := hLd.box
  try simp only [List.setIfInBounds_toArray, List.set_cons_zero, List.set_cons_succ] at hbx0
  have lt1 := hLd.lt1
  have lt2 := hLd.lt2
  have lt3 := hLd.lt3
  have hzw := hLd.gr.size
  have hL0 : SlLoop L B w W0 W0 p ao len cap T a1 b1 tb W0.heap.size lv (.int .i64 8) (.int .i64 0) (.string ⟨#[]⟩) (.string ⟨#[]⟩) (.int .i64 0) (.int .i64 0) (.slice none 0 0) (.slice none 0 0) (.slice none 0 0) 0 a1 b1 [] := ⟨hLd.gr, hLd.rdr, hbx0, rdo_ret _ _ _ _, rfl, apm_nil _ _ _ _ _, fun _ _ _ _ => rfl, Nat.le_refl _⟩
  have hsh0 := hLd.sh
  have hres0 := hLd.res
  clear hLd hW0 hbx0
  go_wp2_with fail
  clear kb c0 c1 c2 c3 c4 c5 c6 c7 c8 s0 s2 s3 s4 rr0 rr1 rr2 bf
  rw [← HW0.out]
  refine wp_loop_rounds 1 ?_
  rw [rounds_succ]
  go_wp2_with fail
  go_loopw [10] (fun i wr => ∃ (j a5 : Nat) (b5 : Bool) (us : List Tm) (v : Value), i = .int .i64 j ∧ j ≤ 3 ∧ SlLoop L B w W0 wr p ao len cap T a1 b1 tb W0.heap.size lv (.int .i64 8) (.int .i64 0) (.string ⟨#[]⟩) (.string ⟨#[]⟩) (.int .i64 0) (.int .i64 0) (.slice none 0 0) (.slice none 0 0) v j a5 b5 us) (fun i _ => 3 - (intOf i).toNat)
  case atStart => exact ⟨0, a1, b1, [], _, rfl, by omega, hL0⟩
  case round =>
    obtain ⟨j, a5, b5, us, v, rfl, hj, hI⟩ := hrel
    obtain ⟨ao', cap', hv⟩ := apm_form hI.ap
    have hul := hI.ul
    rw [hul] at hv
    subst hv
    have hzr := hI.gr.size
    have hltr := hI.lt
    have shr := (hI.low hb (by omega) (by omega) (by omega)).trans hsh0
    have sp := row_cell shr 0
    simp only [List.getElem?_toArray, List.getElem?_cons_zero] at sp
    obtain ⟨f0, f1, f2⟩ := box_cells hI.rdr.row
    by_cases hlt : j < 3
    · have hltI : (j : Int) < 3 := by omega
      cases b5 with
      | true =>
        have xr := (hI.low w.heap.size (Nat.le_refl _) (by omega) (by omega)).trans hres0
        obtain ⟨r0, r1, r2, r3, r4, r5, r6, r7, r8⟩ := Nine.box xr
        have rf := row_free xr
        obtain ⟨q0, q1, q2, q3, q4, q5, q6, q7, q8⟩ := Nine.box hI.box
        have HRP : Hid (RdO (manyR (termS lv) 3) T a1 b1 us a5 true) := rdo_parts hI.rdo (by omega) (Or.inr rfl)
        have HF : Hid (∀ e, e = Ending.returned (.agg #[.int .i64 8, .int .i64 0, .string ⟨#[]⟩, .string ⟨#[]⟩, .int .i64 0, .int .i64 0, .slice none 0 0, .slice none 0 0, .slice ao' j cap']) → TmRs (lv + 1) L B w (set9 wr w.heap.size 0 (.int .i64 8) (.int .i64 0) (.string ⟨#[]⟩) (.string ⟨#[]⟩) (.int .i64 0) (.int .i64 0) (.slice none 0 0) (.slice none 0 0) (.slice ao' j cap')) e p ao len cap T a bad) := fun e he => by
          obtain ⟨a7, c7, e7, ho7⟩ := apm_done hI.ap rfl (by omega)
          rw [hul] at e7 ho7
          injection e7 with e71 e72 e73
          subst e71
          subst e73
          refine ⟨(⟨8, 0, mkB [], mkB [], ⟨0, 0, []⟩, [], us⟩ : Tm), none, 0, 0, none, 0, 0, ao', j, cap', a5, true, he, gr_set9 hI.gr (Nat.le_refl _), hI.rdr.keepB (fun q hq => set9_other _ (by have := hI.rdr.lo; omega)) (set9_other _ (by omega)), HT0.out _ _ _ (rdo_bind HO.out (rdo_bind HRP.out (rdo_ret _ _ _ _))), ?_⟩
          have hsm : ∀ l : List UInt8, l.length ≤ 1048577 → (mkB l).size ≤ 9223372036854775807 := fun l hl => by
            have : (mkB l).size = l.length := by simp [mkB, ByteArray.size]
            omega
          have low := hI.low
          have hltw := hI.lt
          refine FmO.mk (M1 := W0.heap.size) (M2 := W0.heap.size) (hsm _ (by simp)) (hsm _ (by simp)) ?_ ?_ ?_ (by omega) (by omega) (by rw [set9_size]; omega)
          · exact OwR.nil _ _ _ _ _
          · exact OwR.nil _ _ _ _ _
          · exact ho7.keep (fun q hq1 hq2 => set9_other _ (by omega)) (by omega) (by rw [set9_size]; exact Nat.le_refl _)
        clear hI hL0
        go_wp2_with fail
        refine bodyPost_ret (v := .agg #[.int .i64 8, .int .i64 0, .string ⟨#[]⟩, .string ⟨#[]⟩, .int .i64 0, .int .i64 0, .slice none 0 0, .slice none 0 0, .slice ao' j cap']) (by simp [results, Try.results10, go_sem, r0, r1, r2, r3, r4, r5, r6, r7, r8]) rfl ?_
        exact HF.out _ rfl

      | false =>
        have hD := hI.drew
        have APR : Hid (∀ (w5 : World) (t : Tm) (r1 : Option Addr) (s1 u1 : Nat) (r2 : Option Addr) (s2 u2 : Nat) (r3 : Option Addr) (s3 u3 a6 : Nat) (b6 : Bool), wr.drew.grownBy w5 (some p) → Rdr L B w5 p ao len cap a6 b6 T → RdO (termS lv) T a5 false t a6 b6 → FmO wr.drew.heap.size w5.heap.size w5 7 lv t r1 s1 r2 s2 r3 s3 →
          ∃ g cp w6, (Builtin.append_ #[25, 25] 25 #[.slice ao' j cap', .slice (some ⟨w5.heap.size, 0, none⟩) 1 1]).run Try.prog (w5.alloc (.cells #[.int .i64 t.K, .int .i64 t.N, .string t.S, .string t.Z, .int .i64 t.T.K, .int .i64 t.T.N, .slice r1 s1 u1, .slice r2 s2 u2, .slice r3 s3 u3] 27)) = .ok (.slice (some ⟨g, 0, none⟩) (j + 1) cp) w6 ∧
            w5.cell? ⟨tb, 8, none⟩ = some (.slice ao' j cap') ∧ tb < w5.heap.size ∧ w6.cell? ⟨tb, 8, none⟩ = some (.slice ao' j cap') ∧ w6.frozen? ⟨tb, 8, none⟩ = false ∧
            SlLoop L B w W0 (w6.setCell ⟨tb, 8, none⟩ (.slice (some ⟨g, 0, none⟩) (j + 1) cp)) p ao len cap T a1 b1 tb W0.heap.size lv (.int .i64 8) (.int .i64 0) (.string ⟨#[]⟩) (.string ⟨#[]⟩) (.int .i64 0) (.int .i64 0) (.slice none 0 0) (.slice none 0 0) (.slice (some ⟨g, 0, none⟩) (j + 1) cp) (j + 1) a6 b6 (us ++ [t])) :=
          fun w5 t r1 s1 u1 r2 s2 u2 r3 s3 u3 a6 b6 hg hR hO ho => sl_next hD (by omega) (by omega) (by omega) (by omega) hg hR hO ho
        have y8 : wr.cell? ⟨tb, 8, none⟩ = some (.slice ao' j cap') := row_cell hI.box 8
        have e1 : IntKind.i64.wrap ((lv : Int) + 1 - 1) = lv := by rw [IntKind.wrap_i64] <;> omega
        have e2 : ((lv : Int) + 1 - 1) = lv := by omega
        have e3 : IntKind.i64.wrap (lv : Int) = lv := by rw [IntKind.wrap_i64] <;> omega
        have IHj := IH p ao len cap a5 L B false T wr.drew hT hD.rdr
        clear hI hL0 IH hD
        go_wp2_with fail
        go_region_law (first | (refine step_run hrun (by rfl) _ _ (by rfl) (by rfl) (by rfl) (by rfl) ?_) | (go_simp; go_at_call 10; refine IHj.mono ?_; rintro e w5 ⟨t, r1, s1, u1, r2, s2, u2, r3, s3, u3, a6, b6, rfl, hg5, hR5, hO5, ho5⟩; obtain ⟨g, cp, w6, hrun, v8, hz5, hc8, hf8, hN6⟩ := APR.out w5 t r1 s1 u1 r2 s2 u2 r3 s3 u3 a6 b6 hg5 hR5 hO5 ho5; have v9 : (w5.alloc (.cells #[.int .i64 t.K, .int .i64 t.N, .string t.S, .string t.Z, .int .i64 t.T.K, .int .i64 t.T.N, .slice r1 s1 u1, .slice r2 s2 u2, .slice r3 s3 u3] 27)).cell? ⟨tb, 8, none⟩ = some (.slice ao' j cap') := (World.cell?_of_block (Below.heap_alloc _ _ _ hz5)).trans v8))
        all_goals
          clear y8 v8 v9 hrun hc8 hf8
          go_wp2_with fail
          go_roundw
          case rel => exact ⟨j + 1, a6, b6, us ++ [t], _, by go_num, by omega, hN6⟩
          case measure => simp [intOf]; omega
    · have hltI : ¬ (j : Int) < 3 := by omega
      have xr := (hI.low w.heap.size (Nat.le_refl _) (by omega) (by omega)).trans hres0
      obtain ⟨r0, r1, r2, r3, r4, r5, r6, r7, r8⟩ := Nine.box xr
      have rf := row_free xr
      obtain ⟨q0, q1, q2, q3, q4, q5, q6, q7, q8⟩ := Nine.box hI.box
      have HRP : Hid (RdO (manyR (termS lv) 3) T a1 b1 us a5 b5) := rdo_parts hI.rdo (by omega) (Or.inl (by omega))
      have HF : Hid (∀ e, e = Ending.returned (.agg #[.int .i64 8, .int .i64 0, .string ⟨#[]⟩, .string ⟨#[]⟩, .int .i64 0, .int .i64 0, .slice none 0 0, .slice none 0 0, .slice ao' j cap']) → TmRs (lv + 1) L B w (set9 wr w.heap.size 0 (.int .i64 8) (.int .i64 0) (.string ⟨#[]⟩) (.string ⟨#[]⟩) (.int .i64 0) (.int .i64 0) (.slice none 0 0) (.slice none 0 0) (.slice ao' j cap')) e p ao len cap T a bad) := fun e he => by
        obtain ⟨a7, c7, e7, ho7⟩ := apm_done hI.ap rfl (by omega)
        rw [hul] at e7 ho7
        injection e7 with e71 e72 e73
        subst e71
        subst e73
        refine ⟨(⟨8, 0, mkB [], mkB [], ⟨0, 0, []⟩, [], us⟩ : Tm), none, 0, 0, none, 0, 0, ao', j, cap', a5, b5, he, gr_set9 hI.gr (Nat.le_refl _), hI.rdr.keepB (fun q hq => set9_other _ (by have := hI.rdr.lo; omega)) (set9_other _ (by omega)), HT0.out _ _ _ (rdo_bind HO.out (rdo_bind HRP.out (rdo_ret _ _ _ _))), ?_⟩
        have hsm : ∀ l : List UInt8, l.length ≤ 1048577 → (mkB l).size ≤ 9223372036854775807 := fun l hl => by
          have : (mkB l).size = l.length := by simp [mkB, ByteArray.size]
          omega
        have low := hI.low
        have hltw := hI.lt
        refine FmO.mk (M1 := W0.heap.size) (M2 := W0.heap.size) (hsm _ (by simp)) (hsm _ (by simp)) ?_ ?_ ?_ (by omega) (by omega) (by rw [set9_size]; omega)
        · exact OwR.nil _ _ _ _ _
        · exact OwR.nil _ _ _ _ _
        · exact ho7.keep (fun q hq1 hq2 => set9_other _ (by omega)) (by omega) (by rw [set9_size]; exact Nat.le_refl _)
      clear hI hL0
      go_wp2_with fail
      refine bodyPost_ret (v := .agg #[.int .i64 8, .int .i64 0, .string ⟨#[]⟩, .string ⟨#[]⟩, .int .i64 0, .int .i64 0, .slice none 0 0, .slice none 0 0, .slice ao' j cap']) (by simp [results, Try.results10, go_sem, r0, r1, r2, r3, r4, r5, r6, r7, r8]) rfl ?_
      exact HF.out _ rfl


set_option maxRecDepth 100000 in
set_option maxHeartbeats 4000000 in
theorem read_9 (lv : Nat) (hlv : lv ≤ 24) (IH : SaidSr lv) (p : Nat) (ao : Option Addr) (len cap a L B : Nat) (bad : Bool) (T : List (List UInt8)) (w : World) (hT : ∀ x ∈ T, x.length ≤ 1048577) (h : Rdr L B w p ao len cap a bad T) (hk : kindW (firstT T a bad) = 9) :
    Calls Try.prog 10 #[.pointer (some ⟨p, 0, none⟩), .int .i64 ((lv + 1 : Nat) : Int)] w fun e w' => TmRs (lv + 1) L B w w' e p ao len cap T a bad := by
  have hp := h.lt
  obtain ⟨X, hX⟩ : ∃ X, X = w.alloc (.cells #[.int .i64 0, .int .i64 0, .string ⟨#[]⟩, .string ⟨#[]⟩, .int .i64 0, .int .i64 0, .slice none 0 0, .slice none 0 0, .slice none 0 0] 27) := ⟨_, rfl⟩
  have hXb : Below w.heap.size w X := by rw [hX]; exact (Below.refl _ _).alloc (Nat.le_refl _) _
  have hXs : X.heap.size = w.heap.size + 1 := by rw [hX]; simp
  have hXr : X.heap[w.heap.size]? = some (.cells #[.int .i64 0, .int .i64 0, .string ⟨#[]⟩, .string ⟨#[]⟩, .int .i64 0, .int .i64 0, .slice none 0 0, .slice none 0 0, .slice none 0 0] 27 (0, 0)) := by rw [hX]; exact heap_new rfl
  have hRX := h.below hXb
  have HX : Hid (X = _) := hX
  have hlv0 : (((lv + 1 : Nat) : Int) == 0) = false := by rw [beq_eq_false_iff_ne]; omega
  have hlv1 : ((lv : Int) + 1 == 0) = false := by rw [beq_eq_false_iff_ne]; omega
  clear hX
  go_enter Try.func10, Try.ntmps10
  go_wp2_with fail
  rw [← HX.out]
  refine (snext_first p ao len cap a L B bad T _ hT hRX).mono ?_
  obtain ⟨x, hx⟩ : ∃ x, x = firstT T a bad := ⟨_, rfl⟩
  rw [← hx] at hk ⊢
  rintro e w1 ⟨a1, b1, rfl, hg1, hR1, hO1⟩
  have hz1 := hg1.size
  have hr1 := (hg1.block w.heap.size (by omega) (by simp; omega)).trans hXr
  have hgw1 : w.grownBy w1 (some p) := gr_trans (gr_below hXb) hg1
  have KK : Hid (∀ w : World, Calls Try.prog 26 #[.string ⟨x.toArray⟩] w fun e w' => e = .returned (.int .i64 9) ∧ Below w.heap.size w w') := fun w => by rw [← hk]; exact l2Kind_any x w
  have HT0 : Hid (∀ t a' b', RdO ((hdS x 9).bind fun h => (manyR (termS lv) 2).bind fun ps => Rr.ret (⟨9, h.n, mkB h.s, mkB h.z, h.t, h.ts, ps⟩ : Tm)) T a1 b1 t a' b' → RdO (termS (lv + 1)) T a bad t a' b') := fun t a' b' hr => rdo_bind (x := x) hO1 (by
    rw [hk]
    exact rdo_neg (by decide) hr)
  clear hx hk
  show _
  unfold tk
  go_wp2_with fail
  refine (KK.out _).mono ?_
  rintro e w2 ⟨rfl, hb2⟩
  have hz2 := hb2.size
  obtain ⟨W2, hW2⟩ : ∃ W2, W2 = w2.alloc (.cells #[.int .i64 9, .int .i64 0, .string ⟨#[]⟩, .string ⟨#[]⟩, .int .i64 0, .int .i64 0, .slice none 0 0, .slice none 0 0, .slice none 0 0] 27) := ⟨_, rfl⟩
  have hbW2 : Below w2.heap.size w2 W2 := by rw [hW2]; exact (Below.refl _ _).alloc (Nat.le_refl _) _
  have hzW2 : W2.heap.size = w2.heap.size + 1 := by rw [hW2]; simp
  have hxW2 : W2.heap[w2.heap.size]? = some (.cells #[.int .i64 9, .int .i64 0, .string ⟨#[]⟩, .string ⟨#[]⟩, .int .i64 0, .int .i64 0, .slice none 0 0, .slice none 0 0, .slice none 0 0] 27 (0, 0)) := by rw [hW2]; exact heap_new rfl
  have hb12 : Below w1.heap.size w1 W2 := hb2.trans (hbW2.mono hz2)
  have HW2 : Hid (W2 = _) := hW2
  have KO : Hid (∀ w : World, Calls Try.prog 27 #[.int .i64 9] w fun e w' => e = .returned (.agg #[.int .i64 2, .int .i64 0, .bool false, .bool false, .bool false]) ∧ Below w.heap.size w w') := fun w => l2Of_any 9 w
  obtain ⟨g0, _, _, _, _, _, _, _, _⟩ := Nine.box hxW2
  clear hW2
  go_upto_region 3 with fail
  rw [← HW2.out]
  go_wp2_with fail
  refine (KO.out _).mono ?_
  rintro e w3 ⟨rfl, hb3⟩
  have hz3 := hb3.size
  obtain ⟨W3, hW3⟩ : ∃ W3, W3 = w3.alloc (.cells #[.int .i64 2, .int .i64 0, .bool false, .bool false, .bool false] 55) := ⟨_, rfl⟩
  have hbW3 : Below w3.heap.size w3 W3 := by rw [hW3]; exact (Below.refl _ _).alloc (Nat.le_refl _) _
  have hzW3 : W3.heap.size = w3.heap.size + 1 := by rw [hW3]; simp
  have hsW3 : W3.heap[w3.heap.size]? = some (.cells #[.int .i64 2, .int .i64 0, .bool false, .bool false, .bool false] 55 (0, 0)) := by rw [hW3]; exact heap_new rfl
  have hb13 : Below w1.heap.size w1 W3 := (hb12.trans (hb3.mono (by omega))).trans (hbW3.mono (by omega))
  have HW3 : Hid (W3 = _) := hW3
  have h0 : LdRel L B w W3 p ao len cap a1 b1 T w2.heap.size w3.heap.size #[.int .i64 9, .int .i64 0, .string ⟨#[]⟩, .string ⟨#[]⟩, .int .i64 0, .int .i64 0, .slice none 0 0, .slice none 0 0, .slice none 0 0] #[.int .i64 2, .int .i64 0, .bool false, .bool false, .bool false] :=
    ⟨gr_trans hgw1 (gr_below hb13), hR1.below hb13, (hb13.block _ (by omega)).trans hr1, (hbW3.block _ (by omega)).trans ((hb3.block _ (by omega)).trans hxW2), hsW3, by omega, by omega, by omega⟩
  obtain ⟨tb, htb⟩ : ∃ tb, tb = w2.heap.size := ⟨_, rfl⟩
  obtain ⟨hb, hhb⟩ : ∃ hb, hb = w3.heap.size := ⟨_, rfl⟩
  have HTB : Hid (tb = w2.heap.size) := htb
  have HHB : Hid (hb = w3.heap.size) := hhb
  rw [← htb, ← hhb] at h0
  clear hW3 htb hhb g0 hxW2 hsW3 hXr hr1 hRX hb12 hb13 hb2 hbW2 hb3 hbW3 hg1 hR1 hgw1 hO1 hXb
  go_upto_region 4 with fail
  rw [← HW3.out, ← HTB.out, ← HHB.out]
  clear hz1 hz2 hz3 hzW2 hzW3 hXs
  have kb := h0.box
  try simp only [List.setIfInBounds_toArray, List.set_cons_zero, List.set_cons_succ] at kb
  obtain ⟨c0, c1, c2, c3, c4, c5, c6, c7, c8⟩ := Nine.box kb
  have s0 := row_cell h0.sh 0
  have s2 := row_cell h0.sh 2
  have s3 := row_cell h0.sh 3
  have s4 := row_cell h0.sh 4
  simp only [List.getElem?_toArray, List.getElem?_cons_zero, List.getElem?_cons_succ] at s0 s2 s3 s4
  obtain ⟨rr0, rr1, rr2⟩ := box_cells h0.rdr.row
  have bf := row_free h0.box
  have HO : Hid (RdO (hdS x 9) T a1 b1 ⟨0, [], [], ⟨0, 0, []⟩, []⟩ a1 b1) := rdo_bind ((rdo_neg (by decide) (rdo_neg (by decide) (rdo_neg (by decide) (rdo_ret _ _ _ _))))) (rdo_bind ((rdo_neg (by decide) (rdo_ret _ _ _ _))) (rdo_bind ((rdo_neg (by decide) (rdo_ret _ _ _ _))) (rdo_bind ((rdo_neg (by decide) (rdo_ret _ _ _ _))) (rdo_bind ((rdo_neg (by decide) (rdo_ret _ _ _ _))) (rdo_bind ((rdo_neg (by decide) (rdo_ret _ _ _ _))) (rdo_bind ((rdo_ret _ _ _ _)) (rdo_ret _ _ _ _)))))))
  obtain ⟨W0, hW0⟩ : ∃ W0, W0 = W3 := ⟨_, rfl⟩
  have hLd := h0
  rw [← hW0] at hLd
  have HW0 : Hid (W0 = _) := hW0
  have hbx0 := hLd.box
  try simp only [List.setIfInBounds_toArray, List.set_cons_zero, List.set_cons_succ] at hbx0
  have lt1 := hLd.lt1
  have lt2 := hLd.lt2
  have lt3 := hLd.lt3
  have hzw := hLd.gr.size
  have hL0 : SlLoop L B w W0 W0 p ao len cap T a1 b1 tb W0.heap.size lv (.int .i64 9) (.int .i64 0) (.string ⟨#[]⟩) (.string ⟨#[]⟩) (.int .i64 0) (.int .i64 0) (.slice none 0 0) (.slice none 0 0) (.slice none 0 0) 0 a1 b1 [] := ⟨hLd.gr, hLd.rdr, hbx0, rdo_ret _ _ _ _, rfl, apm_nil _ _ _ _ _, fun _ _ _ _ => rfl, Nat.le_refl _⟩
  have hsh0 := hLd.sh
  have hres0 := hLd.res
  clear hLd hW0 hbx0
  go_wp2_with fail
  clear kb c0 c1 c2 c3 c4 c5 c6 c7 c8 s0 s2 s3 s4 rr0 rr1 rr2 bf
  rw [← HW0.out]
  refine wp_loop_rounds 1 ?_
  rw [rounds_succ]
  go_wp2_with fail
  go_loopw [10] (fun i wr => ∃ (j a5 : Nat) (b5 : Bool) (us : List Tm) (v : Value), i = .int .i64 j ∧ j ≤ 2 ∧ SlLoop L B w W0 wr p ao len cap T a1 b1 tb W0.heap.size lv (.int .i64 9) (.int .i64 0) (.string ⟨#[]⟩) (.string ⟨#[]⟩) (.int .i64 0) (.int .i64 0) (.slice none 0 0) (.slice none 0 0) v j a5 b5 us) (fun i _ => 2 - (intOf i).toNat)
  case atStart => exact ⟨0, a1, b1, [], _, rfl, by omega, hL0⟩
  case round =>
    obtain ⟨j, a5, b5, us, v, rfl, hj, hI⟩ := hrel
    obtain ⟨ao', cap', hv⟩ := apm_form hI.ap
    have hul := hI.ul
    rw [hul] at hv
    subst hv
    have hzr := hI.gr.size
    have hltr := hI.lt
    have shr := (hI.low hb (by omega) (by omega) (by omega)).trans hsh0
    have sp := row_cell shr 0
    simp only [List.getElem?_toArray, List.getElem?_cons_zero] at sp
    obtain ⟨f0, f1, f2⟩ := box_cells hI.rdr.row
    by_cases hlt : j < 2
    · have hltI : (j : Int) < 2 := by omega
      cases b5 with
      | true =>
        have xr := (hI.low w.heap.size (Nat.le_refl _) (by omega) (by omega)).trans hres0
        obtain ⟨r0, r1, r2, r3, r4, r5, r6, r7, r8⟩ := Nine.box xr
        have rf := row_free xr
        obtain ⟨q0, q1, q2, q3, q4, q5, q6, q7, q8⟩ := Nine.box hI.box
        have HRP : Hid (RdO (manyR (termS lv) 2) T a1 b1 us a5 true) := rdo_parts hI.rdo (by omega) (Or.inr rfl)
        have HF : Hid (∀ e, e = Ending.returned (.agg #[.int .i64 9, .int .i64 0, .string ⟨#[]⟩, .string ⟨#[]⟩, .int .i64 0, .int .i64 0, .slice none 0 0, .slice none 0 0, .slice ao' j cap']) → TmRs (lv + 1) L B w (set9 wr w.heap.size 0 (.int .i64 9) (.int .i64 0) (.string ⟨#[]⟩) (.string ⟨#[]⟩) (.int .i64 0) (.int .i64 0) (.slice none 0 0) (.slice none 0 0) (.slice ao' j cap')) e p ao len cap T a bad) := fun e he => by
          obtain ⟨a7, c7, e7, ho7⟩ := apm_done hI.ap rfl (by omega)
          rw [hul] at e7 ho7
          injection e7 with e71 e72 e73
          subst e71
          subst e73
          refine ⟨(⟨9, 0, mkB [], mkB [], ⟨0, 0, []⟩, [], us⟩ : Tm), none, 0, 0, none, 0, 0, ao', j, cap', a5, true, he, gr_set9 hI.gr (Nat.le_refl _), hI.rdr.keepB (fun q hq => set9_other _ (by have := hI.rdr.lo; omega)) (set9_other _ (by omega)), HT0.out _ _ _ (rdo_bind HO.out (rdo_bind HRP.out (rdo_ret _ _ _ _))), ?_⟩
          have hsm : ∀ l : List UInt8, l.length ≤ 1048577 → (mkB l).size ≤ 9223372036854775807 := fun l hl => by
            have : (mkB l).size = l.length := by simp [mkB, ByteArray.size]
            omega
          have low := hI.low
          have hltw := hI.lt
          refine FmO.mk (M1 := W0.heap.size) (M2 := W0.heap.size) (hsm _ (by simp)) (hsm _ (by simp)) ?_ ?_ ?_ (by omega) (by omega) (by rw [set9_size]; omega)
          · exact OwR.nil _ _ _ _ _
          · exact OwR.nil _ _ _ _ _
          · exact ho7.keep (fun q hq1 hq2 => set9_other _ (by omega)) (by omega) (by rw [set9_size]; exact Nat.le_refl _)
        clear hI hL0
        go_wp2_with fail
        refine bodyPost_ret (v := .agg #[.int .i64 9, .int .i64 0, .string ⟨#[]⟩, .string ⟨#[]⟩, .int .i64 0, .int .i64 0, .slice none 0 0, .slice none 0 0, .slice ao' j cap']) (by simp [results, Try.results10, go_sem, r0, r1, r2, r3, r4, r5, r6, r7, r8]) rfl ?_
        exact HF.out _ rfl

      | false =>
        have hD := hI.drew
        have APR : Hid (∀ (w5 : World) (t : Tm) (r1 : Option Addr) (s1 u1 : Nat) (r2 : Option Addr) (s2 u2 : Nat) (r3 : Option Addr) (s3 u3 a6 : Nat) (b6 : Bool), wr.drew.grownBy w5 (some p) → Rdr L B w5 p ao len cap a6 b6 T → RdO (termS lv) T a5 false t a6 b6 → FmO wr.drew.heap.size w5.heap.size w5 7 lv t r1 s1 r2 s2 r3 s3 →
          ∃ g cp w6, (Builtin.append_ #[25, 25] 25 #[.slice ao' j cap', .slice (some ⟨w5.heap.size, 0, none⟩) 1 1]).run Try.prog (w5.alloc (.cells #[.int .i64 t.K, .int .i64 t.N, .string t.S, .string t.Z, .int .i64 t.T.K, .int .i64 t.T.N, .slice r1 s1 u1, .slice r2 s2 u2, .slice r3 s3 u3] 27)) = .ok (.slice (some ⟨g, 0, none⟩) (j + 1) cp) w6 ∧
            w5.cell? ⟨tb, 8, none⟩ = some (.slice ao' j cap') ∧ tb < w5.heap.size ∧ w6.cell? ⟨tb, 8, none⟩ = some (.slice ao' j cap') ∧ w6.frozen? ⟨tb, 8, none⟩ = false ∧
            SlLoop L B w W0 (w6.setCell ⟨tb, 8, none⟩ (.slice (some ⟨g, 0, none⟩) (j + 1) cp)) p ao len cap T a1 b1 tb W0.heap.size lv (.int .i64 9) (.int .i64 0) (.string ⟨#[]⟩) (.string ⟨#[]⟩) (.int .i64 0) (.int .i64 0) (.slice none 0 0) (.slice none 0 0) (.slice (some ⟨g, 0, none⟩) (j + 1) cp) (j + 1) a6 b6 (us ++ [t])) :=
          fun w5 t r1 s1 u1 r2 s2 u2 r3 s3 u3 a6 b6 hg hR hO ho => sl_next hD (by omega) (by omega) (by omega) (by omega) hg hR hO ho
        have y8 : wr.cell? ⟨tb, 8, none⟩ = some (.slice ao' j cap') := row_cell hI.box 8
        have e1 : IntKind.i64.wrap ((lv : Int) + 1 - 1) = lv := by rw [IntKind.wrap_i64] <;> omega
        have e2 : ((lv : Int) + 1 - 1) = lv := by omega
        have e3 : IntKind.i64.wrap (lv : Int) = lv := by rw [IntKind.wrap_i64] <;> omega
        have IHj := IH p ao len cap a5 L B false T wr.drew hT hD.rdr
        clear hI hL0 IH hD
        go_wp2_with fail
        go_region_law (first | (refine step_run hrun (by rfl) _ _ (by rfl) (by rfl) (by rfl) (by rfl) ?_) | (go_simp; go_at_call 10; refine IHj.mono ?_; rintro e w5 ⟨t, r1, s1, u1, r2, s2, u2, r3, s3, u3, a6, b6, rfl, hg5, hR5, hO5, ho5⟩; obtain ⟨g, cp, w6, hrun, v8, hz5, hc8, hf8, hN6⟩ := APR.out w5 t r1 s1 u1 r2 s2 u2 r3 s3 u3 a6 b6 hg5 hR5 hO5 ho5; have v9 : (w5.alloc (.cells #[.int .i64 t.K, .int .i64 t.N, .string t.S, .string t.Z, .int .i64 t.T.K, .int .i64 t.T.N, .slice r1 s1 u1, .slice r2 s2 u2, .slice r3 s3 u3] 27)).cell? ⟨tb, 8, none⟩ = some (.slice ao' j cap') := (World.cell?_of_block (Below.heap_alloc _ _ _ hz5)).trans v8))
        all_goals
          clear y8 v8 v9 hrun hc8 hf8
          go_wp2_with fail
          go_roundw
          case rel => exact ⟨j + 1, a6, b6, us ++ [t], _, by go_num, by omega, hN6⟩
          case measure => simp [intOf]; omega
    · have hltI : ¬ (j : Int) < 2 := by omega
      have xr := (hI.low w.heap.size (Nat.le_refl _) (by omega) (by omega)).trans hres0
      obtain ⟨r0, r1, r2, r3, r4, r5, r6, r7, r8⟩ := Nine.box xr
      have rf := row_free xr
      obtain ⟨q0, q1, q2, q3, q4, q5, q6, q7, q8⟩ := Nine.box hI.box
      have HRP : Hid (RdO (manyR (termS lv) 2) T a1 b1 us a5 b5) := rdo_parts hI.rdo (by omega) (Or.inl (by omega))
      have HF : Hid (∀ e, e = Ending.returned (.agg #[.int .i64 9, .int .i64 0, .string ⟨#[]⟩, .string ⟨#[]⟩, .int .i64 0, .int .i64 0, .slice none 0 0, .slice none 0 0, .slice ao' j cap']) → TmRs (lv + 1) L B w (set9 wr w.heap.size 0 (.int .i64 9) (.int .i64 0) (.string ⟨#[]⟩) (.string ⟨#[]⟩) (.int .i64 0) (.int .i64 0) (.slice none 0 0) (.slice none 0 0) (.slice ao' j cap')) e p ao len cap T a bad) := fun e he => by
        obtain ⟨a7, c7, e7, ho7⟩ := apm_done hI.ap rfl (by omega)
        rw [hul] at e7 ho7
        injection e7 with e71 e72 e73
        subst e71
        subst e73
        refine ⟨(⟨9, 0, mkB [], mkB [], ⟨0, 0, []⟩, [], us⟩ : Tm), none, 0, 0, none, 0, 0, ao', j, cap', a5, b5, he, gr_set9 hI.gr (Nat.le_refl _), hI.rdr.keepB (fun q hq => set9_other _ (by have := hI.rdr.lo; omega)) (set9_other _ (by omega)), HT0.out _ _ _ (rdo_bind HO.out (rdo_bind HRP.out (rdo_ret _ _ _ _))), ?_⟩
        have hsm : ∀ l : List UInt8, l.length ≤ 1048577 → (mkB l).size ≤ 9223372036854775807 := fun l hl => by
          have : (mkB l).size = l.length := by simp [mkB, ByteArray.size]
          omega
        have low := hI.low
        have hltw := hI.lt
        refine FmO.mk (M1 := W0.heap.size) (M2 := W0.heap.size) (hsm _ (by simp)) (hsm _ (by simp)) ?_ ?_ ?_ (by omega) (by omega) (by rw [set9_size]; omega)
        · exact OwR.nil _ _ _ _ _
        · exact OwR.nil _ _ _ _ _
        · exact ho7.keep (fun q hq1 hq2 => set9_other _ (by omega)) (by omega) (by rw [set9_size]; exact Nat.le_refl _)
      clear hI hL0
      go_wp2_with fail
      refine bodyPost_ret (v := .agg #[.int .i64 9, .int .i64 0, .string ⟨#[]⟩, .string ⟨#[]⟩, .int .i64 0, .int .i64 0, .slice none 0 0, .slice none 0 0, .slice ao' j cap']) (by simp [results, Try.results10, go_sem, r0, r1, r2, r3, r4, r5, r6, r7, r8]) rfl ?_
      exact HF.out _ rfl


set_option maxRecDepth 100000 in
set_option maxHeartbeats 4000000 in
theorem read_10 (lv : Nat) (hlv : lv ≤ 24) (IH : SaidSr lv) (p : Nat) (ao : Option Addr) (len cap a L B : Nat) (bad : Bool) (T : List (List UInt8)) (w : World) (hT : ∀ x ∈ T, x.length ≤ 1048577) (h : Rdr L B w p ao len cap a bad T) (hk : kindW (firstT T a bad) = 10) :
    Calls Try.prog 10 #[.pointer (some ⟨p, 0, none⟩), .int .i64 ((lv + 1 : Nat) : Int)] w fun e w' => TmRs (lv + 1) L B w w' e p ao len cap T a bad := by
  have hp := h.lt
  obtain ⟨X, hX⟩ : ∃ X, X = w.alloc (.cells #[.int .i64 0, .int .i64 0, .string ⟨#[]⟩, .string ⟨#[]⟩, .int .i64 0, .int .i64 0, .slice none 0 0, .slice none 0 0, .slice none 0 0] 27) := ⟨_, rfl⟩
  have hXb : Below w.heap.size w X := by rw [hX]; exact (Below.refl _ _).alloc (Nat.le_refl _) _
  have hXs : X.heap.size = w.heap.size + 1 := by rw [hX]; simp
  have hXr : X.heap[w.heap.size]? = some (.cells #[.int .i64 0, .int .i64 0, .string ⟨#[]⟩, .string ⟨#[]⟩, .int .i64 0, .int .i64 0, .slice none 0 0, .slice none 0 0, .slice none 0 0] 27 (0, 0)) := by rw [hX]; exact heap_new rfl
  have hRX := h.below hXb
  have HX : Hid (X = _) := hX
  have hlv0 : (((lv + 1 : Nat) : Int) == 0) = false := by rw [beq_eq_false_iff_ne]; omega
  have hlv1 : ((lv : Int) + 1 == 0) = false := by rw [beq_eq_false_iff_ne]; omega
  clear hX
  go_enter Try.func10, Try.ntmps10
  go_wp2_with fail
  rw [← HX.out]
  refine (snext_first p ao len cap a L B bad T _ hT hRX).mono ?_
  obtain ⟨x, hx⟩ : ∃ x, x = firstT T a bad := ⟨_, rfl⟩
  rw [← hx] at hk ⊢
  rintro e w1 ⟨a1, b1, rfl, hg1, hR1, hO1⟩
  have hz1 := hg1.size
  have hr1 := (hg1.block w.heap.size (by omega) (by simp; omega)).trans hXr
  have hgw1 : w.grownBy w1 (some p) := gr_trans (gr_below hXb) hg1
  have KK : Hid (∀ w : World, Calls Try.prog 26 #[.string ⟨x.toArray⟩] w fun e w' => e = .returned (.int .i64 10) ∧ Below w.heap.size w w') := fun w => by rw [← hk]; exact l2Kind_any x w
  have HT0 : Hid (∀ t a' b', RdO ((hdS x 10).bind fun h => (manyR (termS lv) 1).bind fun ps => Rr.ret (⟨10, h.n, mkB h.s, mkB h.z, h.t, h.ts, ps⟩ : Tm)) T a1 b1 t a' b' → RdO (termS (lv + 1)) T a bad t a' b') := fun t a' b' hr => rdo_bind (x := x) hO1 (by
    rw [hk]
    exact rdo_neg (by decide) hr)
  clear hx hk
  show _
  unfold tk
  go_wp2_with fail
  refine (KK.out _).mono ?_
  rintro e w2 ⟨rfl, hb2⟩
  have hz2 := hb2.size
  obtain ⟨W2, hW2⟩ : ∃ W2, W2 = w2.alloc (.cells #[.int .i64 10, .int .i64 0, .string ⟨#[]⟩, .string ⟨#[]⟩, .int .i64 0, .int .i64 0, .slice none 0 0, .slice none 0 0, .slice none 0 0] 27) := ⟨_, rfl⟩
  have hbW2 : Below w2.heap.size w2 W2 := by rw [hW2]; exact (Below.refl _ _).alloc (Nat.le_refl _) _
  have hzW2 : W2.heap.size = w2.heap.size + 1 := by rw [hW2]; simp
  have hxW2 : W2.heap[w2.heap.size]? = some (.cells #[.int .i64 10, .int .i64 0, .string ⟨#[]⟩, .string ⟨#[]⟩, .int .i64 0, .int .i64 0, .slice none 0 0, .slice none 0 0, .slice none 0 0] 27 (0, 0)) := by rw [hW2]; exact heap_new rfl
  have hb12 : Below w1.heap.size w1 W2 := hb2.trans (hbW2.mono hz2)
  have HW2 : Hid (W2 = _) := hW2
  have KO : Hid (∀ w : World, Calls Try.prog 27 #[.int .i64 10] w fun e w' => e = .returned (.agg #[.int .i64 1, .int .i64 0, .bool false, .bool false, .bool false]) ∧ Below w.heap.size w w') := fun w => l2Of_any 10 w
  obtain ⟨g0, _, _, _, _, _, _, _, _⟩ := Nine.box hxW2
  clear hW2
  go_upto_region 3 with fail
  rw [← HW2.out]
  go_wp2_with fail
  refine (KO.out _).mono ?_
  rintro e w3 ⟨rfl, hb3⟩
  have hz3 := hb3.size
  obtain ⟨W3, hW3⟩ : ∃ W3, W3 = w3.alloc (.cells #[.int .i64 1, .int .i64 0, .bool false, .bool false, .bool false] 55) := ⟨_, rfl⟩
  have hbW3 : Below w3.heap.size w3 W3 := by rw [hW3]; exact (Below.refl _ _).alloc (Nat.le_refl _) _
  have hzW3 : W3.heap.size = w3.heap.size + 1 := by rw [hW3]; simp
  have hsW3 : W3.heap[w3.heap.size]? = some (.cells #[.int .i64 1, .int .i64 0, .bool false, .bool false, .bool false] 55 (0, 0)) := by rw [hW3]; exact heap_new rfl
  have hb13 : Below w1.heap.size w1 W3 := (hb12.trans (hb3.mono (by omega))).trans (hbW3.mono (by omega))
  have HW3 : Hid (W3 = _) := hW3
  have h0 : LdRel L B w W3 p ao len cap a1 b1 T w2.heap.size w3.heap.size #[.int .i64 10, .int .i64 0, .string ⟨#[]⟩, .string ⟨#[]⟩, .int .i64 0, .int .i64 0, .slice none 0 0, .slice none 0 0, .slice none 0 0] #[.int .i64 1, .int .i64 0, .bool false, .bool false, .bool false] :=
    ⟨gr_trans hgw1 (gr_below hb13), hR1.below hb13, (hb13.block _ (by omega)).trans hr1, (hbW3.block _ (by omega)).trans ((hb3.block _ (by omega)).trans hxW2), hsW3, by omega, by omega, by omega⟩
  obtain ⟨tb, htb⟩ : ∃ tb, tb = w2.heap.size := ⟨_, rfl⟩
  obtain ⟨hb, hhb⟩ : ∃ hb, hb = w3.heap.size := ⟨_, rfl⟩
  have HTB : Hid (tb = w2.heap.size) := htb
  have HHB : Hid (hb = w3.heap.size) := hhb
  rw [← htb, ← hhb] at h0
  clear hW3 htb hhb g0 hxW2 hsW3 hXr hr1 hRX hb12 hb13 hb2 hbW2 hb3 hbW3 hg1 hR1 hgw1 hO1 hXb
  go_upto_region 4 with fail
  rw [← HW3.out, ← HTB.out, ← HHB.out]
  clear hz1 hz2 hz3 hzW2 hzW3 hXs
  have kb := h0.box
  try simp only [List.setIfInBounds_toArray, List.set_cons_zero, List.set_cons_succ] at kb
  obtain ⟨c0, c1, c2, c3, c4, c5, c6, c7, c8⟩ := Nine.box kb
  have s0 := row_cell h0.sh 0
  have s2 := row_cell h0.sh 2
  have s3 := row_cell h0.sh 3
  have s4 := row_cell h0.sh 4
  simp only [List.getElem?_toArray, List.getElem?_cons_zero, List.getElem?_cons_succ] at s0 s2 s3 s4
  obtain ⟨rr0, rr1, rr2⟩ := box_cells h0.rdr.row
  have bf := row_free h0.box
  have HO : Hid (RdO (hdS x 10) T a1 b1 ⟨0, [], [], ⟨0, 0, []⟩, []⟩ a1 b1) := rdo_bind ((rdo_neg (by decide) (rdo_neg (by decide) (rdo_neg (by decide) (rdo_ret _ _ _ _))))) (rdo_bind ((rdo_neg (by decide) (rdo_ret _ _ _ _))) (rdo_bind ((rdo_neg (by decide) (rdo_ret _ _ _ _))) (rdo_bind ((rdo_neg (by decide) (rdo_ret _ _ _ _))) (rdo_bind ((rdo_neg (by decide) (rdo_ret _ _ _ _))) (rdo_bind ((rdo_neg (by decide) (rdo_ret _ _ _ _))) (rdo_bind ((rdo_ret _ _ _ _)) (rdo_ret _ _ _ _)))))))
  obtain ⟨W0, hW0⟩ : ∃ W0, W0 = W3 := ⟨_, rfl⟩
  have hLd := h0
  rw [← hW0] at hLd
  have HW0 : Hid (W0 = _) := hW0
  have hbx0 := hLd.box
  try simp only [List.setIfInBounds_toArray, List.set_cons_zero, List.set_cons_succ] at hbx0
  have lt1 := hLd.lt1
  have lt2 := hLd.lt2
  have lt3 := hLd.lt3
  have hzw := hLd.gr.size
  have hL0 : SlLoop L B w W0 W0 p ao len cap T a1 b1 tb W0.heap.size lv (.int .i64 10) (.int .i64 0) (.string ⟨#[]⟩) (.string ⟨#[]⟩) (.int .i64 0) (.int .i64 0) (.slice none 0 0) (.slice none 0 0) (.slice none 0 0) 0 a1 b1 [] := ⟨hLd.gr, hLd.rdr, hbx0, rdo_ret _ _ _ _, rfl, apm_nil _ _ _ _ _, fun _ _ _ _ => rfl, Nat.le_refl _⟩
  have hsh0 := hLd.sh
  have hres0 := hLd.res
  clear hLd hW0 hbx0
  go_wp2_with fail
  clear kb c0 c1 c2 c3 c4 c5 c6 c7 c8 s0 s2 s3 s4 rr0 rr1 rr2 bf
  rw [← HW0.out]
  refine wp_loop_rounds 1 ?_
  rw [rounds_succ]
  go_wp2_with fail
  go_loopw [10] (fun i wr => ∃ (j a5 : Nat) (b5 : Bool) (us : List Tm) (v : Value), i = .int .i64 j ∧ j ≤ 1 ∧ SlLoop L B w W0 wr p ao len cap T a1 b1 tb W0.heap.size lv (.int .i64 10) (.int .i64 0) (.string ⟨#[]⟩) (.string ⟨#[]⟩) (.int .i64 0) (.int .i64 0) (.slice none 0 0) (.slice none 0 0) v j a5 b5 us) (fun i _ => 1 - (intOf i).toNat)
  case atStart => exact ⟨0, a1, b1, [], _, rfl, by omega, hL0⟩
  case round =>
    obtain ⟨j, a5, b5, us, v, rfl, hj, hI⟩ := hrel
    obtain ⟨ao', cap', hv⟩ := apm_form hI.ap
    have hul := hI.ul
    rw [hul] at hv
    subst hv
    have hzr := hI.gr.size
    have hltr := hI.lt
    have shr := (hI.low hb (by omega) (by omega) (by omega)).trans hsh0
    have sp := row_cell shr 0
    simp only [List.getElem?_toArray, List.getElem?_cons_zero] at sp
    obtain ⟨f0, f1, f2⟩ := box_cells hI.rdr.row
    by_cases hlt : j < 1
    · have hltI : (j : Int) < 1 := by omega
      cases b5 with
      | true =>
        have xr := (hI.low w.heap.size (Nat.le_refl _) (by omega) (by omega)).trans hres0
        obtain ⟨r0, r1, r2, r3, r4, r5, r6, r7, r8⟩ := Nine.box xr
        have rf := row_free xr
        obtain ⟨q0, q1, q2, q3, q4, q5, q6, q7, q8⟩ := Nine.box hI.box
        have HRP : Hid (RdO (manyR (termS lv) 1) T a1 b1 us a5 true) := rdo_parts hI.rdo (by omega) (Or.inr rfl)
        have HF : Hid (∀ e, e = Ending.returned (.agg #[.int .i64 10, .int .i64 0, .string ⟨#[]⟩, .string ⟨#[]⟩, .int .i64 0, .int .i64 0, .slice none 0 0, .slice none 0 0, .slice ao' j cap']) → TmRs (lv + 1) L B w (set9 wr w.heap.size 0 (.int .i64 10) (.int .i64 0) (.string ⟨#[]⟩) (.string ⟨#[]⟩) (.int .i64 0) (.int .i64 0) (.slice none 0 0) (.slice none 0 0) (.slice ao' j cap')) e p ao len cap T a bad) := fun e he => by
          obtain ⟨a7, c7, e7, ho7⟩ := apm_done hI.ap rfl (by omega)
          rw [hul] at e7 ho7
          injection e7 with e71 e72 e73
          subst e71
          subst e73
          refine ⟨(⟨10, 0, mkB [], mkB [], ⟨0, 0, []⟩, [], us⟩ : Tm), none, 0, 0, none, 0, 0, ao', j, cap', a5, true, he, gr_set9 hI.gr (Nat.le_refl _), hI.rdr.keepB (fun q hq => set9_other _ (by have := hI.rdr.lo; omega)) (set9_other _ (by omega)), HT0.out _ _ _ (rdo_bind HO.out (rdo_bind HRP.out (rdo_ret _ _ _ _))), ?_⟩
          have hsm : ∀ l : List UInt8, l.length ≤ 1048577 → (mkB l).size ≤ 9223372036854775807 := fun l hl => by
            have : (mkB l).size = l.length := by simp [mkB, ByteArray.size]
            omega
          have low := hI.low
          have hltw := hI.lt
          refine FmO.mk (M1 := W0.heap.size) (M2 := W0.heap.size) (hsm _ (by simp)) (hsm _ (by simp)) ?_ ?_ ?_ (by omega) (by omega) (by rw [set9_size]; omega)
          · exact OwR.nil _ _ _ _ _
          · exact OwR.nil _ _ _ _ _
          · exact ho7.keep (fun q hq1 hq2 => set9_other _ (by omega)) (by omega) (by rw [set9_size]; exact Nat.le_refl _)
        clear hI hL0
        go_wp2_with fail
        refine bodyPost_ret (v := .agg #[.int .i64 10, .int .i64 0, .string ⟨#[]⟩, .string ⟨#[]⟩, .int .i64 0, .int .i64 0, .slice none 0 0, .slice none 0 0, .slice ao' j cap']) (by simp [results, Try.results10, go_sem, r0, r1, r2, r3, r4, r5, r6, r7, r8]) rfl ?_
        exact HF.out _ rfl

      | false =>
        have hD := hI.drew
        have APR : Hid (∀ (w5 : World) (t : Tm) (r1 : Option Addr) (s1 u1 : Nat) (r2 : Option Addr) (s2 u2 : Nat) (r3 : Option Addr) (s3 u3 a6 : Nat) (b6 : Bool), wr.drew.grownBy w5 (some p) → Rdr L B w5 p ao len cap a6 b6 T → RdO (termS lv) T a5 false t a6 b6 → FmO wr.drew.heap.size w5.heap.size w5 7 lv t r1 s1 r2 s2 r3 s3 →
          ∃ g cp w6, (Builtin.append_ #[25, 25] 25 #[.slice ao' j cap', .slice (some ⟨w5.heap.size, 0, none⟩) 1 1]).run Try.prog (w5.alloc (.cells #[.int .i64 t.K, .int .i64 t.N, .string t.S, .string t.Z, .int .i64 t.T.K, .int .i64 t.T.N, .slice r1 s1 u1, .slice r2 s2 u2, .slice r3 s3 u3] 27)) = .ok (.slice (some ⟨g, 0, none⟩) (j + 1) cp) w6 ∧
            w5.cell? ⟨tb, 8, none⟩ = some (.slice ao' j cap') ∧ tb < w5.heap.size ∧ w6.cell? ⟨tb, 8, none⟩ = some (.slice ao' j cap') ∧ w6.frozen? ⟨tb, 8, none⟩ = false ∧
            SlLoop L B w W0 (w6.setCell ⟨tb, 8, none⟩ (.slice (some ⟨g, 0, none⟩) (j + 1) cp)) p ao len cap T a1 b1 tb W0.heap.size lv (.int .i64 10) (.int .i64 0) (.string ⟨#[]⟩) (.string ⟨#[]⟩) (.int .i64 0) (.int .i64 0) (.slice none 0 0) (.slice none 0 0) (.slice (some ⟨g, 0, none⟩) (j + 1) cp) (j + 1) a6 b6 (us ++ [t])) :=
          fun w5 t r1 s1 u1 r2 s2 u2 r3 s3 u3 a6 b6 hg hR hO ho => sl_next hD (by omega) (by omega) (by omega) (by omega) hg hR hO ho
        have y8 : wr.cell? ⟨tb, 8, none⟩ = some (.slice ao' j cap') := row_cell hI.box 8
        have e1 : IntKind.i64.wrap ((lv : Int) + 1 - 1) = lv := by rw [IntKind.wrap_i64] <;> omega
        have e2 : ((lv : Int) + 1 - 1) = lv := by omega
        have e3 : IntKind.i64.wrap (lv : Int) = lv := by rw [IntKind.wrap_i64] <;> omega
        have IHj := IH p ao len cap a5 L B false T wr.drew hT hD.rdr
        clear hI hL0 IH hD
        go_wp2_with fail
        go_region_law (first | (refine step_run hrun (by rfl) _ _ (by rfl) (by rfl) (by rfl) (by rfl) ?_) | (go_simp; go_at_call 10; refine IHj.mono ?_; rintro e w5 ⟨t, r1, s1, u1, r2, s2, u2, r3, s3, u3, a6, b6, rfl, hg5, hR5, hO5, ho5⟩; obtain ⟨g, cp, w6, hrun, v8, hz5, hc8, hf8, hN6⟩ := APR.out w5 t r1 s1 u1 r2 s2 u2 r3 s3 u3 a6 b6 hg5 hR5 hO5 ho5; have v9 : (w5.alloc (.cells #[.int .i64 t.K, .int .i64 t.N, .string t.S, .string t.Z, .int .i64 t.T.K, .int .i64 t.T.N, .slice r1 s1 u1, .slice r2 s2 u2, .slice r3 s3 u3] 27)).cell? ⟨tb, 8, none⟩ = some (.slice ao' j cap') := (World.cell?_of_block (Below.heap_alloc _ _ _ hz5)).trans v8))
        all_goals
          clear y8 v8 v9 hrun hc8 hf8
          go_wp2_with fail
          go_roundw
          case rel => exact ⟨j + 1, a6, b6, us ++ [t], _, by go_num, by omega, hN6⟩
          case measure => simp [intOf]; omega
    · have hltI : ¬ (j : Int) < 1 := by omega
      have xr := (hI.low w.heap.size (Nat.le_refl _) (by omega) (by omega)).trans hres0
      obtain ⟨r0, r1, r2, r3, r4, r5, r6, r7, r8⟩ := Nine.box xr
      have rf := row_free xr
      obtain ⟨q0, q1, q2, q3, q4, q5, q6, q7, q8⟩ := Nine.box hI.box
      have HRP : Hid (RdO (manyR (termS lv) 1) T a1 b1 us a5 b5) := rdo_parts hI.rdo (by omega) (Or.inl (by omega))
      have HF : Hid (∀ e, e = Ending.returned (.agg #[.int .i64 10, .int .i64 0, .string ⟨#[]⟩, .string ⟨#[]⟩, .int .i64 0, .int .i64 0, .slice none 0 0, .slice none 0 0, .slice ao' j cap']) → TmRs (lv + 1) L B w (set9 wr w.heap.size 0 (.int .i64 10) (.int .i64 0) (.string ⟨#[]⟩) (.string ⟨#[]⟩) (.int .i64 0) (.int .i64 0) (.slice none 0 0) (.slice none 0 0) (.slice ao' j cap')) e p ao len cap T a bad) := fun e he => by
        obtain ⟨a7, c7, e7, ho7⟩ := apm_done hI.ap rfl (by omega)
        rw [hul] at e7 ho7
        injection e7 with e71 e72 e73
        subst e71
        subst e73
        refine ⟨(⟨10, 0, mkB [], mkB [], ⟨0, 0, []⟩, [], us⟩ : Tm), none, 0, 0, none, 0, 0, ao', j, cap', a5, b5, he, gr_set9 hI.gr (Nat.le_refl _), hI.rdr.keepB (fun q hq => set9_other _ (by have := hI.rdr.lo; omega)) (set9_other _ (by omega)), HT0.out _ _ _ (rdo_bind HO.out (rdo_bind HRP.out (rdo_ret _ _ _ _))), ?_⟩
        have hsm : ∀ l : List UInt8, l.length ≤ 1048577 → (mkB l).size ≤ 9223372036854775807 := fun l hl => by
          have : (mkB l).size = l.length := by simp [mkB, ByteArray.size]
          omega
        have low := hI.low
        have hltw := hI.lt
        refine FmO.mk (M1 := W0.heap.size) (M2 := W0.heap.size) (hsm _ (by simp)) (hsm _ (by simp)) ?_ ?_ ?_ (by omega) (by omega) (by rw [set9_size]; omega)
        · exact OwR.nil _ _ _ _ _
        · exact OwR.nil _ _ _ _ _
        · exact ho7.keep (fun q hq1 hq2 => set9_other _ (by omega)) (by omega) (by rw [set9_size]; exact Nat.le_refl _)
      clear hI hL0
      go_wp2_with fail
      refine bodyPost_ret (v := .agg #[.int .i64 10, .int .i64 0, .string ⟨#[]⟩, .string ⟨#[]⟩, .int .i64 0, .int .i64 0, .slice none 0 0, .slice none 0 0, .slice ao' j cap']) (by simp [results, Try.results10, go_sem, r0, r1, r2, r3, r4, r5, r6, r7, r8]) rfl ?_
      exact HF.out _ rfl


end Go.Proofs.Ythmmapahobkhnaa
