/-
  The model's reader of terms, kind by kind. (Written by mksr5.py.)
-/
import Derived.Test.YthmmapahobkhnaaPmSr4
import Derived.Deep.Cut
import Derived.Deep.CutRange
namespace Go.Proofs.Ythmmapahobkhnaa
open Go.RowKit Go.PlainAid
set_option linter.unusedVariables false
set_option linter.unusedSimpArgs false

structure TtLoop (L B : Nat) (w W0 wr : World) (p : Nat) (ao : Option Addr) (len cap : Nat) (T : List (List UInt8)) (a0 : Nat) (b0 : Bool) (tb bs : Nat) (c0 c1 c2 c3 c4 c5 c6 v c8 : Value) (j a1 : Nat) (b1 : Bool) (us : List Tr) : Prop where
  gr : w.grownBy wr (some p)
  rdr : Rdr L B wr p ao len cap a1 b1 T
  box : wr.heap[tb]? = some (.cells #[c0, c1, c2, c3, c4, c5, c6, v, c8] 27 (0, 0))
  rdo : RdO (manyR tyR j) T a0 b0 us a1 b1
  ul : us.length = j
  ap : ApRel bs wr 6 v us.length us
  low : ∀ q, w.heap.size ≤ q → q < bs → q ≠ tb → wr.heap[q]? = W0.heap[q]?
  lt : bs ≤ wr.heap.size
theorem TtLoop.drew {L B : Nat} {w W0 wr : World} {p : Nat} {ao : Option Addr} {len cap : Nat} {T : List (List UInt8)} {a0 : Nat} {b0 : Bool} {tb bs : Nat} {c0 c1 c2 c3 c4 c5 c6 v c8 : Value} {j a1 : Nat} {b1 : Bool} {us : List Tr} (h : TtLoop L B w W0 wr p ao len cap T a0 b0 tb bs c0 c1 c2 c3 c4 c5 c6 v c8 j a1 b1 us) : TtLoop L B w W0 wr.drew p ao len cap T a0 b0 tb bs c0 c1 c2 c3 c4 c5 c6 v c8 j a1 b1 us :=
  ⟨⟨h.gr.os, h.gr.tape, h.gr.output, h.gr.size, h.gr.block⟩, h.rdr.drew, h.box, h.rdo, h.ul, ap_below h.ap ((Below.refl _ _).drew), h.low, h.lt⟩
theorem tt_next {L B : Nat} {w W0 wr w1 : World} {p : Nat} {ao : Option Addr} {len cap : Nat} {T : List (List UInt8)} {a0 : Nat} {b0 : Bool} {tb bs : Nat} {c0 c1 c2 c3 c4 c5 c6 v c8 : Value} {j a1 : Nat} {b1 : Bool} {us : List Tr} (h : TtLoop L B w W0 wr p ao len cap T a0 b0 tb bs c0 c1 c2 c3 c4 c5 c6 v c8 j a1 b1 us) (hp : p < w.heap.size) (htb : w.heap.size < tb) (hbs : tb < bs) (hj : j ≤ 1000) {t : Tr} {r1 : Option Addr} {s1 u1 a2 : Nat} {b2 : Bool} (hg : wr.grownBy w1 (some p)) (hR : Rdr L B w1 p ao len cap a2 b2 T) (hO : RdO tyR T a1 b1 t a2 b2) (ho : OwR wr.heap.size w1.heap.size w1 6 r1 s1 t.A) :
    ∃ g cp w2, (Builtin.append_ #[22, 22] 22 #[v, .slice (some ⟨w1.heap.size, 0, none⟩) 1 1]).run Try.prog (w1.alloc (.cells #[.int .i64 t.K, .int .i64 t.N, .slice r1 s1 u1] 24)) = .ok (.slice (some ⟨g, 0, none⟩) (j + 1) cp) w2 ∧
      w1.cell? ⟨tb, 7, none⟩ = some v ∧ tb < w1.heap.size ∧ w2.cell? ⟨tb, 7, none⟩ = some v ∧ w2.frozen? ⟨tb, 7, none⟩ = false ∧
      TtLoop L B w W0 (w2.setCell ⟨tb, 7, none⟩ (.slice (some ⟨g, 0, none⟩) (j + 1) cp)) p ao len cap T a0 b0 tb bs c0 c1 c2 c3 c4 c5 c6 (.slice (some ⟨g, 0, none⟩) (j + 1) cp) c8 (j + 1) a2 b2 (us ++ [t]) := by
  have hsm : Sm bs wr w1 := Sm.grown hg (by omega)
  have hap := ap_more h.ap rfl t
  have hul := h.ul
  have hlt := h.lt
  have e : (us ++ [t])[us.length]'(by simp) = t := by simp
  have hzw := h.gr.size
  have hrun := ap_run2 (ao1 := r1) (len1 := s1) (cap1 := u1) hap (by simp) (by simp; omega) hsm (by omega) (by rw [e]; exact ho)
  rw [e] at hrun
  obtain ⟨g, cp, w2, hrun, hap2, hlo⟩ := hrun
  rw [hul] at hrun hap2
  have hz1 := hg.size
  have hz2 := hlo.size
  have o1 := (hg.block tb (by omega) (by simp; omega)).trans h.box
  have o2 := (hlo.block tb (by omega)).trans o1
  obtain ⟨Y, hY⟩ : ∃ Y, Y = w2.setCell ⟨tb, 7, none⟩ (.slice (some ⟨g, 0, none⟩) (j + 1) cp) := ⟨_, rfl⟩
  have hYo : ∀ k, k ≠ tb → Y.heap[k]? = w2.heap[k]? := fun k hk => by rw [hY]; exact row_other _ _ _ hk
  have hYs : Y.heap.size = w2.heap.size := by rw [hY]; simp
  have hYb : Y.heap[tb]? = some (.cells #[c0, c1, c2, c3, c4, c5, c6, .slice (some ⟨g, 0, none⟩) (j + 1) cp, c8] 27 (0, 0)) := by rw [hY, row_set o2]; rfl
  have hYa : ApRel bs Y 6 (.slice (some ⟨g, 0, none⟩) (j + 1) cp) (j + 1) (us ++ [t]) := by rw [hY]; exact ap_set hap2 (by omega) _
  have y1 : Y.os = w2.os := by rw [hY]; rfl
  have y2 : Y.tape = w2.tape := by rw [hY]; rfl
  have y3 : Y.output = w2.output := by rw [hY]; rfl
  refine ⟨g, cp, w2, hrun, row_cell o1 7, by omega, row_cell o2 7, row_free o2 7, ?_⟩
  rw [← hY]
  clear hY
  refine ⟨⟨y1.trans (hlo.os.trans (hg.os.trans h.gr.os)), y2.trans (hlo.tape.trans (hg.tape.trans h.gr.tape)), y3.trans (hlo.output.trans (hg.output.trans h.gr.output)), by omega, fun q hq hne => ?_⟩, ?_, hYb, rdo_many h.rdo hO, by simp [hul], ?_, fun q hq1 hq2 hq3 => ?_, by omega⟩
  · rw [hYo q (by omega), hlo.block q (by omega), hg.block q (by omega) hne]
    exact h.gr.block q hq hne
  · have hl := hR.lo
    exact hR.keepB (fun q hq => (hYo q (by omega)).trans (hlo.block q (by omega))) ((hYo p (by omega)).trans (hlo.block p (by omega)))
  · rw [show (us ++ [t]).length = j + 1 by simp [hul]]
    exact hYa
  · rw [hYo q hq3, hlo.block q hq2, hg.block q (by omega) (by simp; omega)]
    exact h.low q hq1 hq2 hq3

set_option maxRecDepth 100000 in
set_option maxHeartbeats 4000000 in
theorem read_3 (lv : Nat) (hlv : lv ≤ 24) (IH : SaidSr lv) (p : Nat) (ao : Option Addr) (len cap a L B : Nat) (bad : Bool) (T : List (List UInt8)) (w : World) (hT : ∀ x ∈ T, x.length ≤ 1048577) (h : Rdr L B w p ao len cap a bad T) (hk : kindW (firstT T a bad) = 3) :
    Calls Try.prog 10 #[.pointer (some ⟨p, 0, none⟩), .int .i64 ((lv + 1 : Nat) : Int)] w fun e w' => TmRs (lv + 1) L B w w' e p ao len cap T a bad := by
  have hp := h.lt
  obtain ⟨X, hX⟩ : ∃ X, X = w.alloc (.cells #[.int .i64 0, .int .i64 0, .string ⟨#[]⟩, .string ⟨#[]⟩, .int .i64 0, .int .i64 0, .slice none 0 0, .slice none 0 0, .slice none 0 0] 27) := ⟨_, rfl⟩
  have hXb : Below w.heap.size w X := by rw [hX]; exact (Below.refl _ _).alloc (Nat.le_refl _) _
  have hXs : X.heap.size = w.heap.size + 1 := by rw [hX]; simp
  have hXr : X.heap[w.heap.size]? = some (.cells #[.int .i64 0, .int .i64 0, .string ⟨#[]⟩, .string ⟨#[]⟩, .int .i64 0, .int .i64 0, .slice none 0 0, .slice none 0 0, .slice none 0 0] 27 (0, 0)) := by rw [hX]; exact heap_new rfl
  have hRX := h.below hXb
  have HX : Hid (X = _) := hX
  have hlv0 : (((lv + 1 : Nat) : Int) == 0) = false := by rw [beq_eq_false_iff_ne]; omega
  have hlv1 : ((lv : Int) + 1 == 0) = false := by rw [beq_eq_false_iff_ne]; omega
  clear hX
  go_enter Try.func10, Try.ntmps10
  go_wp2_with fail
  rw [← HX.out]
  refine (snext_first p ao len cap a L B bad T _ hT hRX).mono ?_
  obtain ⟨x, hx⟩ : ∃ x, x = firstT T a bad := ⟨_, rfl⟩
  rw [← hx] at hk ⊢
  rintro e w1 ⟨a1, b1, rfl, hg1, hR1, hO1⟩
  have hz1 := hg1.size
  have hr1 := (hg1.block w.heap.size (by omega) (by simp; omega)).trans hXr
  have hgw1 : w.grownBy w1 (some p) := gr_trans (gr_below hXb) hg1
  have KK : Hid (∀ w : World, Calls Try.prog 26 #[.string ⟨x.toArray⟩] w fun e w' => e = .returned (.int .i64 3) ∧ Below w.heap.size w w') := fun w => by rw [← hk]; exact l2Kind_any x w
  have HT0 : Hid (∀ t a' b', RdO ((hdS x 3).bind fun h => (manyR (termS lv) 0).bind fun ps => Rr.ret (⟨3, h.n, mkB h.s, mkB h.z, h.t, h.ts, ps⟩ : Tm)) T a1 b1 t a' b' → RdO (termS (lv + 1)) T a bad t a' b') := fun t a' b' hr => rdo_bind (x := x) hO1 (by
    rw [hk]
    exact rdo_neg (by decide) hr)
  clear hx hk
  show _
  unfold tk
  go_wp2_with fail
  refine (KK.out _).mono ?_
  rintro e w2 ⟨rfl, hb2⟩
  have hz2 := hb2.size
  obtain ⟨W2, hW2⟩ : ∃ W2, W2 = w2.alloc (.cells #[.int .i64 3, .int .i64 0, .string ⟨#[]⟩, .string ⟨#[]⟩, .int .i64 0, .int .i64 0, .slice none 0 0, .slice none 0 0, .slice none 0 0] 27) := ⟨_, rfl⟩
  have hbW2 : Below w2.heap.size w2 W2 := by rw [hW2]; exact (Below.refl _ _).alloc (Nat.le_refl _) _
  have hzW2 : W2.heap.size = w2.heap.size + 1 := by rw [hW2]; simp
  have hxW2 : W2.heap[w2.heap.size]? = some (.cells #[.int .i64 3, .int .i64 0, .string ⟨#[]⟩, .string ⟨#[]⟩, .int .i64 0, .int .i64 0, .slice none 0 0, .slice none 0 0, .slice none 0 0] 27 (0, 0)) := by rw [hW2]; exact heap_new rfl
  have hb12 : Below w1.heap.size w1 W2 := hb2.trans (hbW2.mono hz2)
  have HW2 : Hid (W2 = _) := hW2
  have KO : Hid (∀ w : World, Calls Try.prog 27 #[.int .i64 3] w fun e w' => e = .returned (.agg #[.int .i64 0, .int .i64 0, .bool true, .bool false, .bool false]) ∧ Below w.heap.size w w') := fun w => l2Of_any 3 w
  obtain ⟨g0, _, _, _, _, _, _, _, _⟩ := Nine.box hxW2
  clear hW2
  go_upto_region 3 with fail
  rw [← HW2.out]
  go_wp2_with fail
  refine (KO.out _).mono ?_
  rintro e w3 ⟨rfl, hb3⟩
  have hz3 := hb3.size
  obtain ⟨W3, hW3⟩ : ∃ W3, W3 = w3.alloc (.cells #[.int .i64 0, .int .i64 0, .bool true, .bool false, .bool false] 55) := ⟨_, rfl⟩
  have hbW3 : Below w3.heap.size w3 W3 := by rw [hW3]; exact (Below.refl _ _).alloc (Nat.le_refl _) _
  have hzW3 : W3.heap.size = w3.heap.size + 1 := by rw [hW3]; simp
  have hsW3 : W3.heap[w3.heap.size]? = some (.cells #[.int .i64 0, .int .i64 0, .bool true, .bool false, .bool false] 55 (0, 0)) := by rw [hW3]; exact heap_new rfl
  have hb13 : Below w1.heap.size w1 W3 := (hb12.trans (hb3.mono (by omega))).trans (hbW3.mono (by omega))
  have HW3 : Hid (W3 = _) := hW3
  have h0 : LdRel L B w W3 p ao len cap a1 b1 T w2.heap.size w3.heap.size #[.int .i64 3, .int .i64 0, .string ⟨#[]⟩, .string ⟨#[]⟩, .int .i64 0, .int .i64 0, .slice none 0 0, .slice none 0 0, .slice none 0 0] #[.int .i64 0, .int .i64 0, .bool true, .bool false, .bool false] :=
    ⟨gr_trans hgw1 (gr_below hb13), hR1.below hb13, (hb13.block _ (by omega)).trans hr1, (hbW3.block _ (by omega)).trans ((hb3.block _ (by omega)).trans hxW2), hsW3, by omega, by omega, by omega⟩
  obtain ⟨tb, htb⟩ : ∃ tb, tb = w2.heap.size := ⟨_, rfl⟩
  obtain ⟨hb, hhb⟩ : ∃ hb, hb = w3.heap.size := ⟨_, rfl⟩
  have HTB : Hid (tb = w2.heap.size) := htb
  have HHB : Hid (hb = w3.heap.size) := hhb
  rw [← htb, ← hhb] at h0
  clear hW3 htb hhb g0 hxW2 hsW3 hXr hr1 hRX hb12 hb13 hb2 hbW2 hb3 hbW3 hg1 hR1 hgw1 hO1 hXb
  go_upto_region 4 with fail
  rw [← HW3.out, ← HTB.out, ← HHB.out]
  clear hz1 hz2 hz3 hzW2 hzW3 hXs
  have kb := h0.box
  try simp only [List.setIfInBounds_toArray, List.set_cons_zero, List.set_cons_succ] at kb
  obtain ⟨c0, c1, c2, c3, c4, c5, c6, c7, c8⟩ := Nine.box kb
  have s0 := row_cell h0.sh 0
  have s2 := row_cell h0.sh 2
  have s3 := row_cell h0.sh 3
  have s4 := row_cell h0.sh 4
  simp only [List.getElem?_toArray, List.getElem?_cons_zero, List.getElem?_cons_succ] at s0 s2 s3 s4
  obtain ⟨rr0, rr1, rr2⟩ := box_cells h0.rdr.row
  have bf := row_free h0.box
  go_wp2_with fail
  clear kb c0 c1 c2 c3 c4 c5 c6 c7 c8 s0 s2 s3 s4 rr0 rr1 rr2 bf
  refine (snext_any p ao len cap a1 L B b1 T _ hT h0.rdr).mono ?_
  rintro e u1 ⟨x1, a2, b2, rfl, hg1, hR1, hO1, hx1⟩
  have h1 := h0.call hp hg1 hR1
  clear hg1 hR1
  show _
  unfold tk
  have k1 := h1.set hp 2 (.string ⟨x1.toArray⟩)
  have kb := h1.box
  try simp only [List.setIfInBounds_toArray, List.set_cons_zero, List.set_cons_succ] at kb
  obtain ⟨c0, c1, c2, c3, c4, c5, c6, c7, c8⟩ := Nine.box kb
  have s0 := row_cell h1.sh 0
  have s2 := row_cell h1.sh 2
  have s3 := row_cell h1.sh 3
  have s4 := row_cell h1.sh 4
  simp only [List.getElem?_toArray, List.getElem?_cons_zero, List.getElem?_cons_succ] at s0 s2 s3 s4
  obtain ⟨rr0, rr1, rr2⟩ := box_cells h1.rdr.row
  have bf := row_free h1.box
  have kd := k1.box
  try simp only [List.setIfInBounds_toArray, List.set_cons_zero, List.set_cons_succ] at kd
  obtain ⟨d0, d1, d2, d3, d4, d5, d6, d7, d8⟩ := Nine.box kd
  have v0 := row_cell k1.sh 0
  have v2 := row_cell k1.sh 2
  have v3 := row_cell k1.sh 3
  have v4 := row_cell k1.sh 4
  simp only [List.getElem?_toArray, List.getElem?_cons_zero, List.getElem?_cons_succ] at v0 v2 v3 v4
  obtain ⟨qr0, qr1, qr2⟩ := box_cells k1.rdr.row
  have df := row_free k1.box
  go_wp2_with fail
  clear kb c0 c1 c2 c3 c4 c5 c6 c7 c8 s0 s2 s3 s4 rr0 rr1 rr2 bf
  clear kd d0 d1 d2 d3 d4 d5 d6 d7 d8 v0 v2 v3 v4 qr0 qr1 qr2 df
  refine (snext_any p ao len cap a2 L B b2 T _ hT k1.rdr).mono ?_
  rintro e u2 ⟨x2, a3, b3, rfl, hg2, hR2, hO2, hx2⟩
  have h2 := k1.call hp hg2 hR2
  clear hg2 hR2
  have KD2 : Hid (∀ w : World, Calls Try.prog 28 #[.string ⟨x2.toArray⟩] w fun e w' => e = .returned (.int .i64 (digS x2)) ∧ w' = w) := fun w => by
    have := l2Digits_any ⟨x2.toArray⟩ w (by rw [tk_size]; exact hx2)
    rw [sb_tk] at this
    exact this
  have hdb2 := digS_bd x2
  obtain ⟨D2, hD2⟩ : ∃ D, D = digS x2 := ⟨_, rfl⟩
  have HD2 : Hid (D2 = digS x2) := hD2
  rw [← hD2] at KD2 hdb2
  clear hD2
  show _
  unfold tk
  have kb := h2.box
  try simp only [List.setIfInBounds_toArray, List.set_cons_zero, List.set_cons_succ] at kb
  obtain ⟨c0, c1, c2, c3, c4, c5, c6, c7, c8⟩ := Nine.box kb
  have s0 := row_cell h2.sh 0
  have s2 := row_cell h2.sh 2
  have s3 := row_cell h2.sh 3
  have s4 := row_cell h2.sh 4
  simp only [List.getElem?_toArray, List.getElem?_cons_zero, List.getElem?_cons_succ] at s0 s2 s3 s4
  obtain ⟨rr0, rr1, rr2⟩ := box_cells h2.rdr.row
  have bf := row_free h2.box
  go_wp2_with (go_at_call 28; refine (KD2.out _).mono ?_; rintro e w' ⟨rfl, hq⟩; replace hq := hq.symm; subst hq)
  clear kb c0 c1 c2 c3 c4 c5 c6 c7 c8 s0 s2 s3 s4 rr0 rr1 rr2 bf
  have hLd0 := h2
  have lt1 := hLd0.lt1
  have lt2 := hLd0.lt2
  have lt3 := hLd0.lt3
  have hzw0 := hLd0.gr.size
  have hT0 : TtLoop L B w u2 u2 p ao len cap T a3 b3 tb u2.heap.size (.int .i64 3) (.int .i64 0) (.string ⟨x1.toArray⟩) (.string ⟨#[]⟩) (.int .i64 0) (.int .i64 0) (.slice none 0 0) (.slice none 0 0) (.slice none 0 0) 0 a3 b3 [] := ⟨hLd0.gr, hLd0.rdr, by have e := hLd0.box; simpa using e, rdo_ret _ _ _ _, rfl, ap_nil _ _ _ _, fun _ _ _ _ => rfl, Nat.le_refl _⟩
  have hsh0 := hLd0.sh
  have hres0 := hLd0.res
  clear hLd0
  go_loopw [9] (fun y wr => ∃ (j a5 : Nat) (b5 : Bool) (us : List Tr) (v : Value), y = .int .i64 j ∧ j ≤ 3 ∧ (j = 0 ∨ (j : Int) ≤ D2) ∧ TtLoop L B w u2 wr p ao len cap T a3 b3 tb u2.heap.size (.int .i64 3) (.int .i64 0) (.string ⟨x1.toArray⟩) (.string ⟨#[]⟩) (.int .i64 0) (.int .i64 0) (.slice none 0 0) v (.slice none 0 0) j a5 b5 us) (fun y _ => 3 - (intOf y).toNat)
  case atStart => exact ⟨0, a3, b3, [], _, rfl, by omega, Or.inl rfl, hT0⟩
  case round =>
    obtain ⟨j, a5, b5, ts, v, rfl, hj, hjD, hI⟩ := hrel
    obtain ⟨ao2, cap2, hv⟩ := ap_form hI.ap
    have hul := hI.ul
    rw [hul] at hv
    subst hv
    have hzr := hI.gr.size
    have hltr := hI.lt
    obtain ⟨f0, f1, f2⟩ := box_cells hI.rdr.row
    by_cases hgo : (j : Int) < D2 ∧ j < 3 ∧ b5 = false
    · obtain ⟨g1, g2, g3⟩ := hgo
      subst g3
      have g2' : (j : Int) < 3 := by omega
      have hD := hI.drew
      have APR : Hid (∀ (w5 : World) (t : Tr) (r1 : Option Addr) (s1 u1 a6 : Nat) (b6 : Bool), wr.drew.grownBy w5 (some p) → Rdr L B w5 p ao len cap a6 b6 T → RdO tyR T a5 false t a6 b6 → OwR wr.drew.heap.size w5.heap.size w5 6 r1 s1 t.A →
          ∃ g cp w6, (Builtin.append_ #[22, 22] 22 #[.slice ao2 j cap2, .slice (some ⟨w5.heap.size, 0, none⟩) 1 1]).run Try.prog (w5.alloc (.cells #[.int .i64 t.K, .int .i64 t.N, .slice r1 s1 u1] 24)) = .ok (.slice (some ⟨g, 0, none⟩) (j + 1) cp) w6 ∧
            w5.cell? ⟨tb, 7, none⟩ = some (.slice ao2 j cap2) ∧ tb < w5.heap.size ∧ w6.cell? ⟨tb, 7, none⟩ = some (.slice ao2 j cap2) ∧ w6.frozen? ⟨tb, 7, none⟩ = false ∧
            TtLoop L B w u2 (w6.setCell ⟨tb, 7, none⟩ (.slice (some ⟨g, 0, none⟩) (j + 1) cp)) p ao len cap T a3 b3 tb u2.heap.size (.int .i64 3) (.int .i64 0) (.string ⟨x1.toArray⟩) (.string ⟨#[]⟩) (.int .i64 0) (.int .i64 0) (.slice none 0 0) (.slice (some ⟨g, 0, none⟩) (j + 1) cp) (.slice none 0 0) (j + 1) a6 b6 (ts ++ [t])) :=
        fun w5 t r1 s1 u1 a6 b6 hg hR hO ho => tt_next hD (by omega) (by omega) (by omega) (by omega) hg hR hO ho
      have y7 : wr.cell? ⟨tb, 7, none⟩ = some (.slice ao2 j cap2) := row_cell hI.box 7
      have RDJ := rd_any 6 (by omega) p ao len cap a5 L B T wr.drew hD.rdr
      clear hI hT0 hD
      go_wp2_with fail
      go_region_law (first | (refine step_run hrun (by rfl) _ _ (by rfl) (by rfl) (by rfl) (by rfl) ?_) | (go_simp; go_at_call 30; refine RDJ.mono ?_; rintro e w5 ⟨t, r1, s1, u1, a6, b6, rfl, hg5, hR5, ho5, hbad5, hres5⟩; obtain ⟨g, cp, w6, hrun, v8, hz5, hc8, hf8, hN6⟩ := APR.out w5 t r1 s1 u1 a6 b6 hg5 hR5 (rdo_ty hbad5 hres5) ho5; have v9 : (w5.alloc (.cells #[.int .i64 t.K, .int .i64 t.N, .slice r1 s1 u1] 24)).cell? ⟨tb, 7, none⟩ = some (.slice ao2 j cap2) := (World.cell?_of_block (Below.heap_alloc _ _ _ hz5)).trans v8))
      all_goals
        clear y7 v8 v9 hrun hc8 hf8
        go_wp2_with fail
        go_roundw
        case rel => exact ⟨j + 1, a6, b6, ts ++ [t], _, by go_num, by omega, Or.inr (by omega), hN6⟩
        case measure => simp [intOf]; omega
    · have HTY : Hid (RdO (manyR tyR (min D2 3).toNat) T a3 b3 ts a5 b5) := by
        by_cases hb5 : b5 = true
        · subst hb5
          exact rdo_stop (by omega) hI.rdo
        · have hb5 : b5 = false := by cases b5 with | true => exact (hb5 rfl).elim | false => rfl
          have e : (min D2 3).toNat = j := by
            have : ¬ ((j : Int) < D2 ∧ j < 3) := fun h => hgo ⟨h.1, h.2, hb5⟩
            omega
          show RdO _ _ _ _ _ _ _
          rw [e]
          exact hI.rdo
      have HO : Hid (RdO (hdS x 3) T a1 b1 ⟨0, x1, [], ⟨0, 0, []⟩, ts⟩ a5 b5) := rdo_bind ((rdo_neg (by decide) (rdo_neg (by decide) (rdo_neg (by decide) (rdo_ret _ _ _ _))))) (rdo_bind ((rdo_pos (by decide) hO1)) (rdo_bind ((rdo_neg (by decide) (rdo_ret _ _ _ _))) (rdo_bind ((rdo_neg (by decide) (rdo_ret _ _ _ _))) (rdo_bind ((by rw [HD2.out]; exact rdo_pos rfl (rdo_map hO2 digS))) (rdo_bind ((rdo_neg (by decide) (rdo_ret _ _ _ _))) (rdo_bind (HTY.out) (rdo_ret _ _ _ _)))))))
      have shr := (hI.low hb (by omega) (by omega) (by omega)).trans hsh0
      have sp := row_cell shr 0
      simp only [List.getElem?_toArray, List.getElem?_cons_zero] at sp
      have xr := (hI.low w.heap.size (Nat.le_refl _) (by omega) (by omega)).trans hres0
      obtain ⟨r0, r1, r2, r3, r4, r5, r6, r7, r8⟩ := Nine.box xr
      have rf := row_free xr
      obtain ⟨q0, q1, q2, q3, q4, q5, q6, q7, q8⟩ := Nine.box hI.box
      have HF : Hid (∀ e, e = Ending.returned (.agg #[.int .i64 3, .int .i64 0, .string ⟨x1.toArray⟩, .string ⟨#[]⟩, .int .i64 0, .int .i64 0, .slice none 0 0, .slice ao2 j cap2, .slice none 0 0]) → TmRs (lv + 1) L B w (set9 wr w.heap.size 0 (.int .i64 3) (.int .i64 0) (.string ⟨x1.toArray⟩) (.string ⟨#[]⟩) (.int .i64 0) (.int .i64 0) (.slice none 0 0) (.slice ao2 j cap2) (.slice none 0 0)) e p ao len cap T a bad) := fun e he => by
        obtain ⟨a7, c7, e7, ho7⟩ := ap_done hI.ap rfl (by omega)
        rw [hul] at e7 ho7
        injection e7 with e71 e72 e73
        subst e71
        subst e73
        refine ⟨(⟨3, 0, mkB x1, mkB [], ⟨0, 0, []⟩, ts, []⟩ : Tm), none, 0, 0, ao2, j, cap2, none, 0, 0, a5, b5, he, gr_set9 hI.gr (Nat.le_refl _), hI.rdr.keepB (fun q hq => set9_other _ (by have := hI.rdr.lo; omega)) (set9_other _ (by omega)), HT0.out _ _ _ (rdo_bind HO.out (rdo_bind (rdo_ret _ _ _ _) (rdo_ret _ _ _ _))), ?_⟩
        have hsm : ∀ l : List UInt8, l.length ≤ 1048577 → (mkB l).size ≤ 9223372036854775807 := fun l hl => by
          have : (mkB l).size = l.length := by simp [mkB, ByteArray.size]
          omega
        refine FmO.mk (M1 := u2.heap.size) (M2 := wr.heap.size) (hsm _ hx1) (hsm _ (by simp)) (OwR.nil _ _ _ _ _) ?_ (OwMR.nil _ _ _ _ _ _) (by omega) (by omega) (by rw [set9_size]; omega)
        exact ho7.keep (fun q hq1 hq2 => set9_other _ (by omega)) (Nat.le_refl _) (Nat.le_refl _)
      clear hI hT0 HTY
      have hwhy : ¬ (j : Int) < D2 ∨ ((j : Int) < D2 ∧ ¬ (j : Int) < 3) ∨ ((j : Int) < D2 ∧ (j : Int) < 3 ∧ b5 = true) := by
        by_cases z1 : (j : Int) < D2
        · by_cases z2 : (j : Int) < 3
          · right; right
            refine ⟨z1, z2, ?_⟩
            cases b5 with
            | true => rfl
            | false => exact (hgo ⟨z1, by omega, rfl⟩).elim
          · right; left; exact ⟨z1, z2⟩
        · left; exact z1
      clear hgo
      rcases hwhy with z1 | ⟨z1, z2⟩ | ⟨z1, z2, z3⟩
      · go_wp2_with fail
        refine wp_loop_rounds 1 ?_
        rw [rounds_succ]
        go_wp2_with fail
        refine bodyPost_ret (v := .agg #[.int .i64 3, .int .i64 0, .string ⟨x1.toArray⟩, .string ⟨#[]⟩, .int .i64 0, .int .i64 0, .slice none 0 0, .slice ao2 j cap2, .slice none 0 0]) (by simp [results, Try.results10, go_sem, r0, r1, r2, r3, r4, r5, r6, r7, r8]) rfl ?_
        exact HF.out _ rfl
      · go_wp2_with fail
        refine wp_loop_rounds 1 ?_
        rw [rounds_succ]
        go_wp2_with fail
        refine bodyPost_ret (v := .agg #[.int .i64 3, .int .i64 0, .string ⟨x1.toArray⟩, .string ⟨#[]⟩, .int .i64 0, .int .i64 0, .slice none 0 0, .slice ao2 j cap2, .slice none 0 0]) (by simp [results, Try.results10, go_sem, r0, r1, r2, r3, r4, r5, r6, r7, r8]) rfl ?_
        exact HF.out _ rfl
      · subst z3
        go_wp2_with fail
        refine wp_loop_rounds 1 ?_
        rw [rounds_succ]
        go_wp2_with fail
        refine bodyPost_ret (v := .agg #[.int .i64 3, .int .i64 0, .string ⟨x1.toArray⟩, .string ⟨#[]⟩, .int .i64 0, .int .i64 0, .slice none 0 0, .slice ao2 j cap2, .slice none 0 0]) (by simp [results, Try.results10, go_sem, r0, r1, r2, r3, r4, r5, r6, r7, r8]) rfl ?_
        exact HF.out _ rfl


end Go.Proofs.Ythmmapahobkhnaa
