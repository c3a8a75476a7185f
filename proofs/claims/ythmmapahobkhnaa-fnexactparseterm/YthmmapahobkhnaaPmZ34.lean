/-
  The model's 'l2Read' at every depth. (Written by a program, off mksr5.py's start.)
-/
import Derived.Test.YthmmapahobkhnaaPmSr5
import Derived.Test.YthmmapahobkhnaaPmSr6
import Derived.Test.YthmmapahobkhnaaPmSr7
import Derived.Test.YthmmapahobkhnaaPmSr8
import Derived.Test.YthmmapahobkhnaaPmSr9
import Derived.Test.YthmmapahobkhnaaPmSr10
import Derived.Test.YthmmapahobkhnaaPmRm8
namespace Go.Proofs.Ythmmapahobkhnaa
open Go.RowKit Go.PlainAid
set_option linter.unusedVariables false
set_option linter.unusedSimpArgs false

set_option maxRecDepth 100000 in
set_option maxHeartbeats 4000000 in
theorem read_none (d : Nat) (hd : d ≤ 25) (p : Nat) (ao : Option Addr) (len cap a L B : Nat) (bad : Bool) (T : List (List UInt8)) (w : World) (hT : ∀ x ∈ T, x.length ≤ 1048577) (h : Rdr L B w p ao len cap a bad T) (hk : kindW (firstT T a bad) = 0 ∨ d = 0) :
    Calls Try.prog 10 #[.pointer (some ⟨p, 0, none⟩), .int .i64 (d : Int)] w fun e w' => TmRs d L B w w' e p ao len cap T a bad := by
  have hp := h.lt
  obtain ⟨X, hX⟩ : ∃ X, X = w.alloc (.cells #[.int .i64 0, .int .i64 0, .string ⟨#[]⟩, .string ⟨#[]⟩, .int .i64 0, .int .i64 0, .slice none 0 0, .slice none 0 0, .slice none 0 0] 27) := ⟨_, rfl⟩
  have hXb : Below w.heap.size w X := by rw [hX]; exact (Below.refl _ _).alloc (Nat.le_refl _) _
  have hXs : X.heap.size = w.heap.size + 1 := by rw [hX]; simp
  have hXr : X.heap[w.heap.size]? = some (.cells #[.int .i64 0, .int .i64 0, .string ⟨#[]⟩, .string ⟨#[]⟩, .int .i64 0, .int .i64 0, .slice none 0 0, .slice none 0 0, .slice none 0 0] 27 (0, 0)) := by rw [hX]; exact heap_new rfl
  have hRX := h.below hXb
  have HX : Hid (X = _) := hX
  clear hX
  go_enter Try.func10, Try.ntmps10
  go_wp2_with fail
  rw [← HX.out]
  refine (snext_first p ao len cap a L B bad T _ hT hRX).mono ?_
  obtain ⟨x, hx⟩ : ∃ x, x = firstT T a bad := ⟨_, rfl⟩
  rw [← hx] at hk ⊢
  rintro e w1 ⟨a1, b1, rfl, hg1, hR1, hO1⟩
  have hz1 := hg1.size
  have hr1 := (hg1.block w.heap.size (by omega) (by simp; omega)).trans hXr
  have hgw1 : w.grownBy w1 (some p) := gr_trans (gr_below hXb) hg1
  obtain ⟨k, hkx⟩ : ∃ k, k = kindW x := ⟨_, rfl⟩
  have KK : Hid (∀ w : World, Calls Try.prog 26 #[.string ⟨x.toArray⟩] w fun e w' => e = .returned (.int .i64 k) ∧ Below w.heap.size w w') := fun w => by rw [hkx]; exact l2Kind_any x w
  have HO : Hid (RdO (termS d) T a bad (⟨k, 0, mkB [], mkB [], ⟨0, 0, []⟩, [], []⟩ : Tm) a1 true) := by
    show RdO _ _ _ _ _ _ _
    cases d with
    | zero => exact rdo_fail
    | succ d =>
      rcases hk with hk | hk
      · exact rdo_bind (x := x) hO1 (rdo_pos hk rdo_fail)
      · omega
  have hor : ((k == 0) = true) ∨ ((k == 0) = false ∧ d = 0) := by
    by_cases hz : k = 0
    · left; simp [hz]
    · right
      refine ⟨by rw [beq_eq_false_iff_ne]; exact hz, ?_⟩
      rcases hk with hk | hk
      · exact (hz (hkx.trans hk)).elim
      · exact hk
  clear hx hk hkx
  show _
  unfold tk
  go_wp2_with fail
  refine (KK.out _).mono ?_
  rintro e w2 ⟨rfl, hb2⟩
  have hz2 := hb2.size
  obtain ⟨W2, hW2⟩ : ∃ W2, W2 = w2.alloc (.cells #[.int .i64 k, .int .i64 0, .string ⟨#[]⟩, .string ⟨#[]⟩, .int .i64 0, .int .i64 0, .slice none 0 0, .slice none 0 0, .slice none 0 0] 27) := ⟨_, rfl⟩
  have hbW2 : Below w2.heap.size w2 W2 := by rw [hW2]; exact (Below.refl _ _).alloc (Nat.le_refl _) _
  have hzW2 : W2.heap.size = w2.heap.size + 1 := by rw [hW2]; simp
  have hxW2 : W2.heap[w2.heap.size]? = some (.cells #[.int .i64 k, .int .i64 0, .string ⟨#[]⟩, .string ⟨#[]⟩, .int .i64 0, .int .i64 0, .slice none 0 0, .slice none 0 0, .slice none 0 0] 27 (0, 0)) := by rw [hW2]; exact heap_new rfl
  have hb12 : Below w1.heap.size w1 W2 := hb2.trans (hbW2.mono hz2)
  have HW2 : Hid (W2 = _) := hW2
  have KO : Hid (∀ w : World, Calls Try.prog 27 #[.int .i64 k] w fun e w' => e = .returned (.agg #[.int .i64 (ofP k), .int .i64 (ofN k), .bool (ofS k), .bool (ofZ k), .bool (shT k)]) ∧ Below w.heap.size w w') := fun w => l2Of_any k w
  obtain ⟨g0, _, _, _, _, _, _, _, _⟩ := Nine.box hxW2
  clear hW2
  go_upto_region 3 with fail
  rw [← HW2.out]
  go_wp2_with fail
  refine (KO.out _).mono ?_
  rintro e w3 ⟨rfl, hb3⟩
  have hz3 := hb3.size
  obtain ⟨W3, hW3⟩ : ∃ W3, W3 = w3.alloc (.cells #[.int .i64 (ofP k), .int .i64 (ofN k), .bool (ofS k), .bool (ofZ k), .bool (shT k)] 55) := ⟨_, rfl⟩
  have hbW3 : Below w3.heap.size w3 W3 := by rw [hW3]; exact (Below.refl _ _).alloc (Nat.le_refl _) _
  have hzW3 : W3.heap.size = w3.heap.size + 1 := by rw [hW3]; simp
  have hsW3 : W3.heap[w3.heap.size]? = some (.cells #[.int .i64 (ofP k), .int .i64 (ofN k), .bool (ofS k), .bool (ofZ k), .bool (shT k)] 55 (0, 0)) := by rw [hW3]; exact heap_new rfl
  have hb13 : Below w1.heap.size w1 W3 := (hb12.trans (hb3.mono (by omega))).trans (hbW3.mono (by omega))
  have HW3 : Hid (W3 = _) := hW3
  have h0 : LdRel L B w W3 p ao len cap a1 b1 T w2.heap.size w3.heap.size #[.int .i64 k, .int .i64 0, .string ⟨#[]⟩, .string ⟨#[]⟩, .int .i64 0, .int .i64 0, .slice none 0 0, .slice none 0 0, .slice none 0 0] #[.int .i64 (ofP k), .int .i64 (ofN k), .bool (ofS k), .bool (ofZ k), .bool (shT k)] :=
    ⟨gr_trans hgw1 (gr_below hb13), hR1.below hb13, (hb13.block _ (by omega)).trans hr1, (hbW3.block _ (by omega)).trans ((hb3.block _ (by omega)).trans hxW2), hsW3, by omega, by omega, by omega⟩
  obtain ⟨tb, htb⟩ : ∃ tb, tb = w2.heap.size := ⟨_, rfl⟩
  obtain ⟨hb, hhb⟩ : ∃ hb, hb = w3.heap.size := ⟨_, rfl⟩
  have HTB : Hid (tb = w2.heap.size) := htb
  have HHB : Hid (hb = w3.heap.size) := hhb
  rw [← htb, ← hhb] at h0
  clear hW3 htb hhb g0 hxW2 hsW3 hXr hr1 hRX hb12 hb13 hb2 hbW2 hb3 hbW3 hg1 hR1 hgw1 hO1 hXb
  go_upto_region 4 with fail
  rw [← HW3.out, ← HTB.out, ← HHB.out]
  clear hz1 hz2 hz3 hzW2 hzW3 hXs
  have kb := h0.box
  try simp only [List.setIfInBounds_toArray, List.set_cons_zero, List.set_cons_succ] at kb
  obtain ⟨c0, c1, c2, c3, c4, c5, c6, c7, c8⟩ := Nine.box kb
  have s0 := row_cell h0.sh 0
  have s2 := row_cell h0.sh 2
  have s3 := row_cell h0.sh 3
  have s4 := row_cell h0.sh 4
  simp only [List.getElem?_toArray, List.getElem?_cons_zero, List.getElem?_cons_succ] at s0 s2 s3 s4
  obtain ⟨rr0, rr1, rr2⟩ := box_cells h0.rdr.row
  have bf := row_free h0.box
  have hRB := h0.rdr.setB true
  have rrf := row_free h0.rdr.row
  have lt1 := h0.lt1
  have lt2 := h0.lt2
  have lt3 := h0.lt3
  have hYr : (W3.setCell ⟨p, 2, none⟩ (.bool true)).heap[w.heap.size]? = _ := (row_other _ _ _ (by omega)).trans h0.res
  have hYb : (W3.setCell ⟨p, 2, none⟩ (.bool true)).heap[tb]? = _ := (row_other _ _ _ (by omega)).trans h0.box
  obtain ⟨r0, r1, r2, r3, r4, r5, r6, r7, r8⟩ := Nine.box hYr
  have rf := row_free hYr
  obtain ⟨y0, y1, y2, y3, y4, y5, y6, y7, y8⟩ := Nine.box hYb
  have HF : Hid (∀ e, e = Ending.returned (.agg #[.int .i64 k, .int .i64 0, .string ⟨#[]⟩, .string ⟨#[]⟩, .int .i64 0, .int .i64 0, .slice none 0 0, .slice none 0 0, .slice none 0 0]) → TmRs d L B w (set9 (W3.setCell ⟨p, 2, none⟩ (.bool true)) w.heap.size 0 (.int .i64 k) (.int .i64 0) (.string ⟨#[]⟩) (.string ⟨#[]⟩) (.int .i64 0) (.int .i64 0) (.slice none 0 0) (.slice none 0 0) (.slice none 0 0)) e p ao len cap T a bad) := fun e he => by
    have hgw := h0.gr.size
    refine ⟨(⟨k, 0, mkB [], mkB [], ⟨0, 0, []⟩, [], []⟩ : Tm), none, 0, 0, none, 0, 0, none, 0, 0, a1, true, he, gr_set9 (gr_set h0.gr) (Nat.le_refl _), hRB.keepB (fun q hq => set9_other _ (by have := h0.rdr.lo; omega)) (set9_other _ (by omega)), HO.out, ?_⟩
    exact FmO.mk (M1 := w.heap.size) (M2 := w.heap.size) (by show (0 : Nat) ≤ _; omega) (by show (0 : Nat) ≤ _; omega) (OwR.nil _ _ _ _ _) (OwR.nil _ _ _ _ _) (OwMR.nil _ _ _ _ _ _) (Nat.le_refl _) (Nat.le_refl _) (by rw [set9_size]; simp; omega)
  clear hYr hYb hRB h0 kb
  rcases hor with hk0 | ⟨hk0, rfl⟩
  all_goals
    go_wp2_with fail
    refine bodyPost_ret (v := .agg #[.int .i64 k, .int .i64 0, .string ⟨#[]⟩, .string ⟨#[]⟩, .int .i64 0, .int .i64 0, .slice none 0 0, .slice none 0 0, .slice none 0 0]) (by simp [results, Try.results10, go_sem, r0, r1, r2, r3, r4, r5, r6, r7, r8]) rfl ?_
    exact HF.out _ rfl

theorem l2Read_any : ∀ lv, lv ≤ 25 → SaidSr lv := by
  intro lv
  induction lv with
  | zero =>
    intro _ p ao len cap a L B bad T w hT h
    exact read_none 0 (by omega) p ao len cap a L B bad T w hT h (Or.inr rfl)
  | succ lv ih =>
    intro hl p ao len cap a L B bad T w hT h
    have IH := ih (by omega)
    by_cases hz : kindW (firstT T a bad) = 0
    · exact read_none (lv + 1) (by omega) p ao len cap a L B bad T w hT h (Or.inl hz)
    obtain ⟨h1, h2, h3⟩ := kindW_some hz
    rcases kinds h1 h2 with e | e | e | e | e | e | e | e | e | e | e | e | e | e | e | e | e
    · exact read_1 lv (by omega) IH p ao len cap a L B bad T w hT h e
    · rcases h3 with h3 | h3
      · rw [e] at h3
        exact read_2t lv (by omega) IH p ao len cap a L B bad T w hT h e h3
      · exact read_2u lv (by omega) IH p ao len cap a L B bad T w hT h e h3
    · exact read_3 lv (by omega) IH p ao len cap a L B bad T w hT h e
    · exact read_4 lv (by omega) IH p ao len cap a L B bad T w hT h e
    · exact read_5 lv (by omega) IH p ao len cap a L B bad T w hT h e
    · exact read_6 lv (by omega) IH p ao len cap a L B bad T w hT h e
    · exact read_7 lv (by omega) IH p ao len cap a L B bad T w hT h e
    · exact read_8 lv (by omega) IH p ao len cap a L B bad T w hT h e
    · exact read_9 lv (by omega) IH p ao len cap a L B bad T w hT h e
    · exact read_10 lv (by omega) IH p ao len cap a L B bad T w hT h e
    · exact read_11 lv (by omega) IH p ao len cap a L B bad T w hT h e
    · exact read_12 lv (by omega) IH p ao len cap a L B bad T w hT h e
    · exact read_13 lv (by omega) IH p ao len cap a L B bad T w hT h e
    · exact read_14 lv (by omega) IH p ao len cap a L B bad T w hT h e
    · exact read_15 lv (by omega) IH p ao len cap a L B bad T w hT h e
    · exact read_16 lv (by omega) IH p ao len cap a L B bad T w hT h e
    · exact read_17 lv (by omega) IH p ao len cap a L B bad T w hT h e

end Go.Proofs.Ythmmapahobkhnaa

/-
  The program's reader of terms: a term, walked.
-/
namespace Go.Proofs.Ythmmapahobkhnaa
open Go.RowKit Go.PlainAid
set_option linter.unusedVariables false
set_option linter.unusedSimpArgs false

abbrev z9C : Obj := .cells #[.int .i64 0, .int .i64 0, .string ⟨#[]⟩, .string ⟨#[]⟩, .int .i64 0, .int .i64 0, .slice none 0 0, .slice none 0 0, .slice none 0 0] 27 (0, 0)

theorem kOk_some {x : List UInt8} (h : kindW x ≠ 0) : kOk (kindW x) = true := by
  obtain ⟨h1, h2, _⟩ := kindW_some h
  simp only [kOk, decide_eq_true_eq]
  exact ⟨h1, h2⟩

set_option maxRecDepth 100000 in
set_option maxHeartbeats 1500000 in
theorem term_step (lv : Nat) (hlv : lv ≤ 24) (IH : SaidTr lv) : SaidTr (lv + 1) := by
  intro p ao len cap a L B bad T w hT h
  have hp := h.lt
  obtain ⟨X, hX⟩ : ∃ X, X = w.alloc (.cells #[.int .i64 0, .int .i64 0, .string ⟨#[]⟩, .string ⟨#[]⟩, .int .i64 0, .int .i64 0, .slice none 0 0, .slice none 0 0, .slice none 0 0] 27) := ⟨_, rfl⟩
  have hXb : Below w.heap.size w X := by rw [hX]; exact (Below.refl _ _).alloc (Nat.le_refl _) _
  have hXs : X.heap.size = w.heap.size + 1 := by rw [hX]; simp
  have hXr : X.heap[w.heap.size]? = some (.cells #[.int .i64 0, .int .i64 0, .string ⟨#[]⟩, .string ⟨#[]⟩, .int .i64 0, .int .i64 0, .slice none 0 0, .slice none 0 0, .slice none 0 0] 27 (0, 0)) := by rw [hX]; exact heap_new rfl
  have hRX := h.below hXb
  have HX : Hid (X = _) := hX
  have hlv0 : (((lv + 1 : Nat) : Int) == 0) = false := by rw [beq_eq_false_iff_ne]; omega
  have hlv1 : ((lv : Int) + 1 == 0) = false := by rw [beq_eq_false_iff_ne]; omega
  clear hX
  go_enter Try.func14, Try.ntmps14
  go_wp2_with fail
  rw [← HX.out]
  refine (token_any p ao len cap a L B bad T _ hT hRX).mono ?_
  rintro e w1 ⟨x, a1, b1, rfl, hg1, hR1, hO1, hx⟩
  have hz1 := hg1.size
  have hr1 := (hg1.block w.heap.size (by omega) (by simp; omega)).trans hXr
  have hgw1 : w.grownBy w1 (some p) := gr_trans (gr_below hXb) hg1
  have HKW : Hid (∀ w : World, Calls Try.prog 37 #[.string ⟨x.toArray⟩] w fun e w' => e = .returned (.int .i64 (kindW x)) ∧ w' = w) := fun w => kindOfWord_any x w
  show _
  unfold tk
  go_wp2_with fail
  refine (HKW.out _).mono ?_
  rintro e wk ⟨rfl, rfl⟩
  go_wp2_with fail
  refine (shapeOf_any (kindW x) _).mono ?_
  rintro e w2 ⟨rfl, hb2⟩
  have hz2 := hb2.size
  have hR2 := hR1.below hb2
  have hr2 := (hb2.block w.heap.size (by omega)).trans hr1
  have hgw2 : w.grownBy w2 (some p) := gr_trans hgw1 (gr_below hb2)
  by_cases hk : kindW x = 0
  · have hkk : kOk (kindW x) = false := by rw [hk]; rfl
    rw [hkk]
    have hA : ∀ o, Below w2.heap.size w2 (w2.alloc o) := fun o => (Below.refl _ _).alloc (Nat.le_refl _) _
    obtain ⟨S, hS⟩ : ∃ S, S = w2.alloc (.cells #[.int .i64 (shN (kindW x)), .int .i64 (shL (kindW x)), .int .i64 (shM (kindW x)), .bool (shT (kindW x)), .int .i64 (shS (kindW x)), .int .i64 (shP (kindW x))] 65) := ⟨_, rfl⟩
    have hRS : Rdm L B S p ao len cap a1 b1 T := by rw [hS]; exact hR2.below (hA _)
    have hrS := (show Below w2.heap.size w2 S by rw [hS]; exact hA _).block w.heap.size (by omega) |>.trans hr2
    have hgS : w.grownBy S (some p) := by rw [hS]; exact gr_trans hgw2 (gr_below (hA _))
    have hzS : w2.heap.size ≤ S.heap.size := by rw [hS]; simp
    have HS : Hid (S = _) := hS
    have HO : Hid (RdO (termR (lv + 1)) T a bad zTr a1 true) := rdo_bind hO1 (rdo_pos hk rdo_fail)
    obtain ⟨f0, f1, f2⟩ := box_cells hRS.row
    have f3 := row_free hRS.row
    have hYr : (S.setCell ⟨p, 2, none⟩ (.bool true)).heap[w.heap.size]? = _ := (row_other _ _ _ (by omega)).trans hrS
    obtain ⟨r0, r1, r2, r3, r4, r5, r6, r7, r8⟩ := Nine.box hYr
    have rf := row_free hYr
    have HF : Hid (∀ e, e = Ending.returned (.agg #[.int .i64 0, .int .i64 0, .string ⟨#[]⟩, .string ⟨#[]⟩, .int .i64 0, .int .i64 0, .slice none 0 0, .slice none 0 0, .slice none 0 0]) → TmRd (lv + 1) L B w (set9 (S.setCell ⟨p, 2, none⟩ (.bool true)) w.heap.size 0 (.int .i64 0) (.int .i64 0) (.string ⟨#[]⟩) (.string ⟨#[]⟩) (.int .i64 0) (.int .i64 0) (.slice none 0 0) (.slice none 0 0) (.slice none 0 0)) e p ao len cap T a bad) := fun e he =>
      tmrd_zero he (gr_set9 (gr_set hgS) (Nat.le_refl _)) ((hRS.setB true).keep (fun q hq => set9_other _ (by have := hRS.lo; omega)) (set9_other _ (by omega))) HO.out
    clear hS hk hkk hYr hA
    go_upto_region 3 with fail
    rw [← HS.out]
    go_wp2_with fail
    refine bodyPost_ret (v := .agg #[.int .i64 0, .int .i64 0, .string ⟨#[]⟩, .string ⟨#[]⟩, .int .i64 0, .int .i64 0, .slice none 0 0, .slice none 0 0, .slice none 0 0]) (by simp [results, Try.results14, go_sem, r0, r1, r2, r3, r4, r5, r6, r7, r8]) rfl ?_
    exact HF.out _ rfl
  · have hkk : kOk (kindW x) = true := kOk_some hk
    rw [hkk]
    have hA : ∀ o, Below w2.heap.size w2 (w2.alloc o) := fun o => (Below.refl _ _).alloc (Nat.le_refl _) _
    obtain ⟨S, hS⟩ : ∃ S, S = w2.alloc (.cells #[.int .i64 (shN (kindW x)), .int .i64 (shL (kindW x)), .int .i64 (shM (kindW x)), .bool (shT (kindW x)), .int .i64 (shS (kindW x)), .int .i64 (shP (kindW x))] 65) := ⟨_, rfl⟩
    have hbS : Below w2.heap.size w2 S := by rw [hS]; exact hA _
    have hRS : Rdm L B S p ao len cap a1 b1 T := hR2.below hbS
    have hrS := (hbS.block w.heap.size (by omega)).trans hr2
    have hgS : w.grownBy S (some p) := gr_trans hgw2 (gr_below hbS)
    have hzS : S.heap.size = w2.heap.size + 1 := by rw [hS]; simp
    have hsS : S.heap[w2.heap.size]? = some (.cells #[.int .i64 (shN (kindW x)), .int .i64 (shL (kindW x)), .int .i64 (shM (kindW x)), .bool (shT (kindW x)), .int .i64 (shS (kindW x)), .int .i64 (shP (kindW x))] 65 (0, 0)) := by rw [hS]; exact heap_new rfl
    have HS : Hid (S = _) := hS
    have HHD : Hid (Calls Try.prog 38 #[.pointer (some ⟨p, 0, none⟩), .string ⟨x.toArray⟩, .agg #[.int .i64 (shN (kindW x)), .int .i64 (shL (kindW x)), .int .i64 (shM (kindW x)), .bool (shT (kindW x)), .int .i64 (shS (kindW x)), .int .i64 (shP (kindW x))]] S fun e w' => HdRd L B S w' e p ao len cap T a1 b1 x (kindW x)) := head_any x hk p ao len cap a1 L B b1 T S hT hRS
    have g0 := row_cell hsS 0
    have g1 := row_cell hsS 1
    have g2 := row_cell hsS 2
    have g3 := row_cell hsS 3
    have g4 := row_cell hsS 4
    have g5 := row_cell hsS 5
    simp only [List.getElem?_toArray, List.getElem?_cons_zero, List.getElem?_cons_succ] at g0 g1 g2 g3 g4 g5
    have HPB := shP_bd (kindW x)
    have HT0 : Hid (∀ t a' b', RdO ((hdR x (kindW x)).bind fun h => (manyR (termR lv) (shP (kindW x)).toNat).bind fun ps => Rr.ret (⟨kindW x, h.n, mkB h.s, mkB h.z, h.t, h.ts, ps⟩ : Tm)) T a1 b1 t a' b' → RdO (termR (lv + 1)) T a bad t a' b') := fun t a' b' hr => rdo_bind hO1 (rdo_neg hk hr)
    clear hS hk hkk hA
    go_upto_region 3 with fail
    rw [← HS.out]
    go_wp2_with fail
    refine HHD.out.mono ?_
    rintro e w4 ⟨hd, t1, m1, d1, t2, m2, d2, a4, b4, M1, M2, rfl, hg4, hR4, hO4, hM0, hM1, hM2, ho1, ho2, hsz, hzz⟩
    have hz4 := hg4.size
    have hr4 := (hg4.block w.heap.size (by omega) (by simp; omega)).trans hrS
    have hs4 := (hg4.block w2.heap.size (by omega) (by simp; omega)).trans hsS
    obtain ⟨W0, hW0⟩ : ∃ W0, W0 = w4.alloc (.cells #[.int .i64 (kindW x), .int .i64 hd.n, .string (mkB hd.s), .string (mkB hd.z), .int .i64 hd.t.K, .int .i64 hd.t.N, .slice t1 m1 d1, .slice t2 m2 d2, .slice none 0 0] 27) := ⟨_, rfl⟩
    have hbW : Below w4.heap.size w4 W0 := by rw [hW0]; exact (Below.refl _ _).alloc (Nat.le_refl _) _
    have hzW : W0.heap.size = w4.heap.size + 1 := by rw [hW0]; simp
    have hbx : W0.heap[w4.heap.size]? = some (.cells #[.int .i64 (kindW x), .int .i64 hd.n, .string (mkB hd.s), .string (mkB hd.z), .int .i64 hd.t.K, .int .i64 hd.t.N, .slice t1 m1 d1, .slice t2 m2 d2, .slice none 0 0] 27 (0, 0)) := by rw [hW0]; exact heap_new rfl
    have hsW := (hbW.block w2.heap.size (by omega)).trans hs4
    have hL0 : TmLoop L B w W0 W0 p ao len cap T a4 b4 w4.heap.size lv (.int .i64 (kindW x)) (.int .i64 hd.n) (.string (mkB hd.s)) (.string (mkB hd.z)) (.int .i64 hd.t.K) (.int .i64 hd.t.N) (.slice t1 m1 d1) (.slice t2 m2 d2) (.slice none 0 0) 0 a4 b4 [] :=
      ⟨gr_trans hgS (gr_trans hg4 (gr_below hbW)), hR4.below hbW, (hbW.block _ (by omega)).trans hr4, hbx, rdo_ret _ _ _ _, rfl, apm_nil _ _ _ _ _, fun _ _ _ => rfl, by omega⟩
    have HW0 : Hid (W0 = _) := hW0
    have s5 := row_cell hsW 5
    simp only [List.getElem?_toArray, List.getElem?_cons_zero, List.getElem?_cons_succ] at s5
    obtain ⟨n, hn⟩ : ∃ n : Nat, shP (kindW x) = n := ⟨(shP (kindW x)).toNat, by omega⟩
    have HN : Hid (shP (kindW x) = n) := hn
    rw [hn] at s5
    have hn3 : n ≤ 3 := by omega
    have hpt : p < w4.heap.size := by omega
    have hwt : w.heap.size < w4.heap.size := by omega
    clear hW0 g0 g1 g2 g3 g4 g5 HPB hn hs4 hsW
    go_upto_region 7 with fail
    rw [← HW0.out]
    go_wp2_with fail
    go_loopw [33] (fun i wr => ∃ (j a5 : Nat) (b5 : Bool) (us : List Tm) (v : Value), i = .int .i64 j ∧ j ≤ n ∧ TmLoop L B w W0 wr p ao len cap T a4 b4 w4.heap.size lv (.int .i64 (kindW x)) (.int .i64 hd.n) (.string (mkB hd.s)) (.string (mkB hd.z)) (.int .i64 hd.t.K) (.int .i64 hd.t.N) (.slice t1 m1 d1) (.slice t2 m2 d2) v j a5 b5 us) (fun i _ => n - (intOf i).toNat)
    case atStart => exact ⟨0, a4, b4, [], _, rfl, by omega, hL0⟩
    case round =>
      obtain ⟨j, a5, b5, us, v, rfl, hj, hI⟩ := hrel
      obtain ⟨ao', cap', hv⟩ := apm_form hI.ap
      have hul := hI.ul
      rw [hul] at hv
      subst hv
      have hzr := hI.gr.size
      have hlt4 := hI.lt
      by_cases hlt : j < n
      · obtain ⟨f0, f1, f2⟩ := box_cells hI.rdm.row
        cases b5 with
        | true =>
          obtain ⟨r0, r1, r2, r3, r4, r5, r6, r7, r8⟩ := Nine.box hI.res
          have rf := row_free hI.res
          have HF : Hid (∀ e, e = Ending.returned (.agg #[.int .i64 0, .int .i64 0, .string ⟨#[]⟩, .string ⟨#[]⟩, .int .i64 0, .int .i64 0, .slice none 0 0, .slice none 0 0, .slice none 0 0]) → TmRd (lv + 1) L B w (set9 wr w.heap.size 0 (.int .i64 0) (.int .i64 0) (.string ⟨#[]⟩) (.string ⟨#[]⟩) (.int .i64 0) (.int .i64 0) (.slice none 0 0) (.slice none 0 0) (.slice none 0 0)) e p ao len cap T a bad) := fun e he =>
            tmrd_zero he (gr_set9 hI.gr (Nat.le_refl _)) (hI.rdm.keep (fun q hq => set9_other _ (by have := hI.rdm.lo; omega)) (set9_other _ (by omega))) (HT0.out _ _ _ (rdo_bind hO4 (rdo_dead (x := []) (a1 := 0) (rdo_stop (l' := []) (a2 := 0) (by rw [HN.out, Int.toNat_natCast]; exact hj) hI.rdo))))
          clear hI hL0
          go_wp2_with fail
          refine bodyPost_ret (v := .agg #[.int .i64 0, .int .i64 0, .string ⟨#[]⟩, .string ⟨#[]⟩, .int .i64 0, .int .i64 0, .slice none 0 0, .slice none 0 0, .slice none 0 0]) (by simp [results, Try.results14, go_sem, r0, r1, r2, r3, r4, r5, r6, r7, r8]) rfl ?_
          exact HF.out _ rfl
        | false =>
          have hD := hI.drew
          have APR : Hid (∀ (w5 : World) (t : Tm) (r1 : Option Addr) (s1 u1 : Nat) (r2 : Option Addr) (s2 u2 : Nat) (r3 : Option Addr) (s3 u3 a6 : Nat) (b6 : Bool), wr.drew.grownBy w5 (some p) → Rdm L B w5 p ao len cap a6 b6 T → RdO (termR lv) T a5 false t a6 b6 → FmO wr.drew.heap.size w5.heap.size w5 7 lv t r1 s1 r2 s2 r3 s3 →
            ∃ g cp w6, (Builtin.append_ #[25, 25] 25 #[.slice ao' j cap', .slice (some ⟨w5.heap.size, 0, none⟩) 1 1]).run Try.prog (w5.alloc (.cells #[.int .i64 t.K, .int .i64 t.N, .string t.S, .string t.Z, .int .i64 t.T.K, .int .i64 t.T.N, .slice r1 s1 u1, .slice r2 s2 u2, .slice r3 s3 u3] 27)) = .ok (.slice (some ⟨g, 0, none⟩) (j + 1) cp) w6 ∧
              w5.cell? ⟨w4.heap.size, 8, none⟩ = some (.slice ao' j cap') ∧ w4.heap.size < w5.heap.size ∧ w6.cell? ⟨w4.heap.size, 8, none⟩ = some (.slice ao' j cap') ∧ w6.frozen? ⟨w4.heap.size, 8, none⟩ = false ∧
              TmLoop L B w W0 (w6.setCell ⟨w4.heap.size, 8, none⟩ (.slice (some ⟨g, 0, none⟩) (j + 1) cp)) p ao len cap T a4 b4 w4.heap.size lv (.int .i64 (kindW x)) (.int .i64 hd.n) (.string (mkB hd.s)) (.string (mkB hd.z)) (.int .i64 hd.t.K) (.int .i64 hd.t.N) (.slice t1 m1 d1) (.slice t2 m2 d2) (.slice (some ⟨g, 0, none⟩) (j + 1) cp) (j + 1) a6 b6 (us ++ [t])) :=
            fun w5 t r1 s1 u1 r2 s2 u2 r3 s3 u3 a6 b6 hg hR hO ho => tm_next hD (by omega) (by omega) (by omega) hg hR hO ho
          have y8 : wr.cell? ⟨w4.heap.size, 8, none⟩ = some (.slice ao' j cap') := row_cell hI.box 8
          have e1 : IntKind.i64.wrap ((lv : Int) + 1 - 1) = lv := by rw [IntKind.wrap_i64] <;> omega
          have e2 : ((lv : Int) + 1 - 1) = lv := by omega
          have e3 : IntKind.i64.wrap (lv : Int) = lv := by rw [IntKind.wrap_i64] <;> omega
          have IHj := IH p ao len cap a5 L B false T wr.drew hT hD.rdm
          clear hI hL0 IH hD
          go_wp2_with fail
          go_region_law (first | (refine step_run hrun (by rfl) _ _ (by rfl) (by rfl) (by rfl) (by rfl) ?_) | (go_simp; go_at_call 14; refine IHj.mono ?_; rintro e w5 ⟨t, r1, s1, u1, r2, s2, u2, r3, s3, u3, a6, b6, rfl, hg5, hR5, hO5, ho5⟩; obtain ⟨g, cp, w6, hrun, v8, hz5, hc8, hf8, hN6⟩ := APR.out w5 t r1 s1 u1 r2 s2 u2 r3 s3 u3 a6 b6 hg5 hR5 hO5 ho5; have v9 : (w5.alloc (.cells #[.int .i64 t.K, .int .i64 t.N, .string t.S, .string t.Z, .int .i64 t.T.K, .int .i64 t.T.N, .slice r1 s1 u1, .slice r2 s2 u2, .slice r3 s3 u3] 27)).cell? ⟨w4.heap.size, 8, none⟩ = some (.slice ao' j cap') := (World.cell?_of_block (Below.heap_alloc _ _ _ hz5)).trans v8))
          all_goals
            clear y8 v8 v9 hrun hc8 hf8
            go_wp2_with fail
            go_roundw
            case rel => exact ⟨j + 1, a6, b6, us ++ [t], _, by go_num, by omega, hN6⟩
            case measure => simp [intOf]; omega
      · have hjn : j = n := by omega
        obtain ⟨r0, r1, r2, r3, r4, r5, r6, r7, r8⟩ := Nine.box hI.res
        have rf := row_free hI.res
        obtain ⟨q0, q1, q2, q3, q4, q5, q6, q7, q8⟩ := Nine.box hI.box
        have HF : Hid (∀ e, e = Ending.returned (.agg #[.int .i64 (kindW x), .int .i64 hd.n, .string (mkB hd.s), .string (mkB hd.z), .int .i64 hd.t.K, .int .i64 hd.t.N, .slice t1 m1 d1, .slice t2 m2 d2, .slice ao' j cap']) → TmRd (lv + 1) L B w (set9 wr w.heap.size 0 (.int .i64 (kindW x)) (.int .i64 hd.n) (.string (mkB hd.s)) (.string (mkB hd.z)) (.int .i64 hd.t.K) (.int .i64 hd.t.N) (.slice t1 m1 d1) (.slice t2 m2 d2) (.slice ao' j cap')) e p ao len cap T a bad) := fun e he => by
          obtain ⟨a7, c7, e7, ho7⟩ := apm_done hI.ap rfl (by omega)
          rw [hul] at e7 ho7
          injection e7 with e71 e72 e73
          subst e71
          subst e73
          refine ⟨⟨kindW x, hd.n, mkB hd.s, mkB hd.z, hd.t, hd.ts, us⟩, t1, m1, d1, t2, m2, d2, ao', j, cap', a5, b5, he, gr_set9 hI.gr (Nat.le_refl _), hI.rdm.keep (fun q hq => set9_other _ (by have := hI.rdm.lo; omega)) (set9_other _ (by omega)), ?_, ?_⟩
          · refine HT0.out _ _ _ (rdo_bind hO4 (rdo_bind (x := us) (a1 := a5) (b1 := b5) ?_ (rdo_ret _ _ _ _)))
            rw [HN.out, Int.toNat_natCast, ← hjn]
            exact hI.rdo
          · have hsm : ∀ l : List UInt8, l.length ≤ 1048577 → (mkB l).size ≤ 9223372036854775807 := fun l hl => by
              have : (mkB l).size = l.length := by simp [mkB, ByteArray.size]
              omega
            have low := hI.low
            refine FmO.mk (M1 := M1) (M2 := w4.heap.size) (hsm _ hsz) (hsm _ hzz) ?_ ?_ ?_ (by omega) (by omega) (by rw [set9_size]; omega)
            · exact (ho1.deeper (by omega)).keep (fun q hq1 hq2 => (set9_other _ (by omega)).trans ((low q (by omega) (by omega)).trans (hbW.block q (by omega)))) (by omega) (Nat.le_refl _)
            · exact ho2.keep (fun q hq1 hq2 => (set9_other _ (by omega)).trans ((low q (by omega) (by omega)).trans (hbW.block q (by omega)))) (Nat.le_refl _) hM2
            · exact ho7.keep (fun q hq1 hq2 => set9_other _ (by omega)) (by omega) (by rw [set9_size]; exact Nat.le_refl _)
        clear hI hL0 hjn
        go_wp2_with fail
        refine bodyPost_ret (v := .agg #[.int .i64 (kindW x), .int .i64 hd.n, .string (mkB hd.s), .string (mkB hd.z), .int .i64 hd.t.K, .int .i64 hd.t.N, .slice t1 m1 d1, .slice t2 m2 d2, .slice ao' j cap']) (by simp [results, Try.results14, go_sem, r0, r1, r2, r3, r4, r5, r6, r7, r8]) rfl ?_
        exact HF.out _ rfl

end Go.Proofs.Ythmmapahobkhnaa
