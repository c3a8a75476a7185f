/-
  What the model's 'l1Read' comes to, at every depth.
-/
import Derived.Test.YthmmapahobkhnaaPmRd2
import Derived.Deep.RegionLaw
namespace Go.Proofs.Ythmmapahobkhnaa
open Go.RowKit
set_option linter.unusedVariables false
set_option linter.unusedSimpArgs false

set_option maxRecDepth 100000 in
set_option maxHeartbeats 16000000 in
theorem rd_step (d : Nat) (hd : d ≤ 7) (IH : SaidRd d) : SaidRd (d + 1) := by
  intro p ao len cap a L B T w h
  have hp := h.lt
  have hX : Below w.heap.size w (w.alloc (.cells #[.int .i64 0, .int .i64 0, .slice none 0 0] 24)) := (Below.refl _ _).alloc (Nat.le_refl _) _
  by_cases hae : a = len
  · have HN : Hid (prs (d + 1) (T.drop a) = none) := by show _ = _; rw [List.drop_eq_nil_of_le (by rw [← h.toks.1]; omega)]; exact prs_end _
    subst hae
    go_enter Try.func30, Try.ntmps30
    go_wp2_with fail
    refine (next_end p ao a cap L B T _ (h.below hX)).mono ?_
    rintro e w1 ⟨rfl, hg1, hR1⟩
    have hz1 := hg1.size
    simp only [World.size_alloc] at hz1
    obtain ⟨g0, g1, g2⟩ := box_cells hR1.row
    have g3 := row_free hR1.row
    have hpw1 : p < w1.heap.size := hR1.lt
    go_wp2_with fail
    have hRb : ReRel L B w ((w1.setCell ⟨p, 2, none⟩ (.bool true)).alloc (.cells #[.int .i64 0, .int .i64 0, .slice none 0 0] 24)) p ao a cap a true T w1.heap.size 0 0 0 (.slice none 0 0) [] := by
      have h1 := re_start (K := 0) (N := 0) (d := 0) hp (grown_set (o := 2) (v := .bool true) hg1) (hR1.setB true)
      have e1 : (w1.setCell ⟨p, 2, none⟩ (.bool true)).heap.size = w1.heap.size := by simp
      rw [e1] at h1
      exact h1
    generalize ((w1.setCell ⟨p, 2, none⟩ (.bool true)).alloc (.cells #[.int .i64 0, .int .i64 0, .slice none 0 0] 24)) = V at hRb ⊢
    clear g0 g1 g2 g3
    obtain ⟨g0, g1, g2⟩ := box_cells hRb.rdr.row
    obtain ⟨y0, y1, y2⟩ := box_cells hRb.out
    obtain ⟨x0, x1, x2⟩ := box_cells hRb.res
    have x3 := row_free hRb.res
    have HE := re_end (d' := (d + 1)) (a0 := a) (R := prs (d + 1) (T.drop a)) hRb hp (by omega) (by simp) (Or.inl rfl) (by rw [HN.out]; rfl) (fun t u h => by rw [HN.out] at h; cases h)
    clear hRb
    refine wp_loop_rounds 1 ?_; rw [rounds_succ]
    go_wp2_with (go_at_call 42; refine (l1Args_any _ _).mono ?_; rintro e w' ⟨rfl, rfl⟩)
    refine bodyPost_ret (v := .agg #[.int .i64 0, .int .i64 0, .slice none 0 0]) (by simp [results, Try.results30, go_sem, x0, x1, x2]) rfl ?_
    exact HE
  have hal : a < len := by have := h.le; omega
  have haT : a < T.length := by have := h.toks.1; omega
  have HD : Hid (T.drop a = T[a] :: T.drop (a + 1)) := List.drop_eq_getElem_cons haT
  have hd0 : (((d + 1 : Nat) : Int) == 0) = false := by rw [beq_eq_false_iff_ne]; omega
  have hd1 : ((d : Int) + 1 == 0) = false := by rw [beq_eq_false_iff_ne]; omega
  by_cases h1 : T[a] = [105]
  · have HPC : Hid (prs (d + 1) (T.drop a) = (prsN (prs d) 0 (T.drop (a + 1))).map fun q => (⟨1, 0, q.1⟩, q.2 + 1)) := by
      show _ = _
      rw [HD.out, prs_cons (k := 1) (n := 0) (by rw [h1]; decide)]; rfl
    have HM : Hid (parts 1 = (0 : Nat)) := by show _ = _; decide
    go_enter Try.func30, Try.ntmps30
    go_wp2_with fail
    refine (next_tok p ao len cap a L B T _ (h.below hX) hal haT).mono ?_
    rintro e w1 ⟨rfl, hg1, hR1⟩
    have hz1 := hg1.size
    simp only [World.size_alloc] at hz1
    obtain ⟨g0, g1, g2⟩ := box_cells hR1.row
    have g3 := row_free hR1.row
    have hpw1 : p < w1.heap.size := hR1.lt
    rw [h1]
    unfold tk
    have hR0 := re_start (K := 1) (N := 0) (d := d) hp hg1 hR1
    clear g0 g1 g2 g3
    obtain ⟨g0, g1, g2⟩ := box_cells hR1.row
    go_wp2_with fail
    generalize w1.alloc (.cells #[.int .i64 1, .int .i64 0, .slice none 0 0] 24) = V0 at hR0 ⊢
    clear g0 g1 g2
    go_loopw [7] (fun i wr => ∃ (j a' : Nat) (bad' : Bool) (v : Value) (us : List Tr), j ≤ 0 ∧ i = .int .i64 j ∧ us.length = j ∧ ReRel L B w wr p ao len cap a' bad' T w1.heap.size d 1 0 v us ∧ Hid (PS d 0 j a a' bad' T us)) (fun i _ => 0 - (intOf i).toNat)
    case atStart => exact ⟨0, a + 1, false, _, [], by omega, rfl, rfl, hR0, Or.inl ⟨rfl, 0, by omega, half_start _ _ _⟩⟩
    case round =>
      obtain ⟨j, a', bad', v, us, hj, rfl, hul, hI, HP⟩ := hrel
      obtain ⟨ao', cap', rfl⟩ := ap_form hI.ap
      have HUL : Hid (us.length = j) := hul
      have hol : w1.heap.size < wr.heap.size := (Array.getElem?_eq_some_iff.1 hI.out).1
      obtain ⟨y0, y1, y2⟩ := box_cells hI.out
      obtain ⟨g0, g1, g2⟩ := box_cells hI.rdr.row
      obtain ⟨x0, x1, x2⟩ := box_cells hI.res
      have x3 := row_free hI.res
      have EXIT : Hid (∀ R, prs (d + 1) (T.drop a) = R → bad' = R.isNone → (∀ t u, R = some (t, u) → (⟨1, 0, us⟩ : Tr) = t ∧ a' = a + u) → RdEnd L B w (set3 wr w.heap.size 0 (.int .i64 1) (.int .i64 0) (.slice ao' us.length cap')) (.returned (.agg #[.int .i64 1, .int .i64 0, .slice ao' us.length cap'])) p ao len cap T a (d + 1) (prs (d + 1) (T.drop a))) := by
        intro R hR hbad hr
        rw [hR]
        exact re_end hI hp (by omega) (by have := HUL.out; omega) (Or.inr (Nat.le_refl _)) hbad hr
      clear hul
      cases bad'
      case' true =>
        have HN : Hid (prs (d + 1) (T.drop a) = none) := by
          show _ = _
          rcases HP.out with ⟨hh, _⟩ | ⟨_, hh⟩
          · cases hh
          · rw [HPC.out, hh]; rfl
        have hlt : ¬ j < 0 := by omega
        all_goals
          go_wp2_with (go_at_call 42; refine (l1Args_any _ _).mono ?_; rintro e w' ⟨rfl, rfl⟩; rw [HM.out])
          refine bodyPost_ret (v := .agg #[.int .i64 1, .int .i64 0, .slice ao' us.length cap']) (by simp [results, Try.results30, go_sem, x0, x1, x2]) rfl ?_
          exact EXIT.out none HN.out rfl (fun t u h => by cases h)
      have hlt : ¬ j < 0 := by omega
      · have HR : Hid (∃ used, a' = a + 1 + used ∧ prs (d + 1) (T.drop a) = some (⟨1, 0, us⟩, used + 1)) := by
          rcases HP.out with ⟨_, used, e, hh⟩ | ⟨hh, _⟩
          · exact ⟨used, e, by rw [HPC.out, half_done hh (by omega)]; rfl⟩
          · cases hh
        go_wp2_with (go_at_call 42; refine (l1Args_any _ _).mono ?_; rintro e w' ⟨rfl, rfl⟩; rw [HM.out])
        refine bodyPost_ret (v := .agg #[.int .i64 1, .int .i64 0, .slice ao' us.length cap']) (by simp [results, Try.results30, go_sem, x0, x1, x2]) rfl ?_
        obtain ⟨used, e, hpr⟩ := HR.out
        exact EXIT.out _ hpr rfl (fun t u h => by cases h; exact ⟨rfl, by omega⟩)
  by_cases h2 : T[a] = [98]
  · have HPC : Hid (prs (d + 1) (T.drop a) = (prsN (prs d) 0 (T.drop (a + 1))).map fun q => (⟨2, 0, q.1⟩, q.2 + 1)) := by
      show _ = _
      rw [HD.out, prs_cons (k := 2) (n := 0) (by rw [h2]; decide)]; rfl
    have HM : Hid (parts 2 = (0 : Nat)) := by show _ = _; decide
    go_enter Try.func30, Try.ntmps30
    go_wp2_with fail
    refine (next_tok p ao len cap a L B T _ (h.below hX) hal haT).mono ?_
    rintro e w1 ⟨rfl, hg1, hR1⟩
    have hz1 := hg1.size
    simp only [World.size_alloc] at hz1
    obtain ⟨g0, g1, g2⟩ := box_cells hR1.row
    have g3 := row_free hR1.row
    have hpw1 : p < w1.heap.size := hR1.lt
    rw [h2]
    unfold tk
    have hR0 := re_start (K := 2) (N := 0) (d := d) hp hg1 hR1
    clear g0 g1 g2 g3
    obtain ⟨g0, g1, g2⟩ := box_cells hR1.row
    go_wp2_with fail
    generalize w1.alloc (.cells #[.int .i64 2, .int .i64 0, .slice none 0 0] 24) = V0 at hR0 ⊢
    clear g0 g1 g2
    go_loopw [7] (fun i wr => ∃ (j a' : Nat) (bad' : Bool) (v : Value) (us : List Tr), j ≤ 0 ∧ i = .int .i64 j ∧ us.length = j ∧ ReRel L B w wr p ao len cap a' bad' T w1.heap.size d 2 0 v us ∧ Hid (PS d 0 j a a' bad' T us)) (fun i _ => 0 - (intOf i).toNat)
    case atStart => exact ⟨0, a + 1, false, _, [], by omega, rfl, rfl, hR0, Or.inl ⟨rfl, 0, by omega, half_start _ _ _⟩⟩
    case round =>
      obtain ⟨j, a', bad', v, us, hj, rfl, hul, hI, HP⟩ := hrel
      obtain ⟨ao', cap', rfl⟩ := ap_form hI.ap
      have HUL : Hid (us.length = j) := hul
      have hol : w1.heap.size < wr.heap.size := (Array.getElem?_eq_some_iff.1 hI.out).1
      obtain ⟨y0, y1, y2⟩ := box_cells hI.out
      obtain ⟨g0, g1, g2⟩ := box_cells hI.rdr.row
      obtain ⟨x0, x1, x2⟩ := box_cells hI.res
      have x3 := row_free hI.res
      have EXIT : Hid (∀ R, prs (d + 1) (T.drop a) = R → bad' = R.isNone → (∀ t u, R = some (t, u) → (⟨2, 0, us⟩ : Tr) = t ∧ a' = a + u) → RdEnd L B w (set3 wr w.heap.size 0 (.int .i64 2) (.int .i64 0) (.slice ao' us.length cap')) (.returned (.agg #[.int .i64 2, .int .i64 0, .slice ao' us.length cap'])) p ao len cap T a (d + 1) (prs (d + 1) (T.drop a))) := by
        intro R hR hbad hr
        rw [hR]
        exact re_end hI hp (by omega) (by have := HUL.out; omega) (Or.inr (Nat.le_refl _)) hbad hr
      clear hul
      cases bad'
      case' true =>
        have HN : Hid (prs (d + 1) (T.drop a) = none) := by
          show _ = _
          rcases HP.out with ⟨hh, _⟩ | ⟨_, hh⟩
          · cases hh
          · rw [HPC.out, hh]; rfl
        have hlt : ¬ j < 0 := by omega
        all_goals
          go_wp2_with (go_at_call 42; refine (l1Args_any _ _).mono ?_; rintro e w' ⟨rfl, rfl⟩; rw [HM.out])
          refine bodyPost_ret (v := .agg #[.int .i64 2, .int .i64 0, .slice ao' us.length cap']) (by simp [results, Try.results30, go_sem, x0, x1, x2]) rfl ?_
          exact EXIT.out none HN.out rfl (fun t u h => by cases h)
      have hlt : ¬ j < 0 := by omega
      · have HR : Hid (∃ used, a' = a + 1 + used ∧ prs (d + 1) (T.drop a) = some (⟨2, 0, us⟩, used + 1)) := by
          rcases HP.out with ⟨_, used, e, hh⟩ | ⟨hh, _⟩
          · exact ⟨used, e, by rw [HPC.out, half_done hh (by omega)]; rfl⟩
          · cases hh
        go_wp2_with (go_at_call 42; refine (l1Args_any _ _).mono ?_; rintro e w' ⟨rfl, rfl⟩; rw [HM.out])
        refine bodyPost_ret (v := .agg #[.int .i64 2, .int .i64 0, .slice ao' us.length cap']) (by simp [results, Try.results30, go_sem, x0, x1, x2]) rfl ?_
        obtain ⟨used, e, hpr⟩ := HR.out
        exact EXIT.out _ hpr rfl (fun t u h => by cases h; exact ⟨rfl, by omega⟩)
  by_cases h3 : T[a] = [118, 48]
  · have HPC : Hid (prs (d + 1) (T.drop a) = (prsN (prs d) 0 (T.drop (a + 1))).map fun q => (⟨3, 0, q.1⟩, q.2 + 1)) := by
      show _ = _
      rw [HD.out, prs_cons (k := 3) (n := 0) (by rw [h3]; decide)]; rfl
    have HM : Hid (parts 3 = (0 : Nat)) := by show _ = _; decide
    go_enter Try.func30, Try.ntmps30
    go_wp2_with fail
    refine (next_tok p ao len cap a L B T _ (h.below hX) hal haT).mono ?_
    rintro e w1 ⟨rfl, hg1, hR1⟩
    have hz1 := hg1.size
    simp only [World.size_alloc] at hz1
    obtain ⟨g0, g1, g2⟩ := box_cells hR1.row
    have g3 := row_free hR1.row
    have hpw1 : p < w1.heap.size := hR1.lt
    rw [h3]
    unfold tk
    have hv1 : (((⟨#[118, 48]⟩ : ByteArray)[1]'(by decide)).toNat : Int) = 48 := by decide
    have hR0 := re_start (K := 3) (N := 0) (d := d) hp hg1 hR1
    clear g0 g1 g2 g3
    obtain ⟨g0, g1, g2⟩ := box_cells hR1.row
    go_wp2_with fail
    generalize w1.alloc (.cells #[.int .i64 3, .int .i64 0, .slice none 0 0] 24) = V0 at hR0 ⊢
    clear g0 g1 g2
    go_loopw [7] (fun i wr => ∃ (j a' : Nat) (bad' : Bool) (v : Value) (us : List Tr), j ≤ 0 ∧ i = .int .i64 j ∧ us.length = j ∧ ReRel L B w wr p ao len cap a' bad' T w1.heap.size d 3 0 v us ∧ Hid (PS d 0 j a a' bad' T us)) (fun i _ => 0 - (intOf i).toNat)
    case atStart => exact ⟨0, a + 1, false, _, [], by omega, rfl, rfl, hR0, Or.inl ⟨rfl, 0, by omega, half_start _ _ _⟩⟩
    case round =>
      obtain ⟨j, a', bad', v, us, hj, rfl, hul, hI, HP⟩ := hrel
      obtain ⟨ao', cap', rfl⟩ := ap_form hI.ap
      have HUL : Hid (us.length = j) := hul
      have hol : w1.heap.size < wr.heap.size := (Array.getElem?_eq_some_iff.1 hI.out).1
      obtain ⟨y0, y1, y2⟩ := box_cells hI.out
      obtain ⟨g0, g1, g2⟩ := box_cells hI.rdr.row
      obtain ⟨x0, x1, x2⟩ := box_cells hI.res
      have x3 := row_free hI.res
      have EXIT : Hid (∀ R, prs (d + 1) (T.drop a) = R → bad' = R.isNone → (∀ t u, R = some (t, u) → (⟨3, 0, us⟩ : Tr) = t ∧ a' = a + u) → RdEnd L B w (set3 wr w.heap.size 0 (.int .i64 3) (.int .i64 0) (.slice ao' us.length cap')) (.returned (.agg #[.int .i64 3, .int .i64 0, .slice ao' us.length cap'])) p ao len cap T a (d + 1) (prs (d + 1) (T.drop a))) := by
        intro R hR hbad hr
        rw [hR]
        exact re_end hI hp (by omega) (by have := HUL.out; omega) (Or.inr (Nat.le_refl _)) hbad hr
      clear hul
      cases bad'
      case' true =>
        have HN : Hid (prs (d + 1) (T.drop a) = none) := by
          show _ = _
          rcases HP.out with ⟨hh, _⟩ | ⟨_, hh⟩
          · cases hh
          · rw [HPC.out, hh]; rfl
        have hlt : ¬ j < 0 := by omega
        all_goals
          go_wp2_with (go_at_call 42; refine (l1Args_any _ _).mono ?_; rintro e w' ⟨rfl, rfl⟩; rw [HM.out])
          refine bodyPost_ret (v := .agg #[.int .i64 3, .int .i64 0, .slice ao' us.length cap']) (by simp [results, Try.results30, go_sem, x0, x1, x2]) rfl ?_
          exact EXIT.out none HN.out rfl (fun t u h => by cases h)
      have hlt : ¬ j < 0 := by omega
      · have HR : Hid (∃ used, a' = a + 1 + used ∧ prs (d + 1) (T.drop a) = some (⟨3, 0, us⟩, used + 1)) := by
          rcases HP.out with ⟨_, used, e, hh⟩ | ⟨hh, _⟩
          · exact ⟨used, e, by rw [HPC.out, half_done hh (by omega)]; rfl⟩
          · cases hh
        go_wp2_with (go_at_call 42; refine (l1Args_any _ _).mono ?_; rintro e w' ⟨rfl, rfl⟩; rw [HM.out])
        refine bodyPost_ret (v := .agg #[.int .i64 3, .int .i64 0, .slice ao' us.length cap']) (by simp [results, Try.results30, go_sem, x0, x1, x2]) rfl ?_
        obtain ⟨used, e, hpr⟩ := HR.out
        exact EXIT.out _ hpr rfl (fun t u h => by cases h; exact ⟨rfl, by omega⟩)
  by_cases h4 : T[a] = [118, 49]
  · have HPC : Hid (prs (d + 1) (T.drop a) = (prsN (prs d) 0 (T.drop (a + 1))).map fun q => (⟨3, 1, q.1⟩, q.2 + 1)) := by
      show _ = _
      rw [HD.out, prs_cons (k := 3) (n := 1) (by rw [h4]; decide)]; rfl
    have HM : Hid (parts 3 = (0 : Nat)) := by show _ = _; decide
    go_enter Try.func30, Try.ntmps30
    go_wp2_with fail
    refine (next_tok p ao len cap a L B T _ (h.below hX) hal haT).mono ?_
    rintro e w1 ⟨rfl, hg1, hR1⟩
    have hz1 := hg1.size
    simp only [World.size_alloc] at hz1
    obtain ⟨g0, g1, g2⟩ := box_cells hR1.row
    have g3 := row_free hR1.row
    have hpw1 : p < w1.heap.size := hR1.lt
    rw [h4]
    unfold tk
    have hv1 : (((⟨#[118, 49]⟩ : ByteArray)[1]'(by decide)).toNat : Int) = 49 := by decide
    have hR0 := re_start (K := 3) (N := 1) (d := d) hp hg1 hR1
    clear g0 g1 g2 g3
    obtain ⟨g0, g1, g2⟩ := box_cells hR1.row
    go_wp2_with fail
    generalize w1.alloc (.cells #[.int .i64 3, .int .i64 1, .slice none 0 0] 24) = V0 at hR0 ⊢
    clear g0 g1 g2
    go_loopw [7] (fun i wr => ∃ (j a' : Nat) (bad' : Bool) (v : Value) (us : List Tr), j ≤ 0 ∧ i = .int .i64 j ∧ us.length = j ∧ ReRel L B w wr p ao len cap a' bad' T w1.heap.size d 3 1 v us ∧ Hid (PS d 0 j a a' bad' T us)) (fun i _ => 0 - (intOf i).toNat)
    case atStart => exact ⟨0, a + 1, false, _, [], by omega, rfl, rfl, hR0, Or.inl ⟨rfl, 0, by omega, half_start _ _ _⟩⟩
    case round =>
      obtain ⟨j, a', bad', v, us, hj, rfl, hul, hI, HP⟩ := hrel
      obtain ⟨ao', cap', rfl⟩ := ap_form hI.ap
      have HUL : Hid (us.length = j) := hul
      have hol : w1.heap.size < wr.heap.size := (Array.getElem?_eq_some_iff.1 hI.out).1
      obtain ⟨y0, y1, y2⟩ := box_cells hI.out
      obtain ⟨g0, g1, g2⟩ := box_cells hI.rdr.row
      obtain ⟨x0, x1, x2⟩ := box_cells hI.res
      have x3 := row_free hI.res
      have EXIT : Hid (∀ R, prs (d + 1) (T.drop a) = R → bad' = R.isNone → (∀ t u, R = some (t, u) → (⟨3, 1, us⟩ : Tr) = t ∧ a' = a + u) → RdEnd L B w (set3 wr w.heap.size 0 (.int .i64 3) (.int .i64 1) (.slice ao' us.length cap')) (.returned (.agg #[.int .i64 3, .int .i64 1, .slice ao' us.length cap'])) p ao len cap T a (d + 1) (prs (d + 1) (T.drop a))) := by
        intro R hR hbad hr
        rw [hR]
        exact re_end hI hp (by omega) (by have := HUL.out; omega) (Or.inr (Nat.le_refl _)) hbad hr
      clear hul
      cases bad'
      case' true =>
        have HN : Hid (prs (d + 1) (T.drop a) = none) := by
          show _ = _
          rcases HP.out with ⟨hh, _⟩ | ⟨_, hh⟩
          · cases hh
          · rw [HPC.out, hh]; rfl
        have hlt : ¬ j < 0 := by omega
        all_goals
          go_wp2_with (go_at_call 42; refine (l1Args_any _ _).mono ?_; rintro e w' ⟨rfl, rfl⟩; rw [HM.out])
          refine bodyPost_ret (v := .agg #[.int .i64 3, .int .i64 1, .slice ao' us.length cap']) (by simp [results, Try.results30, go_sem, x0, x1, x2]) rfl ?_
          exact EXIT.out none HN.out rfl (fun t u h => by cases h)
      have hlt : ¬ j < 0 := by omega
      · have HR : Hid (∃ used, a' = a + 1 + used ∧ prs (d + 1) (T.drop a) = some (⟨3, 1, us⟩, used + 1)) := by
          rcases HP.out with ⟨_, used, e, hh⟩ | ⟨hh, _⟩
          · exact ⟨used, e, by rw [HPC.out, half_done hh (by omega)]; rfl⟩
          · cases hh
        go_wp2_with (go_at_call 42; refine (l1Args_any _ _).mono ?_; rintro e w' ⟨rfl, rfl⟩; rw [HM.out])
        refine bodyPost_ret (v := .agg #[.int .i64 3, .int .i64 1, .slice ao' us.length cap']) (by simp [results, Try.results30, go_sem, x0, x1, x2]) rfl ?_
        obtain ⟨used, e, hpr⟩ := HR.out
        exact EXIT.out _ hpr rfl (fun t u h => by cases h; exact ⟨rfl, by omega⟩)
  by_cases h5 : T[a] = [102]
  · have HPC : Hid (prs (d + 1) (T.drop a) = (prsN (prs d) 2 (T.drop (a + 1))).map fun q => (⟨4, 0, q.1⟩, q.2 + 1)) := by
      show _ = _
      rw [HD.out, prs_cons (k := 4) (n := 0) (by rw [h5]; decide)]; rfl
    have HM : Hid (parts 4 = (2 : Nat)) := by show _ = _; decide
    go_enter Try.func30, Try.ntmps30
    go_wp2_with fail
    refine (next_tok p ao len cap a L B T _ (h.below hX) hal haT).mono ?_
    rintro e w1 ⟨rfl, hg1, hR1⟩
    have hz1 := hg1.size
    simp only [World.size_alloc] at hz1
    obtain ⟨g0, g1, g2⟩ := box_cells hR1.row
    have g3 := row_free hR1.row
    have hpw1 : p < w1.heap.size := hR1.lt
    rw [h5]
    unfold tk
    have hR0 := re_start (K := 4) (N := 0) (d := d) hp hg1 hR1
    clear g0 g1 g2 g3
    obtain ⟨g0, g1, g2⟩ := box_cells hR1.row
    go_wp2_with fail
    generalize w1.alloc (.cells #[.int .i64 4, .int .i64 0, .slice none 0 0] 24) = V0 at hR0 ⊢
    clear g0 g1 g2
    go_loopw [7] (fun i wr => ∃ (j a' : Nat) (bad' : Bool) (v : Value) (us : List Tr), j ≤ 2 ∧ i = .int .i64 j ∧ us.length = j ∧ ReRel L B w wr p ao len cap a' bad' T w1.heap.size d 4 0 v us ∧ Hid (PS d 2 j a a' bad' T us)) (fun i _ => 2 - (intOf i).toNat)
    case atStart => exact ⟨0, a + 1, false, _, [], by omega, rfl, rfl, hR0, Or.inl ⟨rfl, 0, by omega, half_start _ _ _⟩⟩
    case round =>
      obtain ⟨j, a', bad', v, us, hj, rfl, hul, hI, HP⟩ := hrel
      obtain ⟨ao', cap', rfl⟩ := ap_form hI.ap
      have HUL : Hid (us.length = j) := hul
      have hol : w1.heap.size < wr.heap.size := (Array.getElem?_eq_some_iff.1 hI.out).1
      obtain ⟨y0, y1, y2⟩ := box_cells hI.out
      obtain ⟨g0, g1, g2⟩ := box_cells hI.rdr.row
      obtain ⟨x0, x1, x2⟩ := box_cells hI.res
      have x3 := row_free hI.res
      have EXIT : Hid (∀ R, prs (d + 1) (T.drop a) = R → bad' = R.isNone → (∀ t u, R = some (t, u) → (⟨4, 0, us⟩ : Tr) = t ∧ a' = a + u) → RdEnd L B w (set3 wr w.heap.size 0 (.int .i64 4) (.int .i64 0) (.slice ao' us.length cap')) (.returned (.agg #[.int .i64 4, .int .i64 0, .slice ao' us.length cap'])) p ao len cap T a (d + 1) (prs (d + 1) (T.drop a))) := by
        intro R hR hbad hr
        rw [hR]
        exact re_end hI hp (by omega) (by have := HUL.out; omega) (Or.inr (Nat.le_refl _)) hbad hr
      clear hul
      cases bad'
      case' true =>
        have HN : Hid (prs (d + 1) (T.drop a) = none) := by
          show _ = _
          rcases HP.out with ⟨hh, _⟩ | ⟨_, hh⟩
          · cases hh
          · rw [HPC.out, hh]; rfl
        by_cases hlt : j < 2
        all_goals
          go_wp2_with (go_at_call 42; refine (l1Args_any _ _).mono ?_; rintro e w' ⟨rfl, rfl⟩; rw [HM.out])
          refine bodyPost_ret (v := .agg #[.int .i64 4, .int .i64 0, .slice ao' us.length cap']) (by simp [results, Try.results30, go_sem, x0, x1, x2]) rfl ?_
          exact EXIT.out none HN.out rfl (fun t u h => by cases h)
      by_cases hlt : j < 2
      · have hRd : Rdr L B wr.drew p ao len cap a' false T := hI.rdr.drew
        have e1 : IntKind.i64.wrap (d : Int) = (d : Int) := by rw [IntKind.wrap_i64]; omega
        have NX : Hid (∀ (w4 : World) (t' : Tr) (ao3 : Option Addr) (len3 cap3 a4 : Nat) (bad4 : Bool), wr.drew.grownBy w4 (some p) → Rdr L B w4 p ao len cap a4 bad4 T → OwR wr.drew.heap.size w4.heap.size w4 d ao3 len3 t'.A → bad4 = (prs d (T.drop a')).isNone → (∀ t u, prs d (T.drop a') = some (t, u) → t' = t ∧ a4 = a' + u) →
            ∃ g cp w2, (Builtin.append_ #[22, 22] 22 #[.slice ao' us.length cap', .slice (some ⟨w4.heap.size, 0, none⟩) 1 1]).run Try.prog (w4.alloc (.cells #[.int .i64 t'.K, .int .i64 t'.N, .slice ao3 len3 cap3] 24)) = .ok (.slice (some ⟨g, 0, none⟩) (us.length + 1) cp) w2 ∧
              w4.cell? ⟨w1.heap.size, 2, none⟩ = some (.slice ao' us.length cap') ∧ w1.heap.size < w4.heap.size ∧ w2.cell? ⟨w1.heap.size, 2, none⟩ = some (.slice ao' us.length cap') ∧ w2.frozen? ⟨w1.heap.size, 2, none⟩ = false ∧
              ReRel L B w (w2.setCell ⟨w1.heap.size, 2, none⟩ (.slice (some ⟨g, 0, none⟩) (us.length + 1) cp)) p ao len cap a4 bad4 T w1.heap.size d 4 0 (.slice (some ⟨g, 0, none⟩) (us.length + 1) cp) (us ++ [t']) ∧ (us ++ [t']).length = j + 1 ∧ Hid (PS d 2 (j + 1) a a4 bad4 T (us ++ [t']))) := by
          intro w4 t' ao3 len3 cap3 a4 bad4 hg4 hR4 ho4 hb4 hr4
          obtain ⟨g, cp, w2, hrun, q1, q2, q3, q4, hN⟩ := re_next hI hp (by omega) (by have := HUL.out; omega) ⟨hg4.os, hg4.tape, hg4.output, hg4.size, hg4.block⟩ hR4 t'.K t'.N ao3 len3 cap3 t'.A ho4
          rw [tr_eta] at hN
          exact ⟨g, cp, w2, hrun, q1, q2, q3, q4, hN, by simp; exact HUL.out, ps_next HP.out hlt hb4 hr4⟩
        clear x0 x1 x2 x3 EXIT
        go_wp2_with (go_at_call 42; refine (l1Args_any _ _).mono ?_; rintro e w' ⟨rfl, rfl⟩; rw [HM.out])
        go_region_law (first | (refine step_run hrun (by rfl) _ _ (by rfl) (by rfl) (by rfl) (by rfl) ?_) | (go_simp; go_at_call 30; refine (IH p ao len cap a' L B T _ hRd).mono ?_; rintro e w4 ⟨t', ao3, len3, cap3, a4, bad4, rfl, hg4, hR4, ho4, hb4, hr4⟩; obtain ⟨g, cp, w2, hrun, a2, hz4, q2, q3, hN, hln, HPN⟩ := NX.out w4 t' ao3 len3 cap3 a4 bad4 hg4 hR4 ho4 hb4 hr4; have a3 : (w4.alloc (.cells #[.int .i64 t'.K, .int .i64 t'.N, .slice ao3 len3 cap3] 24)).cell? ⟨w1.heap.size, 2, none⟩ = some (.slice ao' us.length cap') := (World.cell?_of_block (Below.heap_alloc _ _ _ hz4)).trans a2))
        all_goals
          have HLN : Hid (_ = _) := hln
          clear y0 y1 y2 g0 g1 g2 a2 a3 hrun q2 q3 hln hb4
          go_wp2_with fail
          go_roundw
          case rel => exact ⟨j + 1, a4, bad4, _, _, by omega, by go_num, HLN.out, hN, HPN⟩
          case measure => simp [intOf]; omega
      · have HR : Hid (∃ used, a' = a + 1 + used ∧ prs (d + 1) (T.drop a) = some (⟨4, 0, us⟩, used + 1)) := by
          rcases HP.out with ⟨_, used, e, hh⟩ | ⟨hh, _⟩
          · exact ⟨used, e, by rw [HPC.out, half_done hh (by omega)]; rfl⟩
          · cases hh
        go_wp2_with (go_at_call 42; refine (l1Args_any _ _).mono ?_; rintro e w' ⟨rfl, rfl⟩; rw [HM.out])
        refine bodyPost_ret (v := .agg #[.int .i64 4, .int .i64 0, .slice ao' us.length cap']) (by simp [results, Try.results30, go_sem, x0, x1, x2]) rfl ?_
        obtain ⟨used, e, hpr⟩ := HR.out
        exact EXIT.out _ hpr rfl (fun t u h => by cases h; exact ⟨rfl, by omega⟩)
  by_cases h6 : T[a] = [112]
  · have HPC : Hid (prs (d + 1) (T.drop a) = (prsN (prs d) 2 (T.drop (a + 1))).map fun q => (⟨5, 0, q.1⟩, q.2 + 1)) := by
      show _ = _
      rw [HD.out, prs_cons (k := 5) (n := 0) (by rw [h6]; decide)]; rfl
    have HM : Hid (parts 5 = (2 : Nat)) := by show _ = _; decide
    go_enter Try.func30, Try.ntmps30
    go_wp2_with fail
    refine (next_tok p ao len cap a L B T _ (h.below hX) hal haT).mono ?_
    rintro e w1 ⟨rfl, hg1, hR1⟩
    have hz1 := hg1.size
    simp only [World.size_alloc] at hz1
    obtain ⟨g0, g1, g2⟩ := box_cells hR1.row
    have g3 := row_free hR1.row
    have hpw1 : p < w1.heap.size := hR1.lt
    rw [h6]
    unfold tk
    have hR0 := re_start (K := 5) (N := 0) (d := d) hp hg1 hR1
    clear g0 g1 g2 g3
    obtain ⟨g0, g1, g2⟩ := box_cells hR1.row
    go_wp2_with fail
    generalize w1.alloc (.cells #[.int .i64 5, .int .i64 0, .slice none 0 0] 24) = V0 at hR0 ⊢
    clear g0 g1 g2
    go_loopw [7] (fun i wr => ∃ (j a' : Nat) (bad' : Bool) (v : Value) (us : List Tr), j ≤ 2 ∧ i = .int .i64 j ∧ us.length = j ∧ ReRel L B w wr p ao len cap a' bad' T w1.heap.size d 5 0 v us ∧ Hid (PS d 2 j a a' bad' T us)) (fun i _ => 2 - (intOf i).toNat)
    case atStart => exact ⟨0, a + 1, false, _, [], by omega, rfl, rfl, hR0, Or.inl ⟨rfl, 0, by omega, half_start _ _ _⟩⟩
    case round =>
      obtain ⟨j, a', bad', v, us, hj, rfl, hul, hI, HP⟩ := hrel
      obtain ⟨ao', cap', rfl⟩ := ap_form hI.ap
      have HUL : Hid (us.length = j) := hul
      have hol : w1.heap.size < wr.heap.size := (Array.getElem?_eq_some_iff.1 hI.out).1
      obtain ⟨y0, y1, y2⟩ := box_cells hI.out
      obtain ⟨g0, g1, g2⟩ := box_cells hI.rdr.row
      obtain ⟨x0, x1, x2⟩ := box_cells hI.res
      have x3 := row_free hI.res
      have EXIT : Hid (∀ R, prs (d + 1) (T.drop a) = R → bad' = R.isNone → (∀ t u, R = some (t, u) → (⟨5, 0, us⟩ : Tr) = t ∧ a' = a + u) → RdEnd L B w (set3 wr w.heap.size 0 (.int .i64 5) (.int .i64 0) (.slice ao' us.length cap')) (.returned (.agg #[.int .i64 5, .int .i64 0, .slice ao' us.length cap'])) p ao len cap T a (d + 1) (prs (d + 1) (T.drop a))) := by
        intro R hR hbad hr
        rw [hR]
        exact re_end hI hp (by omega) (by have := HUL.out; omega) (Or.inr (Nat.le_refl _)) hbad hr
      clear hul
      cases bad'
      case' true =>
        have HN : Hid (prs (d + 1) (T.drop a) = none) := by
          show _ = _
          rcases HP.out with ⟨hh, _⟩ | ⟨_, hh⟩
          · cases hh
          · rw [HPC.out, hh]; rfl
        by_cases hlt : j < 2
        all_goals
          go_wp2_with (go_at_call 42; refine (l1Args_any _ _).mono ?_; rintro e w' ⟨rfl, rfl⟩; rw [HM.out])
          refine bodyPost_ret (v := .agg #[.int .i64 5, .int .i64 0, .slice ao' us.length cap']) (by simp [results, Try.results30, go_sem, x0, x1, x2]) rfl ?_
          exact EXIT.out none HN.out rfl (fun t u h => by cases h)
      by_cases hlt : j < 2
      · have hRd : Rdr L B wr.drew p ao len cap a' false T := hI.rdr.drew
        have e1 : IntKind.i64.wrap (d : Int) = (d : Int) := by rw [IntKind.wrap_i64]; omega
        have NX : Hid (∀ (w4 : World) (t' : Tr) (ao3 : Option Addr) (len3 cap3 a4 : Nat) (bad4 : Bool), wr.drew.grownBy w4 (some p) → Rdr L B w4 p ao len cap a4 bad4 T → OwR wr.drew.heap.size w4.heap.size w4 d ao3 len3 t'.A → bad4 = (prs d (T.drop a')).isNone → (∀ t u, prs d (T.drop a') = some (t, u) → t' = t ∧ a4 = a' + u) →
            ∃ g cp w2, (Builtin.append_ #[22, 22] 22 #[.slice ao' us.length cap', .slice (some ⟨w4.heap.size, 0, none⟩) 1 1]).run Try.prog (w4.alloc (.cells #[.int .i64 t'.K, .int .i64 t'.N, .slice ao3 len3 cap3] 24)) = .ok (.slice (some ⟨g, 0, none⟩) (us.length + 1) cp) w2 ∧
              w4.cell? ⟨w1.heap.size, 2, none⟩ = some (.slice ao' us.length cap') ∧ w1.heap.size < w4.heap.size ∧ w2.cell? ⟨w1.heap.size, 2, none⟩ = some (.slice ao' us.length cap') ∧ w2.frozen? ⟨w1.heap.size, 2, none⟩ = false ∧
              ReRel L B w (w2.setCell ⟨w1.heap.size, 2, none⟩ (.slice (some ⟨g, 0, none⟩) (us.length + 1) cp)) p ao len cap a4 bad4 T w1.heap.size d 5 0 (.slice (some ⟨g, 0, none⟩) (us.length + 1) cp) (us ++ [t']) ∧ (us ++ [t']).length = j + 1 ∧ Hid (PS d 2 (j + 1) a a4 bad4 T (us ++ [t']))) := by
          intro w4 t' ao3 len3 cap3 a4 bad4 hg4 hR4 ho4 hb4 hr4
          obtain ⟨g, cp, w2, hrun, q1, q2, q3, q4, hN⟩ := re_next hI hp (by omega) (by have := HUL.out; omega) ⟨hg4.os, hg4.tape, hg4.output, hg4.size, hg4.block⟩ hR4 t'.K t'.N ao3 len3 cap3 t'.A ho4
          rw [tr_eta] at hN
          exact ⟨g, cp, w2, hrun, q1, q2, q3, q4, hN, by simp; exact HUL.out, ps_next HP.out hlt hb4 hr4⟩
        clear x0 x1 x2 x3 EXIT
        go_wp2_with (go_at_call 42; refine (l1Args_any _ _).mono ?_; rintro e w' ⟨rfl, rfl⟩; rw [HM.out])
        go_region_law (first | (refine step_run hrun (by rfl) _ _ (by rfl) (by rfl) (by rfl) (by rfl) ?_) | (go_simp; go_at_call 30; refine (IH p ao len cap a' L B T _ hRd).mono ?_; rintro e w4 ⟨t', ao3, len3, cap3, a4, bad4, rfl, hg4, hR4, ho4, hb4, hr4⟩; obtain ⟨g, cp, w2, hrun, a2, hz4, q2, q3, hN, hln, HPN⟩ := NX.out w4 t' ao3 len3 cap3 a4 bad4 hg4 hR4 ho4 hb4 hr4; have a3 : (w4.alloc (.cells #[.int .i64 t'.K, .int .i64 t'.N, .slice ao3 len3 cap3] 24)).cell? ⟨w1.heap.size, 2, none⟩ = some (.slice ao' us.length cap') := (World.cell?_of_block (Below.heap_alloc _ _ _ hz4)).trans a2))
        all_goals
          have HLN : Hid (_ = _) := hln
          clear y0 y1 y2 g0 g1 g2 a2 a3 hrun q2 q3 hln hb4
          go_wp2_with fail
          go_roundw
          case rel => exact ⟨j + 1, a4, bad4, _, _, by omega, by go_num, HLN.out, hN, HPN⟩
          case measure => simp [intOf]; omega
      · have HR : Hid (∃ used, a' = a + 1 + used ∧ prs (d + 1) (T.drop a) = some (⟨5, 0, us⟩, used + 1)) := by
          rcases HP.out with ⟨_, used, e, hh⟩ | ⟨hh, _⟩
          · exact ⟨used, e, by rw [HPC.out, half_done hh (by omega)]; rfl⟩
          · cases hh
        go_wp2_with (go_at_call 42; refine (l1Args_any _ _).mono ?_; rintro e w' ⟨rfl, rfl⟩; rw [HM.out])
        refine bodyPost_ret (v := .agg #[.int .i64 5, .int .i64 0, .slice ao' us.length cap']) (by simp [results, Try.results30, go_sem, x0, x1, x2]) rfl ?_
        obtain ⟨used, e, hpr⟩ := HR.out
        exact EXIT.out _ hpr rfl (fun t u h => by cases h; exact ⟨rfl, by omega⟩)
  by_cases h7 : T[a] = [108]
  · have HPC : Hid (prs (d + 1) (T.drop a) = (prsN (prs d) 1 (T.drop (a + 1))).map fun q => (⟨6, 0, q.1⟩, q.2 + 1)) := by
      show _ = _
      rw [HD.out, prs_cons (k := 6) (n := 0) (by rw [h7]; decide)]; rfl
    have HM : Hid (parts 6 = (1 : Nat)) := by show _ = _; decide
    go_enter Try.func30, Try.ntmps30
    go_wp2_with fail
    refine (next_tok p ao len cap a L B T _ (h.below hX) hal haT).mono ?_
    rintro e w1 ⟨rfl, hg1, hR1⟩
    have hz1 := hg1.size
    simp only [World.size_alloc] at hz1
    obtain ⟨g0, g1, g2⟩ := box_cells hR1.row
    have g3 := row_free hR1.row
    have hpw1 : p < w1.heap.size := hR1.lt
    rw [h7]
    unfold tk
    have hR0 := re_start (K := 6) (N := 0) (d := d) hp hg1 hR1
    clear g0 g1 g2 g3
    obtain ⟨g0, g1, g2⟩ := box_cells hR1.row
    go_wp2_with fail
    generalize w1.alloc (.cells #[.int .i64 6, .int .i64 0, .slice none 0 0] 24) = V0 at hR0 ⊢
    clear g0 g1 g2
    go_loopw [7] (fun i wr => ∃ (j a' : Nat) (bad' : Bool) (v : Value) (us : List Tr), j ≤ 1 ∧ i = .int .i64 j ∧ us.length = j ∧ ReRel L B w wr p ao len cap a' bad' T w1.heap.size d 6 0 v us ∧ Hid (PS d 1 j a a' bad' T us)) (fun i _ => 1 - (intOf i).toNat)
    case atStart => exact ⟨0, a + 1, false, _, [], by omega, rfl, rfl, hR0, Or.inl ⟨rfl, 0, by omega, half_start _ _ _⟩⟩
    case round =>
      obtain ⟨j, a', bad', v, us, hj, rfl, hul, hI, HP⟩ := hrel
      obtain ⟨ao', cap', rfl⟩ := ap_form hI.ap
      have HUL : Hid (us.length = j) := hul
      have hol : w1.heap.size < wr.heap.size := (Array.getElem?_eq_some_iff.1 hI.out).1
      obtain ⟨y0, y1, y2⟩ := box_cells hI.out
      obtain ⟨g0, g1, g2⟩ := box_cells hI.rdr.row
      obtain ⟨x0, x1, x2⟩ := box_cells hI.res
      have x3 := row_free hI.res
      have EXIT : Hid (∀ R, prs (d + 1) (T.drop a) = R → bad' = R.isNone → (∀ t u, R = some (t, u) → (⟨6, 0, us⟩ : Tr) = t ∧ a' = a + u) → RdEnd L B w (set3 wr w.heap.size 0 (.int .i64 6) (.int .i64 0) (.slice ao' us.length cap')) (.returned (.agg #[.int .i64 6, .int .i64 0, .slice ao' us.length cap'])) p ao len cap T a (d + 1) (prs (d + 1) (T.drop a))) := by
        intro R hR hbad hr
        rw [hR]
        exact re_end hI hp (by omega) (by have := HUL.out; omega) (Or.inr (Nat.le_refl _)) hbad hr
      clear hul
      cases bad'
      case' true =>
        have HN : Hid (prs (d + 1) (T.drop a) = none) := by
          show _ = _
          rcases HP.out with ⟨hh, _⟩ | ⟨_, hh⟩
          · cases hh
          · rw [HPC.out, hh]; rfl
        by_cases hlt : j < 1
        all_goals
          go_wp2_with (go_at_call 42; refine (l1Args_any _ _).mono ?_; rintro e w' ⟨rfl, rfl⟩; rw [HM.out])
          refine bodyPost_ret (v := .agg #[.int .i64 6, .int .i64 0, .slice ao' us.length cap']) (by simp [results, Try.results30, go_sem, x0, x1, x2]) rfl ?_
          exact EXIT.out none HN.out rfl (fun t u h => by cases h)
      by_cases hlt : j < 1
      · have hRd : Rdr L B wr.drew p ao len cap a' false T := hI.rdr.drew
        have e1 : IntKind.i64.wrap (d : Int) = (d : Int) := by rw [IntKind.wrap_i64]; omega
        have NX : Hid (∀ (w4 : World) (t' : Tr) (ao3 : Option Addr) (len3 cap3 a4 : Nat) (bad4 : Bool), wr.drew.grownBy w4 (some p) → Rdr L B w4 p ao len cap a4 bad4 T → OwR wr.drew.heap.size w4.heap.size w4 d ao3 len3 t'.A → bad4 = (prs d (T.drop a')).isNone → (∀ t u, prs d (T.drop a') = some (t, u) → t' = t ∧ a4 = a' + u) →
            ∃ g cp w2, (Builtin.append_ #[22, 22] 22 #[.slice ao' us.length cap', .slice (some ⟨w4.heap.size, 0, none⟩) 1 1]).run Try.prog (w4.alloc (.cells #[.int .i64 t'.K, .int .i64 t'.N, .slice ao3 len3 cap3] 24)) = .ok (.slice (some ⟨g, 0, none⟩) (us.length + 1) cp) w2 ∧
              w4.cell? ⟨w1.heap.size, 2, none⟩ = some (.slice ao' us.length cap') ∧ w1.heap.size < w4.heap.size ∧ w2.cell? ⟨w1.heap.size, 2, none⟩ = some (.slice ao' us.length cap') ∧ w2.frozen? ⟨w1.heap.size, 2, none⟩ = false ∧
              ReRel L B w (w2.setCell ⟨w1.heap.size, 2, none⟩ (.slice (some ⟨g, 0, none⟩) (us.length + 1) cp)) p ao len cap a4 bad4 T w1.heap.size d 6 0 (.slice (some ⟨g, 0, none⟩) (us.length + 1) cp) (us ++ [t']) ∧ (us ++ [t']).length = j + 1 ∧ Hid (PS d 1 (j + 1) a a4 bad4 T (us ++ [t']))) := by
          intro w4 t' ao3 len3 cap3 a4 bad4 hg4 hR4 ho4 hb4 hr4
          obtain ⟨g, cp, w2, hrun, q1, q2, q3, q4, hN⟩ := re_next hI hp (by omega) (by have := HUL.out; omega) ⟨hg4.os, hg4.tape, hg4.output, hg4.size, hg4.block⟩ hR4 t'.K t'.N ao3 len3 cap3 t'.A ho4
          rw [tr_eta] at hN
          exact ⟨g, cp, w2, hrun, q1, q2, q3, q4, hN, by simp; exact HUL.out, ps_next HP.out hlt hb4 hr4⟩
        clear x0 x1 x2 x3 EXIT
        go_wp2_with (go_at_call 42; refine (l1Args_any _ _).mono ?_; rintro e w' ⟨rfl, rfl⟩; rw [HM.out])
        go_region_law (first | (refine step_run hrun (by rfl) _ _ (by rfl) (by rfl) (by rfl) (by rfl) ?_) | (go_simp; go_at_call 30; refine (IH p ao len cap a' L B T _ hRd).mono ?_; rintro e w4 ⟨t', ao3, len3, cap3, a4, bad4, rfl, hg4, hR4, ho4, hb4, hr4⟩; obtain ⟨g, cp, w2, hrun, a2, hz4, q2, q3, hN, hln, HPN⟩ := NX.out w4 t' ao3 len3 cap3 a4 bad4 hg4 hR4 ho4 hb4 hr4; have a3 : (w4.alloc (.cells #[.int .i64 t'.K, .int .i64 t'.N, .slice ao3 len3 cap3] 24)).cell? ⟨w1.heap.size, 2, none⟩ = some (.slice ao' us.length cap') := (World.cell?_of_block (Below.heap_alloc _ _ _ hz4)).trans a2))
        all_goals
          have HLN : Hid (_ = _) := hln
          clear y0 y1 y2 g0 g1 g2 a2 a3 hrun q2 q3 hln hb4
          go_wp2_with fail
          go_roundw
          case rel => exact ⟨j + 1, a4, bad4, _, _, by omega, by go_num, HLN.out, hN, HPN⟩
          case measure => simp [intOf]; omega
      · have HR : Hid (∃ used, a' = a + 1 + used ∧ prs (d + 1) (T.drop a) = some (⟨6, 0, us⟩, used + 1)) := by
          rcases HP.out with ⟨_, used, e, hh⟩ | ⟨hh, _⟩
          · exact ⟨used, e, by rw [HPC.out, half_done hh (by omega)]; rfl⟩
          · cases hh
        go_wp2_with (go_at_call 42; refine (l1Args_any _ _).mono ?_; rintro e w' ⟨rfl, rfl⟩; rw [HM.out])
        refine bodyPost_ret (v := .agg #[.int .i64 6, .int .i64 0, .slice ao' us.length cap']) (by simp [results, Try.results30, go_sem, x0, x1, x2]) rfl ?_
        obtain ⟨used, e, hpr⟩ := HR.out
        exact EXIT.out _ hpr rfl (fun t u h => by cases h; exact ⟨rfl, by omega⟩)
  have HN : Hid (prs (d + 1) (T.drop a) = none) := by show _ = _; rw [HD.out]; exact prs_no (by simp [tokTy, h1, h2, h3, h4, h5, h6, h7])
  have b1 : (T[a] == [105]) = false := by rw [beq_eq_false_iff_ne]; exact h1
  have b2 : (T[a] == [98]) = false := by rw [beq_eq_false_iff_ne]; exact h2
  have b3 : (T[a] == [118, 48]) = false := by rw [beq_eq_false_iff_ne]; exact h3
  have b4 : (T[a] == [118, 49]) = false := by rw [beq_eq_false_iff_ne]; exact h4
  have b5 : (T[a] == [102]) = false := by rw [beq_eq_false_iff_ne]; exact h5
  have b6 : (T[a] == [112]) = false := by rw [beq_eq_false_iff_ne]; exact h6
  have b7 : (T[a] == [108]) = false := by rw [beq_eq_false_iff_ne]; exact h7
  clear h1 h2 h3 h4 h5 h6 h7
  go_enter Try.func30, Try.ntmps30
  go_wp2_with fail
  refine (next_tok p ao len cap a L B T _ (h.below hX) hal haT).mono ?_
  rintro e w1 ⟨rfl, hg1, hR1⟩
  have hz1 := hg1.size
  simp only [World.size_alloc] at hz1
  obtain ⟨g0, g1, g2⟩ := box_cells hR1.row
  have g3 := row_free hR1.row
  have hpw1 : p < w1.heap.size := hR1.lt
  unfold tk
  go_wp2_with fail
  have hRb : ReRel L B w ((w1.setCell ⟨p, 2, none⟩ (.bool true)).alloc (.cells #[.int .i64 0, .int .i64 0, .slice none 0 0] 24)) p ao len cap (a + 1) true T w1.heap.size 0 0 0 (.slice none 0 0) [] := by
    have h1 := re_start (K := 0) (N := 0) (d := 0) hp (grown_set (o := 2) (v := .bool true) hg1) (hR1.setB true)
    have e1 : (w1.setCell ⟨p, 2, none⟩ (.bool true)).heap.size = w1.heap.size := by simp
    rw [e1] at h1
    exact h1
  generalize ((w1.setCell ⟨p, 2, none⟩ (.bool true)).alloc (.cells #[.int .i64 0, .int .i64 0, .slice none 0 0] 24)) = V at hRb ⊢
  clear g0 g1 g2 g3
  obtain ⟨g0, g1, g2⟩ := box_cells hRb.rdr.row
  obtain ⟨y0, y1, y2⟩ := box_cells hRb.out
  obtain ⟨x0, x1, x2⟩ := box_cells hRb.res
  have x3 := row_free hRb.res
  have HE := re_end (d' := (d + 1)) (a0 := a) (R := prs (d + 1) (T.drop a)) hRb hp (by omega) (by simp) (Or.inl rfl) (by rw [HN.out]; rfl) (fun t u h => by rw [HN.out] at h; cases h)
  clear hRb
  refine wp_loop_rounds 1 ?_; rw [rounds_succ]
  go_wp2_with (go_at_call 42; refine (l1Args_any _ _).mono ?_; rintro e w' ⟨rfl, rfl⟩)
  refine bodyPost_ret (v := .agg #[.int .i64 0, .int .i64 0, .slice none 0 0]) (by simp [results, Try.results30, go_sem, x0, x1, x2]) rfl ?_
  exact HE

theorem rd_any : ∀ d, d ≤ 8 → SaidRd d := by
  intro d
  induction d with
  | zero => intro _; exact rd_zero
  | succ d ih => intro h; exact rd_step d (by omega) (ih (by omega))

end Go.Proofs.Ythmmapahobkhnaa
