/-
  What the model's 'ParseTy' comes to.
-/
import Derived.Test.YtikfbgkjgbdoiaaRd3
namespace Go.Proofs.Ytikfbgkjgbdoiaa
open Go.RowKit
set_option linter.unusedVariables false
set_option linter.unusedSimpArgs false

theorem region_below {P : Program} {id : Nat} {Q : Exit → Act → World → Prop} {a : Act} {X : World} {l : List Oper} (hm : P.follows .mixedOrders = true) (hB : Region.lexB .any l.toArray = true)
    (h : wpQuiet P l.toArray (fun w' => Below X.heap.size X w') (fun a' => ∀ w', Below X.heap.size X w' → Q .normal a' w') l a) : (Code.region id l.toArray true).wp P Q a X :=
  wp_region_quiet (C := fun w' => Below X.heap.size X w') hm hB ((Below.refl _ _).drew) (by simpa using h)

set_option maxRecDepth 100000 in
set_option maxHeartbeats 4000000 in
theorem sParseTy_any (s : ByteArray) (w : World) (hl : s.size ≤ 1048576) :
    Calls Try.prog 23 #[.string s] w fun e w' => SubEnd w w' e 6 (parT (spl s.data.toList)) := by
  have hX : Below w.heap.size w (w.alloc (.cells #[.int .i64 0, .int .i64 0, .slice none 0 0] 32)) := (Below.refl _ _).alloc (Nat.le_refl _) _
  have htl : (spl s.data.toList).length ≤ 1048577 := by have := spl_len s.data.toList; have h2 : s.data.toList.length = s.size := Array.length_toList; omega
  obtain ⟨T, hT⟩ : ∃ T, T = spl s.data.toList := ⟨_, rfl⟩
  rw [← hT] at htl ⊢
  have HTT : Hid (spl s.data.toList = T) := hT.symm
  clear hT
  go_enter Try.func23, Try.ntmps23
  go_wp2_with fail
  refine (l1Split_any s _ hl).mono ?_
  rintro e w1 ⟨v, rfl, hb1, hT1⟩
  rw [HTT.out] at hT1
  obtain ⟨ao, cap, rfl, hS⟩ := toks_stx hT1
  have hz1 := hb1.size
  simp only [World.size_alloc] at hz1
  have hr1 : w1.heap[w.heap.size]? = some (.cells #[.int .i64 0, .int .i64 0, .slice none 0 0] 32 (0, 0)) := (hb1.block _ (by simp)).trans (heap_new rfl)
  have hbw1 : Below w.heap.size w w1 := hX.trans (hb1.mono (by simp))
  clear hT1
  go_wp2_with fail
  have hA : Below w1.heap.size w1 (w1.alloc (.cells #[.slice ao T.length cap, .int .i64 0, .bool false] 81)) := (Below.refl _ _).alloc (Nat.le_refl _) _
  have hS' := hS.below hA (Nat.le_refl _)
  have hR : Rdr _ w1.heap.size (w1.alloc (.cells #[.slice ao T.length cap, .int .i64 0, .bool false] 81)) w1.heap.size ao T.length cap 0 false T :=
    ⟨heap_new rfl, hS', Nat.zero_le _, htl, Nat.le_refl _⟩
  have hbA : Below w.heap.size w (w1.alloc (.cells #[.slice ao T.length cap, .int .i64 0, .bool false] 81)) := hbw1.trans (hA.mono (by omega))
  refine (rd_any 6 (by omega) w1.heap.size ao T.length cap 0 _ _ T _ hR).mono ?_
  rintro e w2 ⟨t', ao2, len2, cap2, a', bad', rfl, hg2, hR2, ho2, hbad, hres⟩
  have hz2 := hg2.size
  simp only [World.size_alloc] at hz2
  have hbw2 : Below w.heap.size w w2 := ⟨hg2.os.trans hbA.os, hg2.tape.trans hbA.tape, hg2.output.trans hbA.output, Nat.le_trans hbA.size hg2.size, fun k hk => (hg2.block k (by simp; omega) (by simp; omega)).trans (hbA.block k hk)⟩
  have hr2 := (hg2.block w.heap.size (by simp; omega) (by simp; omega)).trans ((hA.block _ (by omega)).trans hr1)
  have hA2 : Below w2.heap.size w2 (w2.alloc (.cells #[.int .i64 t'.K, .int .i64 t'.N, .slice ao2 len2 cap2] 32)) := (Below.refl _ _).alloc (Nat.le_refl _) _
  have hrX := (hA2.block _ (show w.heap.size < w2.heap.size by omega)).trans hr2
  have hRX := hR2.below hA2
  have htb : (w2.alloc (.cells #[.int .i64 t'.K, .int .i64 t'.N, .slice ao2 len2 cap2] 32)).heap[w2.heap.size]? = some (.cells #[.int .i64 t'.K, .int .i64 t'.N, .slice ao2 len2 cap2] 32 (0, 0)) := heap_new rfl
  have hoX := ho2.below hA2 (Nat.le_refl _)
  have hbX : Below w.heap.size w (w2.alloc (.cells #[.int .i64 t'.K, .int .i64 t'.N, .slice ao2 len2 cap2] 32)) := hbw2.trans (hA2.mono (by omega))
  have hzX : (w2.alloc (.cells #[.int .i64 t'.K, .int .i64 t'.N, .slice ao2 len2 cap2] 32)).heap.size = w2.heap.size + 1 := by simp
  rw [List.drop_zero] at hbad hres
  go_wp2_with fail
  generalize (w2.alloc (.cells #[.int .i64 t'.K, .int .i64 t'.N, .slice ao2 len2 cap2] 32)) = X at *
  obtain ⟨q0, q1, q2⟩ := box_cells hRX.row
  obtain ⟨f0, f1, f2⟩ := box_cells htb
  have hpX : w1.heap.size < X.heap.size := by omega
  have htX : w2.heap.size < X.heap.size := by omega
  have AFT : Hid (∀ w3, Below X.heap.size X w3 → w3.cell? ⟨w.heap.size, 0, none⟩ = some (.int .i64 0) ∧ w3.cell? ⟨w.heap.size, 1, none⟩ = some (.int .i64 0) ∧ w3.cell? ⟨w.heap.size, 2, none⟩ = some (.slice none 0 0) ∧ (∀ o, w3.frozen? ⟨w.heap.size, o, none⟩ = false) ∧ w3.cell? ⟨w2.heap.size, 0, none⟩ = some (.int .i64 t'.K) ∧ w3.cell? ⟨w2.heap.size, 1, none⟩ = some (.int .i64 t'.N) ∧ w3.cell? ⟨w2.heap.size, 2, none⟩ = some (.slice ao2 len2 cap2) ∧ Below w.heap.size w w3 ∧ OwR (w.heap.size + 1) w3.heap.size w3 6 ao2 len2 t'.A) := by
    intro w3 hb3
    have hr3 := (hb3.block w.heap.size (by omega)).trans hrX
    have ht3 := (hb3.block w2.heap.size (by omega)).trans htb
    have hz3 := hb3.size
    obtain ⟨a1, a2, a3⟩ := box_cells hr3
    obtain ⟨b1, b2, b3⟩ := box_cells ht3
    exact ⟨a1, a2, a3, row_free hr3, b1, b2, b3, hbX.trans (hb3.mono (by omega)), (hoX.below hb3 (by omega)).keep (fun q _ _ => rfl) (by simp; omega) (by omega)⟩
  clear hzX
  cases hp : prs 6 T with
  | none =>
    have HN : Hid (parT T = none) := by show _ = _; unfold parT; rw [hp]
    rw [hp] at hbad
    simp only [Option.isNone_none] at hbad
    subst hbad
    clear hp hres
    refine region_below (by kernel_rfl) (by kernel_rfl) ?_
    repeat (first
      | go_big_quiet_skip
      | (go_big_quiet_want; unfold Oper.quiet; apply Exists.intro; refine ⟨fun w' hC => ?_, ?_⟩; (have g0 := (bcell hC hpX 0).trans q0; have g1 := (bcell hC hpX 1).trans q1; have g2 := (bcell hC hpX 2).trans q2; have g3 := (bcell hC htX 0).trans f0; have g4 := (bcell hC htX 1).trans f1; have g5 := (bcell hC htX 2).trans f2; unfold Oper.quietAt; go_simp; first | exact rfl | exact ⟨rfl, rfl⟩ ); go_big_quiet_on; simp only [Act.put, List.setIfInBounds_toArray, List.set_cons_zero, List.set_cons_succ]))
    refine wpQuiet_nil ?_
    intro w3 hb3
    obtain ⟨r0, r1, r2, r3, f0, f1, f2, hbw3, ho3⟩ := AFT.out w3 hb3
    go_wp2_with fail
    refine bodyPost_ret (v := .tuple #[.agg #[.int .i64 0, .int .i64 0, .slice none 0 0], .bool false]) (by simp [results, Try.results23, go_sem, r0, r1, r2]) rfl ?_
    exact sub_none hbw3 (Nat.le_refl _) _ HN.out
  | some tu =>
    obtain ⟨t, u⟩ := tu
    obtain ⟨rfl, hu0⟩ := hres t u hp
    rw [hp] at hbad
    simp only [Option.isNone_some] at hbad
    subst hbad
    by_cases hu : a' = T.length
    case' neg =>
      have HN : Hid (parT T = none) := by show _ = _; unfold parT; rw [hp]; exact if_neg (fun h => hu (by have := h.1; omega))
      have hne : ((a' : Int) != (T.length : Int)) = true := by rw [bne_iff_ne]; omega
      clear hp hu hres hu0
      refine region_below (by kernel_rfl) (by kernel_rfl) ?_
      repeat (first
        | go_big_quiet_skip
        | (go_big_quiet_want; unfold Oper.quiet; apply Exists.intro; refine ⟨fun w' hC => ?_, ?_⟩; (have g0 := (bcell hC hpX 0).trans q0; have g1 := (bcell hC hpX 1).trans q1; have g2 := (bcell hC hpX 2).trans q2; have g3 := (bcell hC htX 0).trans f0; have g4 := (bcell hC htX 1).trans f1; have g5 := (bcell hC htX 2).trans f2; unfold Oper.quietAt; go_simp; first | exact rfl | exact ⟨rfl, rfl⟩ ); go_big_quiet_on; simp only [Act.put, List.setIfInBounds_toArray, List.set_cons_zero, List.set_cons_succ]))
      refine wpQuiet_nil ?_
      intro w3 hb3
      obtain ⟨r0, r1, r2, r3, f0, f1, f2, hbw3, ho3⟩ := AFT.out w3 hb3
      go_wp2_with fail
      refine bodyPost_ret (v := .tuple #[.agg #[.int .i64 0, .int .i64 0, .slice none 0 0], .bool false]) (by simp [results, Try.results23, go_sem, r0, r1, r2]) rfl ?_
      exact sub_none hbw3 (Nat.le_refl _) _ HN.out
    have hne : ((a' : Int) != (T.length : Int)) = false := by simp [hu]
    have HPT : Hid (parT T = if okT t' = true then some t' else none) := by
      show _ = _
      unfold parT
      rw [hp]
      have hu1 : u = T.length := by omega
      simp only [hu1, true_and]
    clear hp hu hres hu0
    cases hok : okT t'
    · have HN : Hid (parT T = none) := by show _ = _; rw [HPT.out, hok]; rfl
      have TK : Hid (∀ w', Below X.heap.size X w' → Calls Try.prog 65 #[.agg #[.int .i64 t'.K, .int .i64 t'.N, .slice ao2 len2 cap2]] w' fun e w'' => e = .returned (.bool false) ∧ Below X.heap.size X w'') := fun w' hC => (sTyOk_any 6 _ _ t'.K t'.N ao2 len2 cap2 t'.A w' (by have := hC.size; omega) (hoX.hs.below hC (by omega))).mono fun e w'' h => ⟨by rw [h.1, tr_eta, hok], hC.trans (h.2.mono hC.size)⟩
      clear hok
      refine region_below (by kernel_rfl) (by kernel_rfl) ?_
      repeat (first
        | go_big_quiet_skip
        | (go_big_quiet_want; unfold Oper.quiet; apply Exists.intro; refine ⟨fun w' hC => ?_, ?_⟩; (have g0 := (bcell hC hpX 0).trans q0; have g1 := (bcell hC hpX 1).trans q1; have g2 := (bcell hC hpX 2).trans q2; have g3 := (bcell hC htX 0).trans f0; have g4 := (bcell hC htX 1).trans f1; have g5 := (bcell hC htX 2).trans f2; unfold Oper.quietAt; go_simp; first | exact rfl | exact ⟨rfl, rfl⟩ | (go_at_call 65; exact TK.out _ hC)); go_big_quiet_on; simp only [Act.put, List.setIfInBounds_toArray, List.set_cons_zero, List.set_cons_succ]))
      refine wpQuiet_nil ?_
      intro w3 hb3
      obtain ⟨r0, r1, r2, r3, f0, f1, f2, hbw3, ho3⟩ := AFT.out w3 hb3
      go_wp2_with fail
      refine bodyPost_ret (v := .tuple #[.agg #[.int .i64 0, .int .i64 0, .slice none 0 0], .bool false]) (by simp [results, Try.results23, go_sem, r0, r1, r2]) rfl ?_
      exact sub_none hbw3 (Nat.le_refl _) _ HN.out
    · have HN : Hid (parT T = some t') := by show _ = _; rw [HPT.out, hok]; rfl
      have TK : Hid (∀ w', Below X.heap.size X w' → Calls Try.prog 65 #[.agg #[.int .i64 t'.K, .int .i64 t'.N, .slice ao2 len2 cap2]] w' fun e w'' => e = .returned (.bool true) ∧ Below X.heap.size X w'') := fun w' hC => (sTyOk_any 6 _ _ t'.K t'.N ao2 len2 cap2 t'.A w' (by have := hC.size; omega) (hoX.hs.below hC (by omega))).mono fun e w'' h => ⟨by rw [h.1, tr_eta, hok], hC.trans (h.2.mono hC.size)⟩
      clear hok
      refine region_below (by kernel_rfl) (by kernel_rfl) ?_
      repeat (first
        | go_big_quiet_skip
        | (go_big_quiet_want; unfold Oper.quiet; apply Exists.intro; refine ⟨fun w' hC => ?_, ?_⟩; (have g0 := (bcell hC hpX 0).trans q0; have g1 := (bcell hC hpX 1).trans q1; have g2 := (bcell hC hpX 2).trans q2; have g3 := (bcell hC htX 0).trans f0; have g4 := (bcell hC htX 1).trans f1; have g5 := (bcell hC htX 2).trans f2; unfold Oper.quietAt; go_simp; first | exact rfl | exact ⟨rfl, rfl⟩ | (go_at_call 65; exact TK.out _ hC)); go_big_quiet_on; simp only [Act.put, List.setIfInBounds_toArray, List.set_cons_zero, List.set_cons_succ]))
      refine wpQuiet_nil ?_
      intro w3 hb3
      obtain ⟨r0, r1, r2, r3, f0, f1, f2, hbw3, ho3⟩ := AFT.out w3 hb3
      go_wp2_with fail
      refine bodyPost_ret (v := .tuple #[.agg #[.int .i64 t'.K, .int .i64 t'.N, .slice ao2 len2 cap2], .bool true]) (by simp [results, Try.results23, go_sem, r0, r1, r2]) rfl ?_
      rw [HN.out]
      refine ⟨ao2, len2, cap2, rfl, set3_below hbw3 (Nat.le_refl _), ?_⟩
      exact ho3.keep (fun q hq _ => set3_other _ (by omega)) (by omega) (by simp)

end Go.Proofs.Ytikfbgkjgbdoiaa
