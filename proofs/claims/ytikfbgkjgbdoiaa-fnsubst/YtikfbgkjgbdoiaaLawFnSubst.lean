/-
  The law FnSubst's walk: whatever bytes lie in memory, true.
-/
import Derived.Test.YtikfbgkjgbdoiaaDs
import Derived.Test.YtikfbgkjgbdoiaaSuL
import Derived.Test.YtikfbgkjgbdoiaaSs
import Derived.Test.YtikfbgkjgbdoiaaSt
namespace Go.Proofs.Ytikfbgkjgbdoiaa
open Go.RowKit
set_option linter.unusedVariables false
set_option linter.unusedSimpArgs false

set_option maxRecDepth 100000 in
set_option maxHeartbeats 400000 in
theorem big_any (cao : Option Addr) (clen ccap : Nat) (w : World) (hl : clen ≤ 9223372036854775807) :
    Calls Try.prog 28 #[.slice cao clen ccap] w fun e w' => e = .returned (.bool (decide (1048576 < (clen : Int)))) ∧ w' = w := by
  go_enter Try.func28, Try.ntmps28
  go_wp2_with fail
  go_ret
  exact ⟨ret_bool rfl, rfl⟩

theorem self_hs {w : World} {sb : Nat} {t : TypeId} {fr : Nat × Nat} (h : w.heap[sb]? = some (.cells #[.int .i64 3, .int .i64 0, .slice none 0 0, .int .i64 3, .int .i64 1, .slice none 0 0] t fr)) : Hs sb (sb + 1) w 1 (some ⟨sb, 0, none⟩) 2 selfT := by
  refine ⟨rfl, by omega, fun i hi => ⟨sb, 0, rfl, Nat.le_refl _, by omega, ?_⟩⟩
  have hi2 : i = 0 ∨ i = 1 := by have : i < 2 := hi; omega
  rcases hi2 with rfl | rfl
  · exact ⟨none, 0, 0, row_cell h 0, row_cell h 1, row_cell h 2, rfl, rfl⟩
  · exact ⟨none, 0, 0, row_cell h 3, row_cell h 4, row_cell h 5, rfl, rfl⟩

theorem cntS_few {us : List Tr} (h : us.length ≤ 3) (hc : ∀ u ∈ us, cntS u.A ≤ 261) : cntS us ≤ 1048576 := by
  have : ∀ l : List Tr, (∀ u ∈ l, cntS u.A ≤ 261) → cntS l ≤ l.length * 262 := by
    intro l
    induction l with
    | nil => intro _; simp [cntS]
    | cons u l ih =>
      intro h
      have h1 := ih (fun v hv => h v (by simp [hv]))
      have h2 := h u (by simp)
      have h3 := cnt_eq u
      simp only [cntS, List.map_cons, List.sum_cons, List.length_cons] at *
      omega
  have := this us hc
  omega

theorem cnt_self : cntS selfT ≤ 1048576 := by
  have h : cntS selfT = 2 := by simp [selfT, cntS, cnt_eq]
  omega

/-- What the loop has seen of the types: none has more variables than M; if g, all are ground. -/
def Seen (us : List Tr) (j M : Nat) (g : Bool) : Prop := (∀ i (_ : i < j) (h : i < us.length), varsT us[i] ≤ M) ∧ (g = true → ∀ i (_ : i < j) (h : i < us.length), groundT us[i] = true)
theorem seen_next {us : List Tr} {j M M' : Nat} {g g' : Bool} (h : Seen us j M g) (hj : j < us.length) (h1 : M ≤ M') (h2 : varsT us[j] ≤ M') (h3 : g' = true → g = true ∧ groundT us[j] = true) : Seen us (j + 1) M' g' := by
  refine ⟨fun i hi hi' => ?_, fun hg i hi hi' => ?_⟩
  · by_cases e : i = j
    · subst e; exact h2
    · exact Nat.le_trans (h.1 i (by omega) hi') h1
  · by_cases e : i = j
    · subst e; exact (h3 hg).2
    · exact h.2 (h3 hg).1 i (by omega) hi'
theorem seen_all {us : List Tr} {j M : Nat} {g : Bool} (h : Seen us j M g) (hj : us.length ≤ j) {t x : Tr} (hs : substT t us = some x) : varsT x ≤ M ∧ (g = true → groundT x = true) := by
  obtain ⟨h1, h2, h3⟩ := subst_some hs
  refine ⟨h3 M fun s hs' => ?_, fun hg => ?_⟩
  · obtain ⟨i, hi, rfl⟩ := List.getElem_of_mem hs'
    exact h.1 i (by omega) hi
  · have h0 : varsT x ≤ 0 := h3 0 fun s hs' => by
      obtain ⟨i, hi, rfl⟩ := List.getElem_of_mem hs'
      have := h.2 hg i (by omega) hi
      unfold groundT at this
      simp only [Bool.and_eq_true, decide_eq_true_eq] at this
      omega
    unfold groundT
    simp only [Bool.and_eq_true, decide_eq_true_eq]
    exact ⟨h2, by omega⟩

set_option maxRecDepth 100000 in
set_option maxHeartbeats 8000000 in
theorem law_fnSubst (cao : Option Addr) (clen ccap : Nat) (w : World) (hb : Bts w cao clen) (hl : clen ≤ 9223372036854775807) :
    Calls Try.prog 7 #[.slice cao clen ccap] w fun e w' => e = .returned (.bool true) ∧ Below w.heap.size w w' := by
  by_cases hbig : 1048576 < (clen : Int)
  · have HBG : Hid (decide (1048576 < (clen : Int)) = true) := by show _ = _; simpa using hbig
    clear hbig
    go_enter Try.func7, Try.ntmps7
    go_wp2_with fail
    refine (big_any cao clen ccap _ hl).mono ?_
    rintro e w1 ⟨rfl, rfl⟩
    rw [HBG.out]
    go_wp2_with fail
    go_ret
    exact ⟨rfl, Below.refl _ _⟩
  have HBG : Hid (decide (1048576 < (clen : Int)) = false) := by show _ = _; simpa using hbig
  have hcl : clen ≤ 1048576 := by omega
  clear hbig
  go_enter Try.func7, Try.ntmps7
  go_wp2_with fail
  refine (big_any cao clen ccap _ hl).mono ?_
  rintro e w0 ⟨rfl, rfl⟩
  rw [HBG.out]
  go_wp2_with fail
  refine (drawSubst_any cao clen ccap _ hb hcl).mono ?_
  rintro e w1 ⟨K, N, ao, len, cap, ts, sao, slen, scap, us, rfl, hb1, hs1, hu1, hct, hul, hcu⟩
  have hcus := cntS_few hul hcu
  have hsl := hu1.len.2
  have HSL : Hid (slen = us.length) := hu1.len.1
  have hA1 : Below w1.heap.size w1 (w1.alloc (.cells #[.int .i64 K, .int .i64 N, .slice ao len cap] 32)) := (Below.refl _ _).alloc (Nat.le_refl _) _
  have hb01 := hb1.size
  have hct2 : cntS ts ≤ 1048576 := by omega
  clear hb hcu hul hct
  cases hR : substT ⟨K, N, ts⟩ us with
  | none =>
    have HRN : Hid (substT ⟨K, N, ts⟩ us = none) := hR
    clear hR
    go_wp2_with fail
    refine (subst_any 11 11 _ _ _ _ K N ao len cap ts sao slen scap us _ (by simp) (hs1.below hA1 (Nat.le_refl _)) (by simp) (hu1.below hA1 (Nat.le_refl _)) hcus).mono ?_
    rintro e w2 ⟨ao2, len2, cap2, rfl, hb2, ho2⟩
    rw [HRN.out]
    simp only [Option.getD_none, Option.isSome_none, zeroT]
    have hz2 := hb2.size
    simp only [World.size_alloc] at hz2
    have hbw2 : Below w1.heap.size w1 w2 := hA1.trans (hb2.mono (by simp))
    have t2 : w2.heap[w1.heap.size]? = some (.cells #[.int .i64 K, .int .i64 N, .slice ao len cap] 32 (0, 0)) := (hb2.block _ (by simp)).trans (heap_new rfl)
    obtain ⟨f0, f1, f2⟩ := box_cells t2
    have hlt : w1.heap.size < w2.heap.size := by omega
    have hA2 : Below w2.heap.size w2 (w2.alloc (.cells #[.int .i64 0, .int .i64 0, .slice ao2 len2 cap2] 32)) := (Below.refl _ _).alloc (Nat.le_refl _) _
    have hbw3 := hbw2.trans (hA2.mono (by omega))
    go_wp2_with fail
    refine (sSubst_any 11 11 _ _ _ _ K N ao len cap ts sao slen scap us _ (by simp; omega) (hs1.below hbw3 (Nat.le_refl _)) (by simp; omega) (hu1.below hbw3 (Nat.le_refl _)) hcus).mono ?_
    rintro e w3 ⟨ao3, len3, cap3, rfl, hb3, ho3⟩
    rw [HRN.out]
    simp only [Option.getD_none, Option.isSome_none, zeroT]
    have x3 : w3.heap[w2.heap.size]? = some (.cells #[.int .i64 0, .int .i64 0, .slice ao2 len2 cap2] 32 (0, 0)) := (hb3.block _ (by simp)).trans (heap_new rfl)
    obtain ⟨g0, g1, g2⟩ := box_cells x3
    have hlt3 : w2.heap.size < w3.heap.size := (Array.getElem?_eq_some_iff.1 x3).1
    have hend : Below w0.heap.size w0 (w3.alloc (.cells #[.int .i64 0, .int .i64 0, .slice ao3 len3 cap3] 32)) := (hb1.trans ((hbw3.trans (hb3.mono (by simp; omega))).mono hb01)).alloc (by have := hb3.size; simp at this; omega) _
    clear f0 f1 f2
    go_wp2_with fail
    go_ret
    exact ⟨rfl, hend⟩
  | some x =>
    have HRN : Hid (substT ⟨K, N, ts⟩ us = some x) := hR
    have HOK : Hid (okT ⟨K, N, ts⟩ = true ∧ okT x = true) := ⟨(subst_some hR).1, (subst_some hR).2.1⟩
    clear hR
    go_wp2_with fail
    refine (subst_any 11 11 _ _ _ _ K N ao len cap ts sao slen scap us _ (by simp) (hs1.below hA1 (Nat.le_refl _)) (by simp) (hu1.below hA1 (Nat.le_refl _)) hcus).mono ?_
    rintro e w2 ⟨ao2, len2, cap2, rfl, hb2, ho2⟩
    rw [HRN.out] at ho2 ⊢
    simp only [Option.getD_some, Option.isSome_some] at ho2 ⊢
    have hz2 := hb2.size
    simp only [World.size_alloc] at hz2
    have hbw2 : Below w1.heap.size w1 w2 := hA1.trans (hb2.mono (by simp))
    have t2 : w2.heap[w1.heap.size]? = some (.cells #[.int .i64 K, .int .i64 N, .slice ao len cap] 32 (0, 0)) := (hb2.block _ (by simp)).trans (heap_new rfl)
    obtain ⟨f0, f1, f2⟩ := box_cells t2
    have hlt : w1.heap.size < w2.heap.size := by omega
    have hA2 : Below w2.heap.size w2 (w2.alloc (.cells #[.int .i64 x.K, .int .i64 x.N, .slice ao2 len2 cap2] 32)) := (Below.refl _ _).alloc (Nat.le_refl _) _
    have hbw3 := hbw2.trans (hA2.mono (by omega))
    have hx2 := ho2.hs
    go_wp2_with fail
    refine (sSubst_any 11 11 _ _ _ _ K N ao len cap ts sao slen scap us _ (by simp; omega) (hs1.below hbw3 (Nat.le_refl _)) (by simp; omega) (hu1.below hbw3 (Nat.le_refl _)) hcus).mono ?_
    rintro e w3 ⟨ao3, len3, cap3, rfl, hb3, ho3⟩
    rw [HRN.out]
    simp only [Option.getD_some, Option.isSome_some]
    have hz3 := hb3.size
    simp only [World.size_alloc] at hz3
    have x3 : w3.heap[w2.heap.size]? = some (.cells #[.int .i64 x.K, .int .i64 x.N, .slice ao2 len2 cap2] 32 (0, 0)) := (hb3.block _ (by simp)).trans (heap_new rfl)
    have t3 := (hb3.block w1.heap.size (by simp; omega)).trans ((hA2.block _ (by omega)).trans t2)
    have hbw4 : Below w1.heap.size w1 w3 := hbw3.trans (hb3.mono (by simp; omega))
    have hx3 := (hx2.below hA2 (Nat.le_refl _)).below hb3 (by simp)
    have hA3 : Below w3.heap.size w3 (w3.alloc (.cells #[.int .i64 x.K, .int .i64 x.N, .slice ao3 len3 cap3] 32)) := (Below.refl _ _).alloc (Nat.le_refl _) _
    clear f0 f1 f2 ho2 ho3 hb2 hb3 hx2 hbw2 hbw3 hA2 t2
    obtain ⟨V3, hV3⟩ : ∃ V, V = w3.alloc (.cells #[.int .i64 x.K, .int .i64 x.N, .slice ao3 len3 cap3] 32) := ⟨_, rfl⟩
    have HV3 : Hid (V3 = _) := hV3
    rw [← hV3] at hA3
    have hzV := hA3.size
    have xV := (hA3.block _ (by omega)).trans x3
    have tV := (hA3.block _ (by omega)).trans t3
    have hbwV : Below w1.heap.size w1 V3 := hbw4.trans (hA3.mono (by omega))
    have hxV := hx3.below hA3 (by omega)
    have hsV := hs1.below hbwV (Nat.le_refl _)
    have huV := hu1.below hbwV (Nat.le_refl _)
    have hbV : Below w0.heap.size w0 V3 := hb1.trans (hbwV.mono hb01)
    clear hV3 hA3 x3 t3 hx3 hbw4
    go_wp2_with fail
    rw [← HV3.out]
    go_loopw [9, 10, 11] (fun a b c wr => ∃ (M : Nat) (g : Bool) (j : Nat), j ≤ slen ∧ a = .int .i64 M ∧ b = .bool g ∧ c = .int .i64 j ∧ Hid (Seen us j M g) ∧ Below V3.heap.size V3 wr) (fun _ _ c _ => slen - (intOf c).toNat)
    case atStart => exact ⟨0, true, 0, by omega, rfl, rfl, rfl, ⟨fun i hi => by omega, fun _ i hi => by omega⟩, Below.refl _ _⟩
    case round =>
      obtain ⟨M, g, j, hj, rfl, rfl, rfl, HSE, hbr⟩ := hrel
      have hzr := hbr.size
      by_cases hlt2 : j < slen
      · have hjl : j < us.length := by have := HSL.out; omega
        obtain ⟨b, o, hsa, hLb, hbB, ao4, len4, cap4, c0, c1, c2, hs4⟩ := huV.2.2 j hjl
        subst hsa
        have CELLS : Hid (∀ W : World, Below V3.heap.size V3 W → W.cell? ⟨b, o + j * 3, none⟩ = some (.int .i64 us[j].K) ∧ W.cell? ⟨b, o + j * 3 + 1, none⟩ = some (.int .i64 us[j].N) ∧ W.cell? ⟨b, o + j * 3 + 2, none⟩ = some (.slice ao4 len4 cap4)) := fun W hW => ⟨(bcell hW (by omega) _).trans c0, (bcell hW (by omega) _).trans c1, (bcell hW (by omega) _).trans c2⟩
        obtain ⟨V, hV⟩ : ∃ V, V = varsT us[j] := ⟨_, rfl⟩
        have HV : Hid (V = varsT us[j]) := hV
        clear hV c0 c1 c2
        obtain ⟨e0, e1, e2⟩ := CELLS.out wr hbr
        cases g
        · skip
          go_wp2_with fail
          refine (varsOf_any 10 _ _ us[j].K us[j].N ao4 len4 cap4 us[j].A wr (by omega) (hs4.below hbr (by omega))).mono ?_
          rintro e w4 ⟨rfl, hb4⟩
          rw [tr_eta, ← HV.out]
          have hz4 := hb4.size
          have hb4V : Below V3.heap.size V3 w4 := hbr.trans (hb4.mono (by omega))
          clear e0 e1 e2
          by_cases hgt : M < V
          · have hgtI : (M : Int) < (V : Int) := by omega
            obtain ⟨e0, e1, e2⟩ : w4.cell? ⟨b, o + j * 3, none⟩ = some (.int .i64 us[j].K) ∧ w4.cell? ⟨b, o + j * 3 + 1, none⟩ = some (.int .i64 us[j].N) ∧ w4.cell? ⟨b, o + j * 3 + 2, none⟩ = some (.slice ao4 len4 cap4) := CELLS.out w4 hb4V
            go_wp2_with fail
            refine (varsOf_any 10 _ _ us[j].K us[j].N ao4 len4 cap4 us[j].A w4 (by omega) (hs4.below hb4V (by omega))).mono ?_
            rintro e w5 ⟨rfl, hb5⟩
            rw [tr_eta, ← HV.out]
            have hz5 := hb5.size
            have hb5V : Below V3.heap.size V3 w5 := hb4V.trans (hb5.mono (by omega))
            clear e0 e1 e2
            obtain ⟨e0, e1, e2⟩ := CELLS.out w5 hb5V
            have HSN : Hid (Seen us (j + 1) V false) := seen_next HSE.out hjl (by omega) (by have := HV.out; omega) (fun hg => nomatch hg)
            go_wp2_with fail
            go_roundw
            case rel => exact ⟨V, false, j + 1, by omega, rfl, rfl, by go_num, HSN, hb5V⟩
            case measure => simp [intOf]; omega
          · have hgtI : ¬ (M : Int) < (V : Int) := by omega
            obtain ⟨e0, e1, e2⟩ : w4.cell? ⟨b, o + j * 3, none⟩ = some (.int .i64 us[j].K) ∧ w4.cell? ⟨b, o + j * 3 + 1, none⟩ = some (.int .i64 us[j].N) ∧ w4.cell? ⟨b, o + j * 3 + 2, none⟩ = some (.slice ao4 len4 cap4) := CELLS.out w4 hb4V
            have HSN : Hid (Seen us (j + 1) M false) := seen_next HSE.out hjl (by omega) (by have := HV.out; omega) (fun hg => nomatch hg)
            go_wp2_with fail
            go_roundw
            case rel => exact ⟨M, false, j + 1, by omega, rfl, rfl, by go_num, HSN, hb4V⟩
            case measure => simp [intOf]; omega
        · skip
          go_wp2_with fail
          refine (varsOf_any 10 _ _ us[j].K us[j].N ao4 len4 cap4 us[j].A wr (by omega) (hs4.below hbr (by omega))).mono ?_
          rintro e w4 ⟨rfl, hb4⟩
          rw [tr_eta, ← HV.out]
          have hz4 := hb4.size
          have hb4V : Below V3.heap.size V3 w4 := hbr.trans (hb4.mono (by omega))
          clear e0 e1 e2
          by_cases hgt : M < V
          · have hgtI : (M : Int) < (V : Int) := by omega
            obtain ⟨e0, e1, e2⟩ : w4.cell? ⟨b, o + j * 3, none⟩ = some (.int .i64 us[j].K) ∧ w4.cell? ⟨b, o + j * 3 + 1, none⟩ = some (.int .i64 us[j].N) ∧ w4.cell? ⟨b, o + j * 3 + 2, none⟩ = some (.slice ao4 len4 cap4) := CELLS.out w4 hb4V
            go_wp2_with fail
            refine (varsOf_any 10 _ _ us[j].K us[j].N ao4 len4 cap4 us[j].A w4 (by omega) (hs4.below hb4V (by omega))).mono ?_
            rintro e w5 ⟨rfl, hb5⟩
            rw [tr_eta, ← HV.out]
            have hz5 := hb5.size
            have hb5V : Below V3.heap.size V3 w5 := hb4V.trans (hb5.mono (by omega))
            clear e0 e1 e2
            obtain ⟨e0, e1, e2⟩ := CELLS.out w5 hb5V
            go_wp2_with fail
            refine (ground_any 10 _ _ us[j].K us[j].N ao4 len4 cap4 us[j].A w5 (by omega) (hs4.below hb5V (by omega))).mono ?_
            rintro e w6 ⟨rfl, hb6⟩
            rw [tr_eta]
            have hb6V : Below V3.heap.size V3 w6 := hb5V.trans (hb6.mono (by omega))
            have HSN : Hid (Seen us (j + 1) V (groundT us[j])) := seen_next HSE.out hjl (by omega) (by have := HV.out; omega) (fun hg => ⟨rfl, hg⟩)
            generalize groundT us[j] = G at HSN ⊢
            clear e0 e1 e2
            go_wp2_with fail
            go_roundw
            case rel => exact ⟨V, G, j + 1, by omega, rfl, rfl, by go_num, HSN, hb6V⟩
            case measure => simp [intOf]; omega
          · have hgtI : ¬ (M : Int) < (V : Int) := by omega
            obtain ⟨e0, e1, e2⟩ : w4.cell? ⟨b, o + j * 3, none⟩ = some (.int .i64 us[j].K) ∧ w4.cell? ⟨b, o + j * 3 + 1, none⟩ = some (.int .i64 us[j].N) ∧ w4.cell? ⟨b, o + j * 3 + 2, none⟩ = some (.slice ao4 len4 cap4) := CELLS.out w4 hb4V
            go_wp2_with fail
            refine (ground_any 10 _ _ us[j].K us[j].N ao4 len4 cap4 us[j].A w4 (by omega) (hs4.below hb4V (by omega))).mono ?_
            rintro e w6 ⟨rfl, hb6⟩
            rw [tr_eta]
            have hb6V : Below V3.heap.size V3 w6 := hb4V.trans (hb6.mono (by omega))
            have HSN : Hid (Seen us (j + 1) M (groundT us[j])) := seen_next HSE.out hjl (by omega) (by have := HV.out; omega) (fun hg => ⟨rfl, hg⟩)
            generalize groundT us[j] = G at HSN ⊢
            clear e0 e1 e2
            go_wp2_with fail
            go_roundw
            case rel => exact ⟨M, G, j + 1, by omega, rfl, rfl, by go_num, HSN, hb6V⟩
            case measure => simp [intOf]; omega
      · have HALL : Hid (varsT x ≤ M ∧ (g = true → groundT x = true)) := seen_all HSE.out (by have := HSL.out; omega) HRN.out
        have tr := (hbr.block _ (by omega)).trans tV
        have xr := (hbr.block _ (by omega)).trans xV
        obtain ⟨f0, f1, f2⟩ := box_cells tr
        have hl1 : w1.heap.size < wr.heap.size := by omega
        have hS : Below wr.heap.size wr (wr.alloc (.cells #[.int .i64 3, .int .i64 0, .slice none 0 0, .int .i64 3, .int .i64 1, .slice none 0 0] 32)) := (Below.refl _ _).alloc (Nat.le_refl _) _
        have hbS : Below V3.heap.size V3 (wr.alloc (.cells #[.int .i64 3, .int .i64 0, .slice none 0 0, .int .i64 3, .int .i64 1, .slice none 0 0] 32)) := hbr.trans (hS.mono hzr)
        have hself : Hs wr.heap.size (wr.heap.size + 1) (wr.alloc (.cells #[.int .i64 3, .int .i64 0, .slice none 0 0, .int .i64 3, .int .i64 1, .slice none 0 0] 32)) 1 (some ⟨wr.heap.size, 0, none⟩) 2 selfT := self_hs (heap_new rfl)
        have HSS : Hid (substT ⟨K, N, ts⟩ selfT = some ⟨K, N, ts⟩) := subst_self HOK.out.1
        go_wp2_with fail
        refine (subst_any 11 1 _ _ _ _ K N ao len cap ts (some ⟨wr.heap.size, 0, none⟩) 2 2 selfT _ (by simp; omega) (hsV.below hbS (by omega)) (by simp) hself cnt_self).mono ?_
        rintro e w7 ⟨ao7, len7, cap7, rfl, hb7, ho7⟩
        rw [HSS.out] at ho7 ⊢
        simp only [Option.getD_some, Option.isSome_some] at ho7 ⊢
        have hz7 := hb7.size
        simp only [World.size_alloc] at hz7 ho7
        have hb7V : Below V3.heap.size V3 w7 := hbS.trans (hb7.mono (by simp; omega))
        have x7 := (hb7V.block _ (by omega)).trans xV
        have t7 := (hb7V.block _ (by omega)).trans tV
        have hA7 : Below w7.heap.size w7 (w7.alloc (.cells #[.int .i64 K, .int .i64 N, .slice ao7 len7 cap7] 32)) := (Below.refl _ _).alloc (Nat.le_refl _) _
        have hb8V : Below V3.heap.size V3 (w7.alloc (.cells #[.int .i64 K, .int .i64 N, .slice ao7 len7 cap7] 32)) := hb7V.trans (hA7.mono (by omega))
        clear f0 f1 f2
        obtain ⟨f0, f1, f2⟩ := box_cells x7
        have hl2 : w2.heap.size < w7.heap.size := by omega
        have hxY := hxV.below hb8V (by omega)
        go_wp2_with fail
        refine (tyOk_any 17 _ _ x.K x.N ao2 len2 cap2 x.A _ (by simp; omega) hxY).mono ?_
        rintro e w8 ⟨rfl, hb8⟩
        rw [tr_eta, HOK.out.2]
        have hz8 := hb8.size
        simp only [World.size_alloc] at hz8
        have hb9V : Below V3.heap.size V3 w8 := hb8V.trans (hb8.mono (by simp; omega))
        have y8 : w8.heap[w7.heap.size]? = some (.cells #[.int .i64 K, .int .i64 N, .slice ao7 len7 cap7] 32 (0, 0)) := (hb8.block _ (by simp)).trans (heap_new rfl)
        have x8 := (hb9V.block _ (by omega)).trans xV
        clear f0 f1 f2
        obtain ⟨f0, f1, f2⟩ := box_cells x8
        go_wp2_with fail
        refine (varsOf_any 17 _ _ x.K x.N ao2 len2 cap2 x.A _ (by omega) (hxV.below hb9V (by omega))).mono ?_
        rintro e w9 ⟨rfl, hb9⟩
        rw [tr_eta]
        have hVI : (varsT x : Int) ≤ (M : Int) := by have := HALL.out.1; omega
        generalize varsT x = VX at hVI ⊢
        have hz9 := hb9.size
        have hb10V : Below V3.heap.size V3 w9 := hb9V.trans (hb9.mono (by omega))
        have y9 := (hb9.block _ (by omega)).trans y8
        have x9 := (hb10V.block _ (by omega)).trans xV
        have t9 := (hb10V.block _ (by omega)).trans tV
        have ho9 : OwR (wr.heap.size + 1) w7.heap.size w9 17 ao7 len7 ts := ((ho7.below hA7 (Nat.le_refl _)).below hb8 (by simp) |>.below hb9 (by omega)).deeper (by omega)
        clear f0 f1 f2
        cases g
        · obtain ⟨f0, f1, f2⟩ := box_cells y9
          obtain ⟨g0, g1, g2⟩ := box_cells t9
          go_wp2_with fail
          refine (sameTy_any 17 _ _ _ _ K N ao7 len7 cap7 ts K N ao len cap ts true _ (by omega) (by omega) ho9 ((hsV.below hb10V (by omega)).deeper (by omega)) (Iff.intro (fun _ => rfl) (fun _ => rfl)) hct2).mono ?_
          rintro e w10 ⟨rfl, hb10⟩
          go_wp2_with fail
          go_ret
          exact ⟨rfl, hbV.trans ((hb10V.trans (hb10.mono (by omega))).mono (by have := hbV.size; omega))⟩
        · obtain ⟨f0, f1, f2⟩ := box_cells x9
          have HG : Hid (groundT x = true) := HALL.out.2 rfl
          go_wp2_with fail
          refine (ground_any 17 _ _ x.K x.N ao2 len2 cap2 x.A _ (by omega) (hxV.below hb10V (by omega))).mono ?_
          rintro e wa ⟨rfl, hba⟩
          rw [tr_eta, HG.out]
          have hza := hba.size
          have hbaV : Below V3.heap.size V3 wa := hb10V.trans (hba.mono (by omega))
          have ya := (hba.block _ (by omega)).trans y9
          have ta := (hbaV.block _ (by omega)).trans tV
          clear f0 f1 f2
          obtain ⟨f0, f1, f2⟩ := box_cells ya
          obtain ⟨g0, g1, g2⟩ := box_cells ta
          go_wp2_with fail
          refine (sameTy_any 17 _ _ _ _ K N ao7 len7 cap7 ts K N ao len cap ts true _ (by omega) (by omega) (ho9.below hba (by omega)) ((hsV.below hbaV (by omega)).deeper (by omega)) (Iff.intro (fun _ => rfl) (fun _ => rfl)) hct2).mono ?_
          rintro e w10 ⟨rfl, hb10⟩
          go_wp2_with fail
          go_ret
          exact ⟨rfl, hbV.trans ((hbaV.trans (hb10.mono (by omega))).mono (by have := hbV.size; omega))⟩

end Go.Proofs.Ytikfbgkjgbdoiaa
