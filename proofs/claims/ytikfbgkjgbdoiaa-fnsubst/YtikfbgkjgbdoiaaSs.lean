/-
  What the model's 'SubstTy' comes to: as the program's.
-/
import Derived.Test.YtikfbgkjgbdoiaaSb
import Derived.Test.YtikfbgkjgbdoiaaLp
namespace Go.Proofs.Ytikfbgkjgbdoiaa
open Go.RowKit
set_option linter.unusedVariables false
set_option linter.unusedSimpArgs false

set_option maxRecDepth 100000 in
set_option maxHeartbeats 2000000 in
theorem sSubst_any (d d2 L B L2 B2 : Nat) (k n : Int) (ao : Option Addr) (len cap : Nat) (ts : List Tr) (sao : Option Addr) (slen scap : Nat) (σ : List Tr) (w : World)
    (hB : B ≤ w.heap.size) (hs : Hs L B w d ao len ts) (hB2 : B2 ≤ w.heap.size) (hs2 : Hs L2 B2 w d2 sao slen σ) (hc : cntS σ ≤ 1048576) :
    Calls Try.prog 31 #[.agg #[.int .i64 k, .int .i64 n, .slice ao len cap], .slice sao slen scap] w fun e w' => SubEnd w w' e (6 + d2) (substT ⟨k, n, ts⟩ σ) := by
  obtain ⟨X, hX⟩ : ∃ X, X = ((w.alloc (.cells #[.int .i64 k, .int .i64 n, .slice ao len cap] 32)).alloc (.cells #[.int .i64 0, .int .i64 0, .slice none 0 0] 32)) := ⟨_, rfl⟩
  have hXs : X.heap.size = w.heap.size + 2 := by rw [hX]; simp
  have hXb : Below w.heap.size w X := by rw [hX]; exact ((Below.refl _ _).alloc (Nat.le_refl _) _).alloc (by simp) _
  have hX0 : X.heap[w.heap.size]? = some (.cells #[.int .i64 k, .int .i64 n, .slice ao len cap] 32 (0, 0)) := by rw [hX, Below.heap_alloc _ _ _ (by simp only [World.size_alloc]; omega)]; exact heap_new rfl
  have hX1 : X.heap[w.heap.size + 1]? = some (.cells #[.int .i64 0, .int .i64 0, .slice none 0 0] 32 (0, 0)) := by rw [hX]; exact heap_new (by simp)
  have hs1 := hs.below hXb hB
  have HX : Hid (X = _) := hX
  have HσL : Hid (slen = σ.length) := hs2.len.1
  have hσm := hs2.len.2
  clear hX
  cases hok : okT ⟨k, n, ts⟩ with
  | false =>
    have HR : Hid (substT ⟨k, n, ts⟩ σ = none) := substT_no (by simp [hok])
    have HF : Hid (okT ⟨k, n, ts⟩ = false) := hok
    clear hok
    go_enter Try.func31, Try.ntmps31
    go_wp2_with fail
    rw [← HX.out]
    refine (sTyOk_any _ _ _ _ _ _ _ _ _ _ (by omega) hs1).mono ?_
    rintro e w1 ⟨rfl, hb1⟩
    rw [HF.out]
    have y := (hb1.block (w.heap.size + 1) (by omega)).trans hX1
    obtain ⟨y0, y1, y2⟩ := box_cells y
    have y3 := row_free y
    have hbw : Below w.heap.size w w1 := hXb.trans (hb1.mono (by omega))
    clear y
    go_wp2_with fail
    refine bodyPost_ret (v := .tuple #[.agg #[.int .i64 0, .int .i64 0, .slice none 0 0], .bool false]) (by simp [results, Try.results31, go_sem, y0, y1, y2]) rfl (sub_none hbw (by omega) _ HR.out)
  | true =>
    have HF : Hid (okT ⟨k, n, ts⟩ = true) := hok
    obtain ⟨m, hm⟩ := okT_some hok
    have HM : Hid (nodesW 6 ⟨k, n, ts⟩ = some m) := hm
    have HVT : Hid (varsT ⟨k, n, ts⟩ = varsW 6 ⟨k, n, ts⟩) := by show _ = _; simp [varsT, hok]
    have hv2 := vars_le2 6 _ m hm
    clear hm
    by_cases hvs : varsW 6 ⟨k, n, ts⟩ ≤ slen
    · have HOK : Hid (okT ⟨k, n, ts⟩ = true) := hok
      clear hok
      have hvb : decide (slen < varsW 6 ⟨k, n, ts⟩) = false := by simp; omega
      have HVS : Hid (varsW 6 ⟨k, n, ts⟩ ≤ slen) := hvs
      go_enter Try.func31, Try.ntmps31
      go_wp2_with fail
      rw [← HX.out]
      refine (sTyOk_any _ _ _ _ _ _ _ _ _ _ (by omega) hs1).mono ?_
      rintro e w1 ⟨rfl, hb1⟩
      rw [HF.out]
      have hz1 := hb1.size
      obtain ⟨x0, x1, x2⟩ := box_cells ((hb1.block w.heap.size (by omega)).trans hX0)
      go_wp2_with fail
      refine (lv_any 6 _ _ _ _ _ _ _ _ _ _ _ (by omega) (hs1.below hb1 (by omega)) HM.out).mono ?_
      rintro e w2 ⟨rfl, hb2⟩
      have hz2 := hb2.size
      have hX20 := (hb2.block w.heap.size (by omega)).trans ((hb1.block w.heap.size (by omega)).trans hX0)
      have hX21 := (hb2.block (w.heap.size + 1) (by omega)).trans ((hb1.block (w.heap.size + 1) (by omega)).trans hX1)
      have hbw : Below w.heap.size w w2 := (hXb.trans (hb1.mono (by omega))).trans (hb2.mono (by omega))
      clear x0 x1 x2
      go_wp2_with fail
      clear hvb hvs
      go_loopw [6] (fun i wr => ∃ j : Nat, j ≤ slen ∧ i = .int .i64 j ∧ Hid (allOk σ j) ∧ Below w2.heap.size w2 wr) (fun i _ => slen - (intOf i).toNat)
      case atStart => exact ⟨0, by omega, rfl, fun i hi => by omega, Below.refl _ _⟩
      case round =>
        obtain ⟨j, hj, rfl, HA, hbr⟩ := hrel
        have hszr := hbr.size
        have y := (hbr.block (w.heap.size + 1) (by omega)).trans hX21
        have hbwr : Below w.heap.size w wr := hbw.trans (hbr.mono (by omega))
        by_cases hlt : j < slen
        · have hlt' : j < σ.length := by have := HσL.out; omega
          obtain ⟨b, o, rfl, _, hbB, ao1, len1, cap1, c0, c1, c2, hs4⟩ := hs2.get j hlt'
          have e0 := (bcell hbwr (by omega) _).trans c0
          have e1 := (bcell hbwr (by omega) _).trans c1
          have e2 := (bcell hbwr (by omega) _).trans c2
          have hs5 := hs4.below hbwr hB2
          cases hoj : okT σ[j] with
          | false =>
            have HR : Hid (substT ⟨k, n, ts⟩ σ = none) := substT_no (fun h => all_not hlt' hoj h.2.2.1)
            have HOJ : Hid (okT ⟨σ[j].K, σ[j].N, σ[j].A⟩ = false) := by show _ = _; rw [tr_eta]; exact hoj
            clear hoj
            go_wp2_with fail
            refine (sTyOk_any _ _ _ _ _ _ _ _ _ _ (by omega) hs5).mono ?_
            rintro e w3 ⟨rfl, hb3⟩
            rw [HOJ.out]
            have y' := (hb3.block (w.heap.size + 1) (by omega)).trans y
            obtain ⟨y0, y1, y2⟩ := box_cells y'
            have y3 := row_free y'
            have hbw3 : Below w.heap.size w w3 := hbwr.trans (hb3.mono (by omega))
            clear y' y e0 e1 e2
            go_wp2_with fail
            refine bodyPost_ret (v := .tuple #[.agg #[.int .i64 0, .int .i64 0, .slice none 0 0], .bool false]) (by simp [results, Try.results31, go_sem, y0, y1, y2]) rfl (sub_none hbw3 (by omega) _ HR.out)
          | true =>
            have HOJ : Hid (okT ⟨σ[j].K, σ[j].N, σ[j].A⟩ = true) := by show _ = _; rw [tr_eta]; exact hoj
            have HA2 : Hid (allOk σ (j + 1)) := fun i hi h => by
              by_cases hij : i = j
              · subst hij; exact hoj
              · exact HA.out i (by omega) h
            clear hoj
            go_wp2_with fail
            refine (sTyOk_any _ _ _ _ _ _ _ _ _ _ (by omega) hs5).mono ?_
            rintro e w3 ⟨rfl, hb3⟩
            rw [HOJ.out]
            have hbr3 : Below w2.heap.size w2 w3 := hbr.trans (hb3.mono (by omega))
            clear y e0 e1 e2
            go_wp2_with fail
            go_roundw
            case rel => exact ⟨j + 1, by omega, by go_num, HA2, hbr3⟩
            case measure => simp [intOf]; omega
        · have HALL : Hid ((σ.all okT) = true) := all_yes (by have h1 := HσL.out; have h2 := HA.out; rw [show j = σ.length by omega] at h2; exact h2)
          obtain ⟨x0, x1, x2⟩ := box_cells ((hbr.block w.heap.size (by omega)).trans hX20)
          go_wp2_with fail
          refine (lp_any 6 d d2 L B L2 B2 _ _ _ _ _ _ _ _ _ σ m _ (by omega) (hs.below hbwr hB) (by omega) (hs2.below hbwr hB2) HM.out HVS.out hc).mono ?_
          rintro e w3 ⟨ao3, len3, cap3, rfl, hb3, ho3⟩
          have hz3 := hb3.size
          obtain ⟨R, hR⟩ : ∃ R, R = putW σ 6 ⟨k, n, ts⟩ := ⟨_, rfl⟩
          rw [← hR] at ho3 ⊢
          have HRP : Hid (R = _) := hR
          clear hR
          have hba : Below w3.heap.size w3 (w3.alloc (.cells #[.int .i64 R.K, .int .i64 R.N, .slice ao3 len3 cap3] 32)) := (Below.refl _ _).alloc (Nat.le_refl _) _
          have ho4 := ho3.below hba (Nat.le_refl _)
          have y' := (hb3.block (w.heap.size + 1) (by omega)).trans y
          clear x0 x1 x2 y
          go_wp2_with fail
          refine (sTyOk_any _ _ _ _ _ _ _ _ _ _ (by simp) ho4.hs).mono ?_
          rintro e w4 ⟨rfl, hb4⟩
          have hz4 := hb4.size
          simp only [World.size_alloc] at hz4
          rw [tr_eta]
          have y'' := (hb4.block (w.heap.size + 1) (by simp; omega)).trans ((hba.block _ (by omega)).trans y')
          have x := (hb4.block w3.heap.size (by simp)).trans (heap_new rfl)
          obtain ⟨y0, y1, y2⟩ := box_cells y''
          have y3 := row_free y''
          obtain ⟨x0, x1, x2⟩ := box_cells x
          have hbw4 : Below w.heap.size w w4 := ((hbwr.trans (hb3.mono (by omega))).trans (hba.mono (by omega))).trans (hb4.mono (by simp; omega))
          have ho5 := ho4.below hb4 (by simp)
          clear y'' y' x ho3 ho4
          cases hoR : okT R with
          | false =>
            have HR : Hid (substT ⟨k, n, ts⟩ σ = none) := substT_no (fun h => by rw [← HRP.out, hoR] at h; simp at h)
            clear hoR
            go_wp2_with fail
            refine bodyPost_ret (v := .tuple #[.agg #[.int .i64 0, .int .i64 0, .slice none 0 0], .bool false]) (by simp [results, Try.results31, go_sem, y0, y1, y2]) rfl (sub_none hbw4 (by omega) _ HR.out)
          | true =>
            have HR : Hid (substT ⟨k, n, ts⟩ σ = some R) := by
              show _ = _
              rw [HRP.out]
              exact substT_yes ⟨HOK.out, by rw [← HσL.out, HVT.out]; exact HVS.out, HALL.out, by rw [← HRP.out]; exact hoR⟩
            clear hoR
            go_wp2_with fail
            refine bodyPost_ret (v := .tuple #[.agg #[.int .i64 R.K, .int .i64 R.N, .slice ao3 len3 cap3], .bool true]) (by simp [results, Try.results31, go_sem, y0, y1, y2]) rfl ?_
            rw [HR.out]
            refine ⟨ao3, len3, cap3, rfl, set3_below hbw4 (by omega), ?_⟩
            refine ho5.keep (fun q hq _ => ?_) (by omega) (by simp; omega)
            rw [row_other _ _ _ (by omega), row_other _ _ _ (by omega), row_other _ _ _ (by omega)]
    · have HR : Hid (substT ⟨k, n, ts⟩ σ = none) := substT_no (fun h => by have h1 := h.2.1; rw [HVT.out, ← HσL.out] at h1; exact hvs h1)
      clear hok
      go_enter Try.func31, Try.ntmps31
      go_wp2_with fail
      rw [← HX.out]
      refine (sTyOk_any _ _ _ _ _ _ _ _ _ _ (by omega) hs1).mono ?_
      rintro e w1 ⟨rfl, hb1⟩
      rw [HF.out]
      have hz1 := hb1.size
      obtain ⟨x0, x1, x2⟩ := box_cells ((hb1.block w.heap.size (by omega)).trans hX0)
      go_wp2_with fail
      refine (lv_any 6 _ _ _ _ _ _ _ _ _ _ _ (by omega) (hs1.below hb1 (by omega)) HM.out).mono ?_
      rintro e w2 ⟨rfl, hb2⟩
      have hz2 := hb2.size
      have y := (hb2.block (w.heap.size + 1) (by omega)).trans ((hb1.block (w.heap.size + 1) (by omega)).trans hX1)
      obtain ⟨y0, y1, y2⟩ := box_cells y
      have y3 := row_free y
      have hbw : Below w.heap.size w w2 := (hXb.trans (hb1.mono (by omega))).trans (hb2.mono (by omega))
      clear y x0 x1 x2
      go_wp2_with fail
      refine bodyPost_ret (v := .tuple #[.agg #[.int .i64 0, .int .i64 0, .slice none 0 0], .bool false]) (by simp [results, Try.results31, go_sem, y0, y1, y2]) rfl (sub_none hbw (by omega) _ HR.out)

end Go.Proofs.Ytikfbgkjgbdoiaa
