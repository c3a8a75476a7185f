/-
  What the program's 'SubstTy' comes to.
-/
import Derived.Test.YtikfbgkjgbdoiaaPt
namespace Go.Proofs.Ytikfbgkjgbdoiaa
open Go.RowKit
set_option linter.unusedVariables false
set_option linter.unusedSimpArgs false

def zeroT : Tr := ⟨0, 0, []⟩
def allOk (σ : List Tr) (j : Nat) : Prop := ∀ i (_ : i < j) (h : i < σ.length), okT σ[i] = true
/-- What 'SubstTy' answers; none: false. -/
def substT (t : Tr) (σ : List Tr) : Option Tr :=
  if okT t = true ∧ varsT t ≤ σ.length ∧ (σ.all okT) = true ∧ okT (putW σ 6 t) = true then some (putW σ 6 t) else none

theorem substT_no {t : Tr} {σ : List Tr} (h : ¬ (okT t = true ∧ varsT t ≤ σ.length ∧ (σ.all okT) = true ∧ okT (putW σ 6 t) = true)) : substT t σ = none := if_neg h
theorem substT_yes {t : Tr} {σ : List Tr} (h : okT t = true ∧ varsT t ≤ σ.length ∧ (σ.all okT) = true ∧ okT (putW σ 6 t) = true) : substT t σ = some (putW σ 6 t) := if_pos h
theorem all_not {σ : List Tr} {j : Nat} (hj : j < σ.length) (h : okT σ[j] = false) : ¬ (σ.all okT) = true := by
  intro ha
  rw [List.all_eq_true] at ha
  rw [ha _ (List.getElem_mem hj)] at h
  cases h
theorem all_yes {σ : List Tr} (h : allOk σ σ.length) : (σ.all okT) = true := by
  rw [List.all_eq_true]
  intro x hx
  obtain ⟨i, hi, rfl⟩ := List.getElem_of_mem hx
  exact h i hi hi

/-- How a call of either 'SubstTy' ends, R being what it answers. -/
def SubEnd (w w' : World) (e : Ending) (D : Nat) (R : Option Tr) : Prop :=
  ∃ ao2 len2 cap2, e = .returned (.tuple #[.agg #[.int .i64 (R.getD zeroT).K, .int .i64 (R.getD zeroT).N, .slice ao2 len2 cap2], .bool R.isSome]) ∧ Below w.heap.size w w' ∧ OwR w.heap.size w'.heap.size w' D ao2 len2 (R.getD zeroT).A

theorem sub_none {w w1 : World} {g D : Nat} (hb : Below w.heap.size w w1) (hg : w.heap.size ≤ g) (R : Option Tr) (hR : R = none) :
    SubEnd w (set3 w1 g 0 (.int .i64 0) (.int .i64 0) (.slice none 0 0)) (.returned (.tuple #[.agg #[.int .i64 0, .int .i64 0, .slice none 0 0], .bool false])) D R := by
  subst hR
  exact ⟨none, 0, 0, rfl, set3_below hb hg, OwR.nil _ _ _ _ _⟩

theorem vars_le2 : ∀ l t m, nodesW l t = some m → varsW l t ≤ 2 := by
  intro l
  induction l with
  | zero => intro t m h; simp [nodesW] at h
  | succ l ih =>
    intro t m h
    cases t with
    | mk k n ts =>
      obtain ⟨hok, hp⟩ := nodesW_inv h
      have h0 := var0_of hok
      have hv0 : var0 k n ≤ 2 := by unfold var0; split <;> omega
      rw [← varsTo_all l k n ts ts.length (Nat.le_refl _)]
      have : ∀ j, j ≤ ts.length → varsTo l k n ts j ≤ 2 := by
        intro j
        induction j with
        | zero => intro _; rw [varsTo_zero]; exact hv0
        | succ j ihj =>
          intro hj
          obtain ⟨a, ha⟩ := hp j (by omega)
          rw [varsTo_succ l k n ts j (by omega)]
          exact Nat.max_le.2 ⟨ihj (by omega), ih _ _ ha⟩
      exact this _ (Nat.le_refl _)

set_option maxHeartbeats 2000000 in
theorem subst_any (d d2 L B L2 B2 : Nat) (k n : Int) (ao : Option Addr) (len cap : Nat) (ts : List Tr) (sao : Option Addr) (slen scap : Nat) (σ : List Tr) (w : World)
    (hB : B ≤ w.heap.size) (hs : Hs L B w d ao len ts) (hB2 : B2 ≤ w.heap.size) (hs2 : Hs L2 B2 w d2 sao slen σ) (hc : cntS σ ≤ 1048576) :
    Calls Try.prog 30 #[.agg #[.int .i64 k, .int .i64 n, .slice ao len cap], .slice sao slen scap] w fun e w' => SubEnd w w' e (6 + d2) (substT ⟨k, n, ts⟩ σ) := by
  obtain ⟨X, hX⟩ : ∃ X, X = ((w.alloc (.cells #[.int .i64 k, .int .i64 n, .slice ao len cap] 32)).alloc (.cells #[.int .i64 0, .int .i64 0, .slice none 0 0] 32)) := ⟨_, rfl⟩
  have hXs : X.heap.size = w.heap.size + 2 := by rw [hX]; simp
  have hXb : Below w.heap.size w X := by rw [hX]; exact ((Below.refl _ _).alloc (Nat.le_refl _) _).alloc (by simp) _
  have hX0 : X.heap[w.heap.size]? = some (.cells #[.int .i64 k, .int .i64 n, .slice ao len cap] 32 (0, 0)) := by rw [hX, Below.heap_alloc _ _ _ (by simp only [World.size_alloc]; omega)]; exact heap_new rfl
  have hX1 : X.heap[w.heap.size + 1]? = some (.cells #[.int .i64 0, .int .i64 0, .slice none 0 0] 32 (0, 0)) := by rw [hX]; exact heap_new (by simp)
  have hs1 := hs.below hXb hB
  have HX : Hid (X = _) := hX
  have HσL : Hid (slen = σ.length) := hs2.len.1
  have hσm := hs2.len.2
  clear hX
  have hv3 : varsT ⟨k, n, ts⟩ ≤ 9223372036854775807 := by
    by_cases ho : okT ⟨k, n, ts⟩ = true
    · obtain ⟨m, hm⟩ := okT_some ho
      have := vars_le2 6 _ m hm
      simp only [varsT, ho, if_true]
      omega
    · simp [varsT, ho]
  cases hok : okT ⟨k, n, ts⟩ with
  | false =>
    have HR : Hid (substT ⟨k, n, ts⟩ σ = none) := substT_no (by simp [hok])
    have HF : Hid (okT ⟨k, n, ts⟩ = false) := hok
    clear hok
    go_enter Try.func30, Try.ntmps30
    go_wp2_with fail
    rw [← HX.out]
    refine (tyOk_any _ _ _ _ _ _ _ _ _ _ (by omega) hs1).mono ?_
    rintro e w1 ⟨rfl, hb1⟩
    rw [HF.out]
    have y := (hb1.block (w.heap.size + 1) (by omega)).trans hX1
    obtain ⟨y0, y1, y2⟩ := box_cells y
    have y3 := row_free y
    have hbw : Below w.heap.size w w1 := hXb.trans (hb1.mono (by omega))
    clear y
    go_wp2_with fail
    refine bodyPost_ret (v := .tuple #[.agg #[.int .i64 0, .int .i64 0, .slice none 0 0], .bool false]) (by simp [results, Try.results30, go_sem, y0, y1, y2]) rfl (sub_none hbw (by omega) _ HR.out)
  | true =>
    have HF : Hid (okT ⟨k, n, ts⟩ = true) := hok
    obtain ⟨m, hm⟩ := okT_some hok
    have HM : Hid (nodesW 6 ⟨k, n, ts⟩ = some m) := hm
    have HVT : Hid (varsT ⟨k, n, ts⟩ = varsW 6 ⟨k, n, ts⟩) := by show _ = _; simp [varsT, hok]
    clear hm
    by_cases hvs : varsT ⟨k, n, ts⟩ ≤ slen
    · have HOK : Hid (okT ⟨k, n, ts⟩ = true) := hok
      clear hok
      have hvb : decide (slen < varsT ⟨k, n, ts⟩) = false := by simp; omega
      have HVS : Hid (varsT ⟨k, n, ts⟩ ≤ slen) := hvs
      go_enter Try.func30, Try.ntmps30
      go_wp2_with fail
      rw [← HX.out]
      refine (tyOk_any _ _ _ _ _ _ _ _ _ _ (by omega) hs1).mono ?_
      rintro e w1 ⟨rfl, hb1⟩
      rw [HF.out]
      have hz1 := hb1.size
      obtain ⟨x0, x1, x2⟩ := box_cells ((hb1.block w.heap.size (by omega)).trans hX0)
      go_wp2_with fail
      refine (varsOf_any _ _ _ _ _ _ _ _ _ _ (by omega) (hs1.below hb1 (by omega))).mono ?_
      rintro e w2 ⟨rfl, hb2⟩
      have hz2 := hb2.size
      have hX20 := (hb2.block w.heap.size (by omega)).trans ((hb1.block w.heap.size (by omega)).trans hX0)
      have hX21 := (hb2.block (w.heap.size + 1) (by omega)).trans ((hb1.block (w.heap.size + 1) (by omega)).trans hX1)
      have hbw : Below w.heap.size w w2 := (hXb.trans (hb1.mono (by omega))).trans (hb2.mono (by omega))
      clear x0 x1 x2
      go_wp2_with fail
      clear hvb hvs
      go_loopw [22] (fun i wr => ∃ j : Nat, j ≤ slen ∧ i = .int .i64 j ∧ Hid (allOk σ j) ∧ Below w2.heap.size w2 wr) (fun i _ => slen - (intOf i).toNat)
      case atStart => exact ⟨0, by omega, rfl, fun i hi => by omega, Below.refl _ _⟩
      case round =>
        obtain ⟨j, hj, rfl, HA, hbr⟩ := hrel
        have hszr := hbr.size
        have y := (hbr.block (w.heap.size + 1) (by omega)).trans hX21
        have hbwr : Below w.heap.size w wr := hbw.trans (hbr.mono (by omega))
        by_cases hlt : j < slen
        · have hlt' : j < σ.length := by have := HσL.out; omega
          obtain ⟨b, o, rfl, _, hbB, ao1, len1, cap1, c0, c1, c2, hs4⟩ := hs2.get j hlt'
          have e0 := (bcell hbwr (by omega) _).trans c0
          have e1 := (bcell hbwr (by omega) _).trans c1
          have e2 := (bcell hbwr (by omega) _).trans c2
          have hba : Below wr.heap.size wr (wr.alloc (.cells #[.int .i64 σ[j].K, .int .i64 σ[j].N, .slice ao1 len1 cap1] 32)) := (Below.refl _ _).alloc (Nat.le_refl _) _
          have hs5 := (hs4.below hbwr hB2).below hba (by omega)
          cases hoj : okT σ[j] with
          | false =>
            have HR : Hid (substT ⟨k, n, ts⟩ σ = none) := substT_no (fun h => all_not hlt' hoj h.2.2.1)
            have HOJ : Hid (okT ⟨σ[j].K, σ[j].N, σ[j].A⟩ = false) := by show _ = _; rw [tr_eta]; exact hoj
            clear hoj
            go_wp2_with fail
            refine (tyOk_any _ _ _ _ _ _ _ _ _ _ (by simp; omega) hs5).mono ?_
            rintro e w3 ⟨rfl, hb3⟩
            rw [HOJ.out]
            have y' := (hb3.block (w.heap.size + 1) (by simp; omega)).trans ((hba.block _ (by omega)).trans y)
            obtain ⟨y0, y1, y2⟩ := box_cells y'
            have y3 := row_free y'
            have hbw3 : Below w.heap.size w w3 := (hbwr.trans (hba.mono (by omega))).trans (hb3.mono (by simp; omega))
            clear y' y e0 e1 e2
            go_wp2_with fail
            refine bodyPost_ret (v := .tuple #[.agg #[.int .i64 0, .int .i64 0, .slice none 0 0], .bool false]) (by simp [results, Try.results30, go_sem, y0, y1, y2]) rfl (sub_none hbw3 (by omega) _ HR.out)
          | true =>
            have HOJ : Hid (okT ⟨σ[j].K, σ[j].N, σ[j].A⟩ = true) := by show _ = _; rw [tr_eta]; exact hoj
            have HA2 : Hid (allOk σ (j + 1)) := fun i hi h => by
              by_cases hij : i = j
              · subst hij; exact hoj
              · exact HA.out i (by omega) h
            clear hoj
            go_wp2_with fail
            refine (tyOk_any _ _ _ _ _ _ _ _ _ _ (by simp; omega) hs5).mono ?_
            rintro e w3 ⟨rfl, hb3⟩
            rw [HOJ.out]
            have hbr3 : Below w2.heap.size w2 w3 := (hbr.alloc (by omega) _).trans (hb3.mono (by simp; omega))
            clear y e0 e1 e2
            go_wp2_with fail
            go_roundw
            case rel => exact ⟨j + 1, by omega, by go_num, HA2, hbr3⟩
            case measure => simp [intOf]; omega
        · have HALL : Hid ((σ.all okT) = true) := all_yes (by have h1 := HσL.out; have h2 := HA.out; rw [show j = σ.length by omega] at h2; exact h2)
          obtain ⟨x0, x1, x2⟩ := box_cells ((hbr.block w.heap.size (by omega)).trans hX20)
          go_wp2_with fail
          refine (put_any 6 d d2 L B L2 B2 _ _ _ _ _ _ _ _ _ σ m _ (by omega) (hs.below hbwr hB) (by omega) (hs2.below hbwr hB2) HM.out (by rw [← HVT.out]; exact HVS.out) hc).mono ?_
          rintro e w3 ⟨ao3, len3, cap3, rfl, hb3, ho3⟩
          have hz3 := hb3.size
          obtain ⟨R, hR⟩ : ∃ R, R = putW σ 6 ⟨k, n, ts⟩ := ⟨_, rfl⟩
          rw [← hR] at ho3 ⊢
          have HRP : Hid (R = _) := hR
          clear hR
          have hba : Below w3.heap.size w3 (w3.alloc (.cells #[.int .i64 R.K, .int .i64 R.N, .slice ao3 len3 cap3] 32)) := (Below.refl _ _).alloc (Nat.le_refl _) _
          have ho4 := ho3.below hba (Nat.le_refl _)
          have y' := (hb3.block (w.heap.size + 1) (by omega)).trans y
          clear x0 x1 x2 y
          go_wp2_with fail
          refine (tyOk_any _ _ _ _ _ _ _ _ _ _ (by simp) ho4.hs).mono ?_
          rintro e w4 ⟨rfl, hb4⟩
          have hz4 := hb4.size
          simp only [World.size_alloc] at hz4
          rw [tr_eta]
          have y'' := (hb4.block (w.heap.size + 1) (by simp; omega)).trans ((hba.block _ (by omega)).trans y')
          have x := (hb4.block w3.heap.size (by simp)).trans (heap_new rfl)
          obtain ⟨y0, y1, y2⟩ := box_cells y''
          have y3 := row_free y''
          obtain ⟨x0, x1, x2⟩ := box_cells x
          have hbw4 : Below w.heap.size w w4 := ((hbwr.trans (hb3.mono (by omega))).trans (hba.mono (by omega))).trans (hb4.mono (by simp; omega))
          have ho5 := ho4.below hb4 (by simp)
          clear y'' y' x ho3 ho4
          cases hoR : okT R with
          | false =>
            have HR : Hid (substT ⟨k, n, ts⟩ σ = none) := substT_no (fun h => by rw [← HRP.out, hoR] at h; simp at h)
            clear hoR
            go_wp2_with fail
            refine bodyPost_ret (v := .tuple #[.agg #[.int .i64 0, .int .i64 0, .slice none 0 0], .bool false]) (by simp [results, Try.results30, go_sem, y0, y1, y2]) rfl (sub_none hbw4 (by omega) _ HR.out)
          | true =>
            have HR : Hid (substT ⟨k, n, ts⟩ σ = some R) := by
              show _ = _
              rw [HRP.out]
              exact substT_yes ⟨HOK.out, by rw [← HσL.out]; exact HVS.out, HALL.out, by rw [← HRP.out]; exact hoR⟩
            clear hoR
            go_wp2_with fail
            refine bodyPost_ret (v := .tuple #[.agg #[.int .i64 R.K, .int .i64 R.N, .slice ao3 len3 cap3], .bool true]) (by simp [results, Try.results30, go_sem, y0, y1, y2]) rfl ?_
            rw [HR.out]
            refine ⟨ao3, len3, cap3, rfl, set3_below hbw4 (by omega), ?_⟩
            refine ho5.keep (fun q hq _ => ?_) (by omega) (by simp; omega)
            rw [row_other _ _ _ (by omega), row_other _ _ _ (by omega), row_other _ _ _ (by omega)]
    · have HR : Hid (substT ⟨k, n, ts⟩ σ = none) := substT_no (by have := HσL.out; omega)
      clear hok
      go_enter Try.func30, Try.ntmps30
      go_wp2_with fail
      rw [← HX.out]
      refine (tyOk_any _ _ _ _ _ _ _ _ _ _ (by omega) hs1).mono ?_
      rintro e w1 ⟨rfl, hb1⟩
      rw [HF.out]
      have hz1 := hb1.size
      obtain ⟨x0, x1, x2⟩ := box_cells ((hb1.block w.heap.size (by omega)).trans hX0)
      go_wp2_with fail
      refine (varsOf_any _ _ _ _ _ _ _ _ _ _ (by omega) (hs1.below hb1 (by omega))).mono ?_
      rintro e w2 ⟨rfl, hb2⟩
      have hz2 := hb2.size
      have y := (hb2.block (w.heap.size + 1) (by omega)).trans ((hb1.block (w.heap.size + 1) (by omega)).trans hX1)
      obtain ⟨y0, y1, y2⟩ := box_cells y
      have y3 := row_free y
      have hbw : Below w.heap.size w w2 := (hXb.trans (hb1.mono (by omega))).trans (hb2.mono (by omega))
      clear y x0 x1 x2
      go_wp2_with fail
      refine bodyPost_ret (v := .tuple #[.agg #[.int .i64 0, .int .i64 0, .slice none 0 0], .bool false]) (by simp [results, Try.results30, go_sem, y0, y1, y2]) rfl (sub_none hbw (by omega) _ HR.out)

end Go.Proofs.Ytikfbgkjgbdoiaa
