/-
  What the model's 'l1Put' comes to: as the program's 'putTys', where no variable is beyond what is put.
-/
import Derived.Test.YtikfbgkjgbdoiaaLc
import Derived.Test.YtikfbgkjgbdoiaaPt
namespace Go.Proofs.Ytikfbgkjgbdoiaa
open Go.RowKit
set_option linter.unusedVariables false
set_option linter.unusedSimpArgs false

def SaidLp (l : Nat) : Prop := ∀ (d d2 L B L2 B2 : Nat) (k n : Int) (ao : Option Addr) (len cap : Nat) (ts : List Tr) (sao : Option Addr) (slen scap : Nat) (σ : List Tr) (m : Nat) (w : World),
    B ≤ w.heap.size → Hs L B w d ao len ts → B2 ≤ w.heap.size → Hs L2 B2 w d2 sao slen σ → nodesW l ⟨k, n, ts⟩ = some m → varsW l ⟨k, n, ts⟩ ≤ slen → cntS σ ≤ 1048576 →
    Calls Try.prog 72 #[.agg #[.int .i64 k, .int .i64 n, .slice ao len cap], .slice sao slen scap] w fun e w' => ∃ ao2 len2 cap2, e = .returned (.agg #[.int .i64 (putW σ l ⟨k, n, ts⟩).K, .int .i64 (putW σ l ⟨k, n, ts⟩).N, .slice ao2 len2 cap2]) ∧
      Below w.heap.size w w' ∧ OwR w.heap.size w'.heap.size w' (l + d2) ao2 len2 (putW σ l ⟨k, n, ts⟩).A

set_option maxRecDepth 100000 in
set_option maxHeartbeats 1000000 in
theorem lp_var (l : Nat) (d d2 L B L2 B2 : Nat) (k n : Int) (ao : Option Addr) (len cap : Nat) (ts : List Tr) (sao : Option Addr) (slen scap : Nat) (σ : List Tr) (m : Nat) (w : World)
    (hB : B ≤ w.heap.size) (hs : Hs L B w d ao len ts) (hB2 : B2 ≤ w.heap.size) (hs2 : Hs L2 B2 w d2 sao slen σ) (hm : nodesW (l + 1) ⟨k, n, ts⟩ = some m) (hv : varsW (l + 1) ⟨k, n, ts⟩ ≤ slen) (hc : cntS σ ≤ 1048576) (hk : k = 3) :
    Calls Try.prog 72 #[.agg #[.int .i64 k, .int .i64 n, .slice ao len cap], .slice sao slen scap] w fun e w' => ∃ ao2 len2 cap2, e = .returned (.agg #[.int .i64 (putW σ (l + 1) ⟨k, n, ts⟩).K, .int .i64 (putW σ (l + 1) ⟨k, n, ts⟩).N, .slice ao2 len2 cap2]) ∧
      Below w.heap.size w w' ∧ OwR w.heap.size w'.heap.size w' (l + 1 + d2) ao2 len2 (putW σ (l + 1) ⟨k, n, ts⟩).A := by
  obtain ⟨hok, hparts⟩ := nodesW_inv hm
  have hv0 := var0_of hok
  obtain ⟨X, hX⟩ : ∃ X, X = ((w.alloc (.cells #[.int .i64 k, .int .i64 n, .slice ao len cap] 32)).alloc (.cells #[.int .i64 0, .int .i64 0, .slice none 0 0] 32)) := ⟨_, rfl⟩
  have hXs : X.heap.size = w.heap.size + 2 := by rw [hX]; simp
  have hXb : Below w.heap.size w X := by rw [hX]; exact ((Below.refl _ _).alloc (Nat.le_refl _) _).alloc (by simp) _
  have hX1 : X.heap[w.heap.size + 1]? = some (.cells #[.int .i64 0, .int .i64 0, .slice none 0 0] 32 (0, 0)) := by rw [hX]; exact heap_new (by simp)
  have HX : Hid (X = _) := hX
  clear hX
  have hk3 : (k == 3) = true := by simp [hk]
  have hn := hv0 hk
  have hroot := vars_root (l := l) (k := k) (n := n) (ts := ts)
  have hvr : var0 k n = (n + 1).toNat := by simp [var0, hk]
  have hns : n.toNat < slen := by omega
  have hσ : slen = σ.length := hs2.len.1
  obtain ⟨b, o, hsao, _, hbB, ao1, len1, cap1, c0, c1, c2, hs4⟩ := hs2.get n.toNat (by omega)
  subst hsao
  have hput : putW σ (l + 1) ⟨k, n, ts⟩ = σ[n.toNat]'(by omega) := by
    simp only [putW]
    rw [if_pos hk]
    simp [List.getD, List.getElem?_eq_getElem (show n.toNat < σ.length by omega)]
  rw [hput]
  have hs5 := hs4.below hXb hB2
  have hcn := cntS_get σ n.toNat (by omega)
  have hbw : b < w.heap.size := by omega
  have hn0 := hn.1
  have hn1 : n < slen := by omega
  obtain ⟨t, ht⟩ : ∃ t, t = σ[n.toNat]'(by omega) := ⟨_, rfl⟩
  rw [← ht] at c0 c1 hs5 hcn ⊢
  have e0 := (bcell hXb hbw _).trans c0
  have e1 := (bcell hXb hbw _).trans c1
  have e2 := (bcell hXb hbw _).trans c2
  rw [HX.out] at e0 e1 e2
  clear hput hvr hroot hn hv0 hk hm hparts hok hv hs4 ht c0 c1 c2 hσ
  go_enter Try.func72, Try.ntmps72
  go_wp2_with fail
  rw [← HX.out]
  refine (lc_any _ _ _ _ _ _ _ _ _ _ (by omega) hs5 (by omega)).mono ?_
  rintro e w1 ⟨ao2, len2, cap2, rfl, hb1, ho⟩
  have y := (hb1.block (w.heap.size + 1) (by omega)).trans hX1
  obtain ⟨y0, y1, y2⟩ := box_cells y
  have y3 := row_free y
  have hbel : Below w.heap.size w w1 := hXb.trans (hb1.mono (by omega))
  clear y hX1 e0 e1 e2
  go_wp2_with fail
  refine bodyPost_ret (v := .agg #[.int .i64 t.K, .int .i64 t.N, .slice ao2 len2 cap2]) (by simp [results, Try.results72, go_sem, y0, y1, y2]) rfl ⟨ao2, len2, cap2, rfl, ?_, ?_⟩
  · exact set3_below hbel (by omega)
  · refine (ho.keep (fun j hj _ => ?_) (by omega) (by simp)).deeper (by omega)
    rw [row_other _ _ _ (by omega), row_other _ _ _ (by omega), row_other _ _ _ (by omega)]

set_option maxRecDepth 100000 in
set_option maxHeartbeats 2000000 in
theorem lp_succ (l : Nat) (IH : SaidLp l) : SaidLp (l + 1) := by
  intro d d2 L B L2 B2 k n ao len capA ts sao slen scap σ m w hB hs hB2 hs2 hm hv hc
  by_cases hk : k = 3
  · exact lp_var l d d2 L B L2 B2 k n ao len capA ts sao slen scap σ m w hB hs hB2 hs2 hm hv hc hk
  obtain ⟨hok, hparts⟩ := nodesW_inv hm
  have hlen : len = ts.length := hs.len.1
  have hlen2 : len ≤ 2 := by rw [hlen]; exact nodeOk_len hok
  have hk3 : (k == 3) = false := by simp [hk]
  have hput : putW σ (l + 1) ⟨k, n, ts⟩ = ⟨k, n, ts.map (putW σ l)⟩ := by simp only [putW]; rw [if_neg hk]
  rw [hput]
  have HP : Hid (∀ j (hj : j < ts.length), ∃ a, nodesW l ts[j] = some a) := hparts
  have HV : Hid (∀ j (hj : j < ts.length), varsW l ts[j] ≤ slen) := fun j hj => Nat.le_trans (vars_part hj) hv
  have HL : Hid (len = ts.length) := hlen
  obtain ⟨R, hRR⟩ : ∃ R, R = ts.map (putW σ l) := ⟨_, rfl⟩
  rw [← hRR]
  have HRl : Hid (R.length = ts.length) := by show _ = _; rw [hRR]; simp
  have HRg : Hid (∀ i (h : i < R.length) (h' : i < ts.length), R[i] = putW σ l ts[i]) := by intro i h h'; subst hRR; simp
  clear hRR hput hk hm hparts hok hv hlen
  obtain ⟨X, hX⟩ : ∃ X, X = (((w.alloc (.cells #[.int .i64 k, .int .i64 n, .slice ao len capA] 32)).alloc (.cells #[.int .i64 0, .int .i64 0, .slice none 0 0] 32)).alloc (.cells #[.int .i64 k, .int .i64 n, .slice none 0 0] 32)) := ⟨_, rfl⟩
  have hXs : X.heap.size = w.heap.size + 3 := by rw [hX]; simp
  have hXb : Below w.heap.size w X := by rw [hX]; exact (((Below.refl _ _).alloc (Nat.le_refl _) _).alloc (by simp) _).alloc (by simp; omega) _
  have hX0 : X.heap[w.heap.size]? = some (.cells #[.int .i64 k, .int .i64 n, .slice ao len capA] 32 (0, 0)) := by rw [hX, Below.heap_alloc _ _ _ (by simp only [World.size_alloc]; omega), Below.heap_alloc _ _ _ (by simp only [World.size_alloc]; omega)]; exact heap_new rfl
  have hX2 : X.heap[w.heap.size + 1 + 1]? = some (.cells #[.int .i64 k, .int .i64 n, .slice none 0 0] 32 (0, 0)) := by rw [hX]; exact heap_new (by simp)
  have hX1 : X.heap[w.heap.size + 1]? = some (.cells #[.int .i64 0, .int .i64 0, .slice none 0 0] 32 (0, 0)) := by rw [hX, Below.heap_alloc _ _ _ (by simp only [World.size_alloc]; omega)]; exact heap_new (by simp)
  have HX : Hid (X = _) := hX
  have hStart : LcRel w X (l + d2) 0 #[.int .i64 k, .int .i64 n, .slice ao len capA] #[] (.slice none 0 0) k n w.heap.size (w.heap.size + 1 + 1) R := ⟨hXb, hX0, hX2, ap_nil _ _ _ _⟩
  have HX1 : Hid (_ = _) := hX1
  clear hX hX0 hX1 hX2
  go_enter Try.func72, Try.ntmps72
  go_wp2_with fail
  rw [← HX.out]
  clear hk3
  go_loopw [6] (fun i wr => ∃ (j : Nat) (v : Value), j ≤ len ∧ i = .int .i64 j ∧ Below (w.heap.size + 1 + 1) X wr ∧ LcRel w wr (l + d2) j #[.int .i64 k, .int .i64 n, .slice ao len capA] #[] v k n w.heap.size (w.heap.size + 1 + 1) R) (fun i _ => len - (intOf i).toNat)
  case atStart => exact ⟨0, _, by omega, rfl, Below.refl _ _, hStart⟩
  case round =>
    obtain ⟨j, v, hj, rfl, hbX, hR⟩ := hrel
    have hbel := hR.bel
    have hszr : w.heap.size + 3 ≤ wr.heap.size := by have := hbX.size; omega
    obtain ⟨x0, x1, x2⟩ := box_cells hR.hbox
    obtain ⟨y0, y1, y2⟩ := box_cells hR.hout
    clear x0 x1
    by_cases hlt : j < len
    · have hlt' : j < ts.length := by have := HL.out; omega
      have hltR : j < R.length := by have := HRl.out; omega
      obtain ⟨b, o, rfl, _, hbB, ao1, len1, cap1, c0, c1, c2, hs1⟩ := hs.get j hlt'
      have e0 := (bcell hbel (by omega) _).trans c0
      have e1 := (bcell hbel (by omega) _).trans c1
      have e2 := (bcell hbel (by omega) _).trans c2
      have hs3 := (hs1.below hbel hB).drew
      have hs4 := (hs2.below hbel hB2).drew
      have hapd : ApRel (w.heap.size + 1 + 1 + 1) wr.drew (l + d2) v j R := ap_below hR.ap (Below.refl _ _).drew
      obtain ⟨a, ha⟩ := HP.out j hlt'
      have HA : Hid (nodesW l ⟨ts[j].K, ts[j].N, ts[j].A⟩ = some a) := by show _ = _; rw [tr_eta]; exact ha
      have HVj : Hid (varsW l ⟨ts[j].K, ts[j].N, ts[j].A⟩ ≤ slen) := by show _ ≤ _; rw [tr_eta]; exact HV.out j hlt'
      have HRj : Hid (putW σ l ⟨ts[j].K, ts[j].N, ts[j].A⟩ = R[j]) := by show _ = _; rw [tr_eta]; exact (HRg.out j hltR hlt').symm
      have APR : Hid (∀ (w1 : World) (ao3 : Option Addr) (len3 cap3 : Nat), Below wr.drew.heap.size wr.drew w1 → OwR wr.drew.heap.size w1.heap.size w1 (l + d2) ao3 len3 R[j].A → ∃ g cap w2, (Builtin.append_ #[30, 30] 30 #[v, .slice (some ⟨w1.heap.size, 0, none⟩) 1 1]).run Try.prog (w1.alloc (.cells #[.int .i64 R[j].K, .int .i64 R[j].N, .slice ao3 len3 cap3] 32)) = .ok (.slice (some ⟨g, 0, none⟩) (j + 1) cap) w2 ∧
          LcRel w (w2.setCell ⟨w.heap.size + 1 + 1, 2, none⟩ (.slice (some ⟨g, 0, none⟩) (j + 1) cap)) (l + d2) (j + 1) #[.int .i64 k, .int .i64 n, .slice (some ⟨b, o, none⟩) len capA] #[] (.slice (some ⟨g, 0, none⟩) (j + 1) cap) k n w.heap.size (w.heap.size + 1 + 1) R ∧ Below (w.heap.size + 1 + 1) X (w2.setCell ⟨w.heap.size + 1 + 1, 2, none⟩ (.slice (some ⟨g, 0, none⟩) (j + 1) cap)) ∧
          w2.cell? ⟨w.heap.size + 1 + 1, 2, none⟩ = some v ∧ w2.frozen? ⟨w.heap.size + 1 + 1, 2, none⟩ = false) := by
        intro w1 ao3 len3 cap3 hb1 ho1
        obtain ⟨g, cp, w2, hrun, hap2, hbe2⟩ := ap_run hapd hltR (by have := HL.out; have := HRl.out; omega) hb1 (show w.heap.size + 1 + 1 + 1 ≤ wr.heap.size by omega) ho1
        have hbe3 : Below (w.heap.size + 1 + 1 + 1) wr w2 := (Below.refl _ _).drew.trans hbe2
        have q := (hbe3.block (w.heap.size + 1 + 1) (by omega)).trans hR.hout
        refine ⟨g, cp, w2, hrun, ⟨(hbel.trans (hbe3.mono (by omega))).setCell (p := ⟨w.heap.size + 1 + 1, 2, none⟩) (show w.heap.size ≤ w.heap.size + 1 + 1 by omega) _, ?_, ?_, ap_set hap2 (by omega) _⟩, (hbX.trans (hbe3.mono (by omega))).setCell (p := ⟨w.heap.size + 1 + 1, 2, none⟩) (Nat.le_refl _) _, (box_cells q).2.2, row_free q 2⟩
        · rw [row_other _ _ _ (by omega)]
          exact (hbe3.block w.heap.size (by omega)).trans hR.hbox
        · rw [row_set q]
          rfl
      clear c0 c1 c2 ha
      go_wp2_with fail
      go_region_law (first | (refine step_run hrun (by rfl) _ _ (by rfl) (by rfl) (by rfl) (by rfl) ?_) | (go_simp; go_at_call 72; refine (IH _ d2 L B L2 B2 _ _ _ _ _ (ts[j]'hlt').A _ _ _ σ a _ ?_ hs3 ?_ hs4 HA.out HVj.out hc).mono ?_; (show B ≤ wr.heap.size; omega); (show B2 ≤ wr.heap.size; omega); rw [HRj.out]; rintro e w1 ⟨ao3, len3, cap3, rfl, hb1, ho1⟩; have hz1 : w.heap.size + 1 + 1 < w1.heap.size := Nat.lt_of_lt_of_le (show w.heap.size + 1 + 1 < wr.heap.size by omega) hb1.size; have a2 := (bcell hb1 (show w.heap.size + 1 + 1 < wr.heap.size by omega) 2).trans y2; have a3 : (w1.alloc (.cells #[.int .i64 (R[j]'hltR).K, .int .i64 (R[j]'hltR).N, .slice ao3 len3 cap3] 32)).cell? ⟨w.heap.size + 1 + 1, 2, none⟩ = some v := (World.cell?_of_block (Below.heap_alloc _ _ _ hz1)).trans a2; obtain ⟨g, cp, w2, hrun, hN, hbX2, q2, q3⟩ := APR.out w1 ao3 len3 cap3 hb1 ho1))
      all_goals
        clear e0 e1 e2 y0 y1 y2 x2 a2 a3 hrun q2 q3
        go_wp2_with fail
        go_roundw
        case rel => exact ⟨j + 1, _, by omega, by go_num, hbX2, hN⟩
        case measure => simp [intOf]; omega
    · obtain ⟨ao2, cap2, rfl, ho2⟩ := ap_done hR.ap (by have := HL.out; have := HRl.out; omega) (by omega)
      have r := (hbX.block (w.heap.size + 1) (by omega)).trans HX1.out
      obtain ⟨r0, r1, r2⟩ := box_cells r
      have r3 := row_free r
      clear r
      go_wp2_with fail
      obtain rfl : j = len := by omega
      refine bodyPost_ret (v := .agg #[.int .i64 k, .int .i64 n, .slice ao2 j cap2]) (by simp [results, Try.results72, go_sem, r0, r1, r2]) rfl ⟨ao2, j, cap2, rfl, ?_, ?_⟩
      · exact set3_below hbel (by omega)
      · refine (ho2.keep (fun q hq _ => ?_) (by omega) (by simp)).deeper (by omega)
        rw [row_other _ _ _ (by omega), row_other _ _ _ (by omega), row_other _ _ _ (by omega)]

theorem lp_any : ∀ l, SaidLp l := by
  intro l
  induction l with
  | zero => intro d d2 L B L2 B2 k n ao len cap ts sao slen scap σ m w hB hs hB2 hs2 hm; simp [nodesW] at hm
  | succ l ih => exact lp_succ l ih

end Go.Proofs.Ytikfbgkjgbdoiaa
