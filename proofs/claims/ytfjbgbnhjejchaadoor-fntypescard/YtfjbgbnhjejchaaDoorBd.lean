/-
  What the model's 'l1Bend' comes to: some tree in new memory.
-/
import Derived.Test.YtfjbgbnhjejchaaDoorBdL
import Derived.Test.YtfjbgbnhjejchaaDoorLwM
import Derived.Deep.RegionLaw
namespace Go.Proofs.YtfjbgbnhjejchaaDoor
open Go.RowKit
set_option linter.unusedVariables false
set_option linter.unusedSimpArgs false

/-- How a bend ends: some tree of at most c nodes below its own. -/
def BdEnd (w w' : World) (e : Ending) (p : Nat) (cao : Option Addr) (clen ccap D c : Nat) : Prop :=
  ∃ K N ao len cap ts, e = .returned (.agg #[.int .i64 K, .int .i64 N, .slice ao len cap]) ∧ Drw w w' p cao clen ccap ∧ Hs w.heap.size w'.heap.size w' D ao len ts ∧ cntS ts ≤ c

def SaidBd (d : Nat) : Prop := ∀ (p : Nat) (cao : Option Addr) (clen ccap L B : Nat) (k n : Int) (ao : Option Addr) (len cap : Nat) (ts : List Tr) (w : World), Cur w p cao clen ccap → p < L → B ≤ w.heap.size → Hs L B w d ao len ts → cntS ts ≤ 255 →
    Calls Tryd.prog 40 #[.pointer (some ⟨p, 0, none⟩), .agg #[.int .i64 k, .int .i64 n, .slice ao len cap]] w fun e w' => BdEnd w w' e p cao clen ccap (d + 6) (cntS ts + 6)

theorem bd_end {w wr : World} {p : Nat} {cao : Option Addr} {clen ccap d D c : Nat} {K N : Int} {ao : Option Addr} {len cap : Nat} {us : List Tr} (h : BdRel w wr p cao clen ccap d K N (.slice ao len cap) us) (hp : p < w.heap.size) (hl : us.length ≤ 1000000) (hD : d + 1 ≤ D) (hc : cntS us ≤ c) :
    BdEnd w (set3 wr (w.heap.size + 1) 0 (.int .i64 K) (.int .i64 N) (.slice ao len cap)) (.returned (.agg #[.int .i64 K, .int .i64 N, .slice ao len cap])) p cao clen ccap D c := by
  obtain ⟨h1, h2⟩ := bd_done h hp hl (.int .i64 K) (.int .i64 N) (.slice ao len cap)
  exact ⟨K, N, ao, len, cap, us, rfl, h1, h2.deeper hD, hc⟩

set_option maxRecDepth 100000 in
set_option maxHeartbeats 4000000 in
theorem bd_step (d : Nat) (IH : 0 < d → SaidBd (d - 1)) : SaidBd d := by
  intro p cao clen ccap L B k n ao len cap ts w hc hpL hB hs hcnt
  have hp := hc.lt
  have htl : ts.length ≤ 255 := by have := cntS_eq ts; omega
  have hd0 : 0 < ts.length → 0 < d := by
    intro h
    cases d with
    | zero => obtain ⟨_, rfl⟩ := hs; simp at h
    | succ d => omega
  have HD0 : Hid (0 < ts.length → 0 < d) := hd0
  have HCN : Hid (cntS ts ≤ 255) := hcnt
  clear hd0
  have hX : Below w.heap.size w ((w.alloc (.cells #[.int .i64 k, .int .i64 n, .slice ao len cap] 29)).alloc (.cells #[.int .i64 0, .int .i64 0, .slice none 0 0] 29)) := ((Below.refl _ _).alloc (Nat.le_refl _) _).alloc (by simp) _
  go_enter Tryd.func40, Tryd.ntmps40
  go_wp2_with fail
  refine (lc2_any d L B k n ao len cap ts _ (by simp; omega) (hs.below hX hB) (by omega)).mono ?_
  rintro e w1 ⟨v, rfl, hb1, ha1⟩
  simp only [World.size_alloc] at hb1 ha1
  obtain ⟨ao1, cap1, rfl⟩ := ap_form ha1
  have hR := bd_copied hc hb1 ha1
  obtain ⟨m, hm⟩ : ∃ m, m = ts.length := ⟨_, rfl⟩
  rw [← hm] at hR htl ⊢
  have HM : Hid (m = ts.length) := hm
  have hml : ts.length ≤ 1000000 := by omega
  have y0 : w1.heap[w.heap.size]? = some (.cells #[.int .i64 k, .int .i64 n, .slice ao len cap] 29 (0, 0)) := (hb1.block _ (by omega)).trans ((Below.heap_alloc _ _ _ (by simp)).trans (heap_new rfl))
  obtain ⟨f0, f1, f2⟩ := box_cells y0
  have f3 := row_free y0
  clear y0 hb1 ha1 hX hs hm
  go_wp2_with fail
  focus
    refine (l1Once_any p cao clen ccap 2 _ hR.drw.cur (by omega) (by omega)).mono ?_
    rintro e wa ⟨bb, rfl, hD⟩
    have hRa := bd_drw hR hp hD
    clear hR hD f0 f1 f2 f3
    cases bb
  rotate_left 2
  focus
    refine (l1Below_any p cao clen ccap 5 _ hR.drw.cur (by omega) (by omega)).mono ?_
    rintro e w2 ⟨x, rfl, hx0, hx5, hD⟩
    have hR2 := bd_drw hR hp hD
    clear hR hD f0 f1 f2 f3
  rotate_left 1
  focus
    have g2 := (box_cells hRa.box).2.2
    go_wp2_with fail
    refine (l1Below_any p cao clen ccap 5 _ hRa.drw.cur (by omega) (by omega)).mono ?_
    rintro e w2 ⟨x, rfl, hx0, hx5, hD⟩
    have hR2 := bd_drw hRa hp hD
    clear hRa hD g2
  rotate_left 1
  · have hmp : 0 < m := by omega
    have hd : 0 < d := HD0.out (by have := HM.out; omega)
    have g2 := (box_cells hRa.box).2.2
    go_wp2_with fail
    refine (l1Below_any p cao clen ccap m _ hRa.drw.cur (by omega) (by omega)).mono ?_
    rintro e w3 ⟨x, rfl, hx0, hxm, hD⟩
    have hR3 := bd_drw hRa hp hD
    clear hRa hD g2
    obtain ⟨j, rfl⟩ : ∃ j : Nat, x = j := ⟨x.toNat, by omega⟩
    have hjm : j < m := by omega
    have hjt : j < ts.length := by have := HM.out; omega
    have hz3 := bd_size hR3
    obtain ⟨ao2, cap2, e, bs, ho, hnd, hrng⟩ := ap_done hR3.ap rfl (by omega)
    injection e with e1 e2 e3
    subst e1
    clear e2 e3
    rcases ho with ⟨h0, _⟩ | ⟨g, cs, bss, e1, hlen, hm', hg, hcs, hbl, hbs, hE⟩
    · omega
    subst e1
    obtain ⟨ao', len', cap', c0, c1, c2, hr⟩ := hE j hjt (by omega)
    have hgr : w.heap.size + 2 ≤ g ∧ g < w3.heap.size := hrng g (by rw [hbs]; simp)
    have hsE : Hs (w.heap.size + 2) w3.heap.size w3.drew (d - 1) ao' len' ts[j].A := (hr.hs fun b hb => hrng b (by rw [hbs]; exact List.mem_cons_of_mem _ (mem_part (by omega) hb))).drew
    have hDd : Drw w3 w3.drew p cao clen ccap := ⟨grown_below _ (Below.refl _ _).drew, hR3.drw.cur.below (Below.refl _ _).drew⟩
    have hR3d := bd_drw hR3 hp hDd
    have hcE : cntS ts[j].A ≤ 255 := by have := cntS_get ts j hjt; have := HCN.out; omega
    have hp2 : p < w.heap.size + 2 := by omega
    have hBD : w3.heap.size ≤ w3.drew.heap.size := Nat.le_refl _
    have PART : Hid (∀ (w4 : World) (K3 N3 : Int) (ao3 : Option Addr) (len3 cap3 : Nat) (ts3 : List Tr), Drw w3.drew w4 p cao clen ccap → Hs w3.drew.heap.size w4.heap.size w4 (d - 1 + 6) ao3 len3 ts3 → cntS ts3 ≤ cntS ts[j].A + 6 →
        w4.cell? ⟨w.heap.size, 2, none⟩ = some (.slice (some ⟨g, 0, none⟩) m cap1) ∧ w4.cell? ⟨w.heap.size, 0, none⟩ = some (.int .i64 k) ∧ w4.cell? ⟨w.heap.size, 1, none⟩ = some (.int .i64 n) ∧
        w4.cell? ⟨g, j * 3, none⟩ = some (.int .i64 ts[j].K) ∧ w4.cell? ⟨g, j * 3 + 1, none⟩ = some (.int .i64 ts[j].N) ∧ w4.cell? ⟨g, j * 3 + 2, none⟩ = some (.slice ao' len' cap') ∧ (∀ o, w4.frozen? ⟨g, o, none⟩ = false) ∧
        w4.cell? ⟨w.heap.size + 1, 0, none⟩ = some (.int .i64 0) ∧ w4.cell? ⟨w.heap.size + 1, 1, none⟩ = some (.int .i64 0) ∧ w4.cell? ⟨w.heap.size + 1, 2, none⟩ = some (.slice none 0 0) ∧ (∀ o, w4.frozen? ⟨w.heap.size + 1, o, none⟩ = false) ∧
        BdEnd w (set3 (set3 w4 g (j * 3) (.int .i64 K3) (.int .i64 N3) (.slice ao3 len3 cap3)) (w.heap.size + 1) 0 (.int .i64 k) (.int .i64 n) (.slice (some ⟨g, 0, none⟩) m cap1)) (.returned (.agg #[.int .i64 k, .int .i64 n, .slice (some ⟨g, 0, none⟩) m cap1])) p cao clen ccap (d + 6) (cntS ts + 6)) := by
      intro w4 K3 N3 ao3 len3 cap3 ts3 hD4 hs4 hc4
      obtain ⟨⟨cs4, hg4, hsz4⟩, _, hgw, _, hR4, hend⟩ := bd_part (cap3 := cap3) hR3d hp hml j hjt hD4 hs4 (by omega) (K3 := K3) (N3 := N3)
      obtain ⟨b0, b1, b2⟩ := box_cells hR4.box
      obtain ⟨r0, r1, r2⟩ := box_cells hR4.res
      have hk : ∀ o, w4.cell? ⟨g, o, none⟩ = w3.cell? ⟨g, o, none⟩ := fun o => World.cell?_of_block (a := ⟨g, o, none⟩) (hD4.grown.block g hgw (by simp; omega))
      obtain ⟨hdr, hhs⟩ := hend (.int .i64 k) (.int .i64 n) (.slice (some ⟨g, 0, none⟩) m cap1)
      have hcs2 := cntS_set ts j hjt ⟨K3, N3, ts3⟩
      rw [cnt_eq, cnt_eq] at hcs2
      simp only at hcs2
      have hde : d - 1 + 6 + 1 = d + 6 := by omega
      rw [hde] at hhs
      exact ⟨b2, b0, b1, (hk _).trans c0, (hk _).trans c1, (hk _).trans c2, row_free hg4, r0, r1, r2, row_free hR4.res, _, _, _, _, _, _, rfl, hdr, hhs, by omega⟩
    obtain ⟨b0, b1, b2⟩ := box_cells hR3.box
    have hjI : (0 : Int) ≤ (j : Int) := by omega
    have hjl : (j : Int) < (m : Int) := by omega
    clear hE hr hrng hnd hbs hbl hcs hg hlen hm' hR3d hDd
    have hcD := hR3.drw.cur.below (Below.refl w3.heap.size w3).drew
    go_wp2_with fail
    go_region_law (go_simp; go_at_call 40; refine (IH hd p cao clen ccap (w.heap.size + 2) w3.heap.size _ _ _ _ _ ts[j].A _ hcD hp2 hBD hsE hcE).mono ?_; rintro e w4 ⟨K3, N3, ao3, len3, cap3, ts3, rfl, hD4, hs4, hc4⟩; obtain ⟨q2, q0, q1, s0, s1, s2, s3, r0, r1, r2, r3, HE⟩ := PART.out w4 K3 N3 ao3 len3 cap3 ts3 hD4 hs4 hc4)
    all_goals
      go_wp2_with fail
      refine bodyPost_ret (v := .agg #[.int .i64 k, .int .i64 n, .slice (some ⟨g, 0, none⟩) m cap1]) (by simp [results, Tryd.results40, go_sem, r0, r1, r2]) rfl ?_
      exact HE
  all_goals
    rcases (by omega : x = 0 ∨ x = 1 ∨ x = 2 ∨ x = 3 ∨ x = 4) with rfl | rfl | rfl | rfl | rfl
    · go_wp2_with fail
      refine (l1Below_any p cao clen ccap 8 _ hR2.drw.cur (by omega) (by omega)).mono ?_
      rintro e w3 ⟨y, rfl, hy0, hy8, hD⟩
      have hR3 := bd_drw hR2 hp hD
      obtain ⟨f0, f1, f2⟩ := box_cells hR3.box
      have f3 := row_free hR3.box
      obtain ⟨r0, r1, r2⟩ := box_cells hR3.res
      have r3 := row_free hR3.res
      have HE := bd_end (D := d + 6) (c := cntS ts + 6) (bd_setK hR3 hp y) hp hml (by omega) (by omega)
      go_wp2_with fail
      refine bodyPost_ret (v := .agg #[.int .i64 y, .int .i64 n, .slice ao1 m cap1]) (by simp [results, Tryd.results40, go_sem, r0, r1, r2]) rfl ?_
      exact HE
    · have hA : Below w2.heap.size w2 (w2.alloc (.cells #[.int .i64 0, .int .i64 1, .int .i64 2, .int .i64 (-1)] 3)) := (Below.refl _ _).alloc (Nat.le_refl _) _
      go_wp2_with fail
      refine (l1Int_any p cao clen ccap w2.heap.size 4 4 [0, 1, 2, -1] _ (hR2.drw.cur.below hA) (by exact heap_new rfl) (by have := hR2.drw.cur.lt; omega) rfl (by omega) (by omega)).mono ?_
      rintro e w3 ⟨y, rfl, hy, hD⟩
      have hR3 := bd_drw hR2 hp ⟨grown_trans' (grown_below _ hA) hD.grown, hD.cur⟩
      obtain ⟨f0, f1, f2⟩ := box_cells hR3.box
      have f3 := row_free hR3.box
      obtain ⟨r0, r1, r2⟩ := box_cells hR3.res
      have r3 := row_free hR3.res
      have HE := bd_end (D := d + 6) (c := cntS ts + 6) (bd_setN hR3 hp y) hp hml (by omega) (by omega)
      clear hy
      go_wp2_with fail
      refine bodyPost_ret (v := .agg #[.int .i64 k, .int .i64 y, .slice ao1 m cap1]) (by simp [results, Tryd.results40, go_sem, r0, r1, r2]) rfl ?_
      exact HE
    · obtain ⟨g, cap2, w3, hrun, q2, q3, hR3⟩ := bd_append hR2 hp hml
      rw [← HM.out] at hrun hR3
      have HR : Hid (_ = _) := hrun
      have g2 := (box_cells hR2.box).2.2
      obtain ⟨f0, f1, f2⟩ := box_cells hR3.box
      have f3 := row_free hR3.box
      obtain ⟨r0, r1, r2⟩ := box_cells hR3.res
      have r3 := row_free hR3.res
      have HE := bd_end (D := d + 6) (c := cntS ts + 6) hR3 hp (by have := HM.out; simp; omega) (by omega) (by rw [cntS_snoc, cnt_eq]; simp [cntS])
      clear hrun hR3
      go_wp2_with (at_builtin; refine list_run HR.out (by rfl) _ _ (by rfl) (by rfl) (by rfl) (by rfl) ?_)
      refine bodyPost_ret (v := .agg #[.int .i64 k, .int .i64 n, .slice (some ⟨g, 0, none⟩) (m + 1) cap2]) (by simp [results, Tryd.results40, go_sem, r0, r1, r2]) rfl ?_
      exact HE
    · go_wp2_with fail
      go_loopw [6] (fun i wr => ∃ (j : Nat) (K N : Int) (ao' : Option Addr) (len' cap' : Nat) (us : List Tr), j ≤ 5 ∧ i = .int .i64 j ∧ BdRel w wr p cao clen ccap (d - 1 + j) K N (.slice ao' len' cap') us ∧ us.length ≤ 255 ∧ cntS us ≤ cntS ts + j) (fun i _ => 5 - (intOf i).toNat)
      case atStart => exact ⟨0, k, n, ao1, m, cap1, ts, by omega, rfl, hR2, by have := HM.out; omega, by omega⟩
      case round =>
        obtain ⟨j, K, N, ao', len', cap', us, hj, rfl, hI, hul, huc⟩ := hrel
        have hzI := bd_size hI
        obtain ⟨f0, f1, f2⟩ := box_cells hI.box
        by_cases hlt : j < 5
        · have hN := bd_wrap hI hp (by omega)
          have hwl : w.heap.size < wr.heap.size := by omega
          have f3 := row_free hI.box
          have HCT : Hid (cntS [(⟨K, N, us⟩ : Tr)] ≤ cntS ts + (j + 1)) := by
            show _ ≤ _
            have : cntS [(⟨K, N, us⟩ : Tr)] = 1 + cntS us := by simp [cntS, cnt_eq]
            omega
          go_wp2_with fail
          go_roundw
          case rel => exact ⟨j + 1, 6, 0, _, 1, 1, [⟨K, N, us⟩], by omega, by go_num, hN, by simp, HCT.out⟩
          case measure => simp [intOf]; omega
        · obtain ⟨r0, r1, r2⟩ := box_cells hI.res
          have r3 := row_free hI.res
          have HE := bd_end (D := d + 6) (c := cntS ts + 6) hI hp (by omega) (by omega) (by omega)
          go_wp2_with fail
          refine bodyPost_ret (v := .agg #[.int .i64 K, .int .i64 N, .slice ao' len' cap']) (by simp [results, Tryd.results40, go_sem, r0, r1, r2]) rfl ?_
          exact HE
    · obtain ⟨f0, f1, f2⟩ := box_cells hR2.box
      obtain ⟨r0, r1, r2⟩ := box_cells hR2.res
      have r3 := row_free hR2.res
      have HE := bd_end (D := d + 6) (c := cntS ts + 6) hR2 hp hml (by omega) (by omega)
      go_wp2_with fail
      refine bodyPost_ret (v := .agg #[.int .i64 k, .int .i64 n, .slice ao1 m cap1]) (by simp [results, Tryd.results40, go_sem, r0, r1, r2]) rfl ?_
      exact HE

theorem bd_any : ∀ d, SaidBd d := by
  intro d
  induction d with
  | zero => exact bd_step 0 (fun h => by omega)
  | succ d ih => exact bd_step (d + 1) (fun _ => by simpa using ih)

end Go.Proofs.YtfjbgbnhjejchaaDoor
