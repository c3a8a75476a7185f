/-
  What the program's 'putTys' comes to: the tree with the others put for its variables, in new memory.
-/
import Derived.Test.YtikfbgkjgbdoiaaCp
import Derived.Test.YtikfbgkjgbdoiaaVr
import Derived.Test.YtikfbgkjgbdoiaaRd
namespace Go.Proofs.Ytikfbgkjgbdoiaa
open Go.RowKit
set_option linter.unusedVariables false
set_option linter.unusedSimpArgs false

def putW (σ : List Tr) : Nat → Tr → Tr
  | 0, t => t
  | l + 1, t => if t.K = 3 then σ.getD t.N.toNat ⟨0, 0, []⟩ else ⟨t.K, t.N, t.A.map (putW σ l)⟩

def SaidPut (l : Nat) : Prop := ∀ (d d2 L B L2 B2 : Nat) (k n : Int) (ao : Option Addr) (len cap : Nat) (ts : List Tr) (sao : Option Addr) (slen scap : Nat) (σ : List Tr) (m : Nat) (w : World),
    B ≤ w.heap.size → Hs L B w d ao len ts → B2 ≤ w.heap.size → Hs L2 B2 w d2 sao slen σ → nodesW l ⟨k, n, ts⟩ = some m → varsW l ⟨k, n, ts⟩ ≤ slen → cntS σ ≤ 1048576 →
    Calls Try.prog 70 #[.agg #[.int .i64 k, .int .i64 n, .slice ao len cap], .slice sao slen scap] w fun e w' => ∃ ao2 len2 cap2, e = .returned (.agg #[.int .i64 (putW σ l ⟨k, n, ts⟩).K, .int .i64 (putW σ l ⟨k, n, ts⟩).N, .slice ao2 len2 cap2]) ∧
      Below w.heap.size w w' ∧ OwR w.heap.size w'.heap.size w' (l + d2) ao2 len2 (putW σ l ⟨k, n, ts⟩).A

theorem varsTo_le (l : Nat) (k n : Int) (ts : List Tr) : ∀ j, j ≤ ts.length → varsTo l k n ts j ≤ varsTo l k n ts ts.length := by
  have step : ∀ j, j < ts.length → varsTo l k n ts j ≤ varsTo l k n ts (j + 1) := fun j hj => by rw [varsTo_succ l k n ts j hj]; exact Nat.le_max_left _ _
  intro j hj
  have : ∀ e, j + e ≤ ts.length → varsTo l k n ts j ≤ varsTo l k n ts (j + e) := by
    intro e
    induction e with
    | zero => intro _; exact Nat.le_refl _
    | succ e ih => intro he; exact Nat.le_trans (ih (by omega)) (step (j + e) (by omega))
  have h2 := this (ts.length - j) (by omega)
  rwa [show j + (ts.length - j) = ts.length by omega] at h2

theorem vars_root {l : Nat} {k n : Int} {ts : List Tr} : var0 k n ≤ varsW (l + 1) ⟨k, n, ts⟩ := by
  rw [← varsTo_all l k n ts ts.length (Nat.le_refl _), ← varsTo_zero l k n ts]
  exact varsTo_le l k n ts 0 (by omega)
theorem vars_part {l : Nat} {k n : Int} {ts : List Tr} {j : Nat} (h : j < ts.length) : varsW l ts[j] ≤ varsW (l + 1) ⟨k, n, ts⟩ := by
  rw [← varsTo_all l k n ts ts.length (Nat.le_refl _)]
  have h1 := varsTo_le l k n ts (j + 1) h
  rw [varsTo_succ l k n ts j h] at h1
  exact Nat.le_trans (Nat.le_max_right _ _) h1

/-- The closure: the slice of what is put lies in block cb. -/
theorem put_closure (l : Nat) (IH : SaidPut l) (d d2 L B L2 B2 cb : Nat) (k n : Int) (ao : Option Addr) (len cap : Nat) (ts : List Tr) (sao : Option Addr) (slen scap : Nat) (σ : List Tr) (m : Nat) (w : World)
    (hB : B ≤ w.heap.size) (hs : Hs L B w d ao len ts) (hB2 : B2 ≤ w.heap.size) (hs2 : Hs L2 B2 w d2 sao slen σ) (hm : nodesW l ⟨k, n, ts⟩ = some m) (hv : varsW l ⟨k, n, ts⟩ ≤ slen) (hc : cntS σ ≤ 1048576)
    (hcb : w.heap[cb]? = some (.cells #[.slice sao slen scap] 30 (0, 0))) :
    Calls Try.prog 110 #[.agg #[.int .i64 k, .int .i64 n, .slice ao len cap], .pointer (some ⟨cb, 0, none⟩)] w fun e w' => ∃ ao2 len2 cap2, e = .returned (.agg #[.int .i64 (putW σ l ⟨k, n, ts⟩).K, .int .i64 (putW σ l ⟨k, n, ts⟩).N, .slice ao2 len2 cap2]) ∧
      Below w.heap.size w w' ∧ OwR w.heap.size w'.heap.size w' (l + d2) ao2 len2 (putW σ l ⟨k, n, ts⟩).A := by
  obtain ⟨X, hX⟩ : ∃ X, X = ((w.alloc (.cells #[.int .i64 k, .int .i64 n, .slice ao len cap] 32)).alloc (.cells #[.int .i64 0, .int .i64 0, .slice none 0 0] 32)) := ⟨_, rfl⟩
  have hXs : X.heap.size = w.heap.size + 2 := by rw [hX]; simp
  have hXb : Below w.heap.size w X := by rw [hX]; exact ((Below.refl _ _).alloc (Nat.le_refl _) _).alloc (by simp) _
  have hX1 : X.heap[w.heap.size + 1]? = some (.cells #[.int .i64 0, .int .i64 0, .slice none 0 0] 32 (0, 0)) := by rw [hX]; exact heap_new (by simp)
  have hs1 := hs.below hXb hB
  have hs3 := hs2.below hXb hB2
  have hcw : cb < w.heap.size := (Array.getElem?_eq_some_iff.1 hcb).1
  have q0 := row_cell hcb 0
  simp only [List.getElem?_toArray, List.getElem?_cons_zero] at q0
  have HX : Hid (X = _) := hX
  have HM : Hid (_ = _) := hm
  have HV : Hid (_ ≤ _) := hv
  clear hX hm hcb hv
  generalize hR : putW σ l ⟨k, n, ts⟩ = R
  have HR : Hid (_ = _) := hR
  clear hR
  go_enter Try.func110, Try.ntmps110
  go_wp2_with fail
  rw [← HX.out]
  refine (IH _ _ _ _ _ _ _ _ _ _ _ _ _ _ _ _ _ _ (by omega) hs1 (by omega) hs3 HM.out HV.out hc).mono ?_
  rintro e w1 ⟨ao2, len2, cap2, rfl, hb1, ho⟩
  rw [HR.out] at *
  have y := (hb1.block (w.heap.size + 1) (by omega)).trans hX1
  obtain ⟨y0, y1, y2⟩ := box_cells y
  have y3 := row_free y
  have hbw : Below w.heap.size w w1 := hXb.trans (hb1.mono (by omega))
  clear y hX1
  go_wp2_with fail
  refine bodyPost_ret (v := .agg #[.int .i64 R.K, .int .i64 R.N, .slice ao2 len2 cap2]) (by simp [results, Try.results110, go_sem, y0, y1, y2]) rfl ⟨ao2, len2, cap2, rfl, ?_, ?_⟩
  · exact set3_below hbw (by omega)
  · refine ho.keep (fun j hj _ => ?_) (by omega) (by simp)
    rw [row_other _ _ _ (by omega), row_other _ _ _ (by omega), row_other _ _ _ (by omega)]

set_option maxHeartbeats 1000000 in
theorem put_succ (l : Nat) (IH : SaidPut l) : SaidPut (l + 1) := by
  intro d d2 L B L2 B2 k n ao len cap ts sao slen scap σ m w hB hs hB2 hs2 hm hv hc
  obtain ⟨hok, hparts⟩ := nodesW_inv hm
  have hlen : len = ts.length := hs.len.1
  have hlen2 : len ≤ 2 := by rw [hlen]; exact nodeOk_len hok
  have hv0 := var0_of hok
  obtain ⟨X, hX⟩ : ∃ X, X = (((w.alloc (.cells #[.int .i64 k, .int .i64 n, .slice ao len cap] 32)).alloc (.cells #[.slice sao slen scap] 30)).alloc (.cells #[.int .i64 0, .int .i64 0, .slice none 0 0] 32)) := ⟨_, rfl⟩
  have hXs : X.heap.size = w.heap.size + 3 := by rw [hX]; simp
  have hXb : Below w.heap.size w X := by rw [hX]; exact (((Below.refl _ _).alloc (Nat.le_refl _) _).alloc (by simp) _).alloc (by simp; omega) _
  have hX0 : X.heap[w.heap.size]? = some (.cells #[.int .i64 k, .int .i64 n, .slice ao len cap] 32 (0, 0)) := by rw [hX, Below.heap_alloc _ _ _ (by simp only [World.size_alloc]; omega), Below.heap_alloc _ _ _ (by simp only [World.size_alloc]; omega)]; exact heap_new rfl
  have hX1 : X.heap[w.heap.size + 1]? = some (.cells #[.slice sao slen scap] 30 (0, 0)) := by rw [hX, Below.heap_alloc _ _ _ (by simp)]; exact heap_new (by simp)
  have hX2 : X.heap[w.heap.size + 1 + 1]? = some (.cells #[.int .i64 0, .int .i64 0, .slice none 0 0] 32 (0, 0)) := by rw [hX]; exact heap_new (by simp)
  have hs1 := hs.below hXb hB
  have hs3 := hs2.below hXb hB2
  have HX : Hid (X = _) := hX
  clear hX
  by_cases hk : k = 3
  · have hk3 : (k == 3) = true := by simp [hk]
    have hn := hv0 hk
    have hroot := vars_root (l := l) (k := k) (n := n) (ts := ts)
    have hvr : var0 k n = (n + 1).toNat := by simp [var0, hk]
    have hns : n.toNat < slen := by omega
    have hσ : slen = σ.length := hs2.len.1
    obtain ⟨b, o, hsao, _, hbB, ao1, len1, cap1, c0, c1, c2, hs4⟩ := hs2.get n.toNat (by omega)
    subst hsao
    have hput : putW σ (l + 1) ⟨k, n, ts⟩ = σ[n.toNat]'(by omega) := by
      simp only [putW]
      rw [if_pos hk]
      simp [List.getD, List.getElem?_eq_getElem (show n.toNat < σ.length by omega)]
    rw [hput]
    have hs5 := hs4.below hXb hB2
    have hcn := cntS_get σ n.toNat (by omega)
    have hbw : b < w.heap.size := by omega
    have hn0 := hn.1
    have hn1 : n < slen := by omega
    obtain ⟨t, ht⟩ : ∃ t, t = σ[n.toNat]'(by omega) := ⟨_, rfl⟩
    rw [← ht] at c0 c1 hs5 hcn ⊢
    have e0 := (bcell hXb hbw _).trans c0
    have e1 := (bcell hXb hbw _).trans c1
    have e2 := (bcell hXb hbw _).trans c2
    rw [HX.out] at e0 e1 e2
    have HK : Hid (k = 3) := hk
    clear hput hvr hroot hn hv0 hk hm hparts hok hv hs4 hX0 ht hlen c0 c1 c2 hσ
    go_enter Try.func70, Try.ntmps70
    go_wp2_with fail
    rw [← HX.out]
    refine (copy_any _ _ _ _ _ _ _ _ _ _ (by omega) hs5 (by omega)).mono ?_
    rintro e w1 ⟨ao2, len2, cap2, rfl, hb1, ho⟩
    have y := (hb1.block (w.heap.size + 1 + 1) (by omega)).trans hX2
    obtain ⟨y0, y1, y2⟩ := box_cells y
    have y3 := row_free y
    have hbel : Below w.heap.size w w1 := hXb.trans (hb1.mono (by omega))
    clear y hX2 hX1 e0 e1 e2
    go_wp2_with fail
    refine bodyPost_ret (v := .agg #[.int .i64 t.K, .int .i64 t.N, .slice ao2 len2 cap2]) (by simp [results, Try.results70, go_sem, y0, y1, y2]) rfl ⟨ao2, len2, cap2, rfl, ?_, ?_⟩
    · exact set3_below hbel (by omega)
    · refine (ho.keep (fun j hj _ => ?_) (by omega) (by simp)).deeper (by omega)
      rw [row_other _ _ _ (by omega), row_other _ _ _ (by omega), row_other _ _ _ (by omega)]
  · have hk3 : (k == 3) = false := by simp [hk]
    have hput : putW σ (l + 1) ⟨k, n, ts⟩ = ⟨k, n, ts.map (putW σ l)⟩ := by simp only [putW]; rw [if_neg hk]
    rw [hput]
    have HP : Hid (∀ j (hj : j < ts.length), ∃ a, nodesW l ts[j] = some a) := hparts
    have HV : Hid (∀ j (hj : j < ts.length), varsW l ts[j] ≤ slen) := fun j hj => Nat.le_trans (vars_part hj) hv
    have hs1d := (hs1.deeper (show d ≤ d + 1 by omega)).drew
    have hcall : MapCall1 (w.heap.size + 1) X.drew L B d (l + d2) ts (ts.map (putW σ l)) := by
      intro i hi hr ao1 len1 cap1 w' hb' hs'
      obtain ⟨a, ha⟩ := HP.out i hi
      have hz := hb'.size
      have hz' : X.heap.size ≤ w'.heap.size := hz
      have := put_closure l IH d d2 L B L2 B2 (w.heap.size + 1) ts[i].K ts[i].N ao1 len1 cap1 ts[i].A sao slen scap σ a w' (by omega) hs' (by omega) (hs3.drew.below hb' (show B2 ≤ X.heap.size by omega)) (by rw [tr_eta]; exact ha) (by rw [tr_eta]; exact HV.out i hi) hc ((hb'.block (w.heap.size + 1) (show w.heap.size + 1 < X.heap.size by omega)).trans hX1)
      rw [tr_eta] at this
      have e : (ts.map (putW σ l))[i] = putW σ l ts[i] := by simp
      rw [e]
      exact this
    have HC : Hid (MapCall1 (w.heap.size + 1) X.drew L B d (l + d2) ts (ts.map (putW σ l))) := hcall
    obtain ⟨p0, p1, p2⟩ := box_cells hX0
    clear hput hv0 hk hm hparts hok hv hcall hX0 hlen
    go_enter Try.func70, Try.ntmps70
    go_wp2_with fail
    rw [← HX.out]
    go_region_held3 (fun w' => w'.cell? ⟨w.heap.size, 0, none⟩ = some (.int .i64 k) ∧ w'.cell? ⟨w.heap.size, 1, none⟩ = some (.int .i64 n) ∧ w'.cell? ⟨w.heap.size, 2, none⟩ = some (.slice ao len cap)) (first | (refine ⟨?_, ?_, ?_⟩; exact p0; exact p1; exact p2) | (refine ⟨?_, ?_, ?_⟩; exact z0; exact z1; exact z2) | (refine ⟨?_, ?_, ?_⟩ <;> simp [World.cell?_setCell_other, z0, z1, z2])) ((go_at_call 111; refine (mapTys1_any _ L B d (l + d2) _ _ _ ts (ts.map (putW σ l)) _ ?_ hs1d (by omega) (by simp) HC.out).mono ?_; (show B ≤ X.heap.size; omega); rintro e w1 ⟨ao2, cap2, rfl, hb1, ho⟩; have z0 := (bcell hb1 (show w.heap.size < X.heap.size by omega) 0).trans p0; have z1 := (bcell hb1 (show w.heap.size < X.heap.size by omega) 1).trans p1; have z2 := (bcell hb1 (show w.heap.size < X.heap.size by omega) 2).trans p2; obtain ⟨y0, y1, y2⟩ := box_cells ((hb1.block (w.heap.size + 1 + 1) (show w.heap.size + 1 + 1 < X.heap.size by omega)).trans hX2); have y3 := row_free ((hb1.block (w.heap.size + 1 + 1) (show w.heap.size + 1 + 1 < X.heap.size by omega)).trans hX2)))
    all_goals
      have hbw : Below w.heap.size w w1 := hXb.drew.trans (hb1.mono (show w.heap.size ≤ X.heap.size by omega))
      go_wp2_with fail
      refine bodyPost_ret (v := .agg #[.int .i64 k, .int .i64 n, .slice ao2 len cap2]) (by simp [results, Try.results70, go_sem, y0, y1, y2]) rfl ⟨ao2, len, cap2, rfl, ?_, ?_⟩
      · exact set3_below hbw (by omega)
      · refine (ho.keep (fun j hj _ => ?_) (show w.heap.size ≤ X.heap.size by omega) (by simp)).deeper (by omega)
        have hj' : X.heap.size ≤ j := hj
        rw [row_other _ _ _ (by omega), row_other _ _ _ (by omega), row_other _ _ _ (by omega)]

theorem put_any : ∀ l, SaidPut l := by
  intro l
  induction l with
  | zero => intro d d2 L B L2 B2 k n ao len cap ts sao slen scap σ m w hB hs hB2 hs2 hm; simp [nodesW] at hm
  | succ l ih => exact put_succ l ih

end Go.Proofs.Ytikfbgkjgbdoiaa
