/-
  What 'varsWithin', 'VarsOf', 'Ground' of the program, and 'l1Vars', 'VarsOf', 'Ground' of the model come to.
-/
import Derived.Test.YtngmplcjhbaopaaVr00
import Derived.Test.YtngmplcjhbaopaaSp0
namespace Go.Proofs.Ytngmplcjhbaopaa
open Go.RowKit
set_option linter.unusedVariables false
set_option linter.unusedSimpArgs false

def var0 (k n : Int) : Nat := if k = 3 then (n + 1).toNat else 0
def varsW : Nat → Tr → Nat
  | 0, _ => 0
  | l + 1, t => (t.A.map (varsW l)).foldl max (var0 t.K t.N)

/-- .. over the first j parts. -/
def varsTo (l : Nat) (k n : Int) (ts : List Tr) (j : Nat) : Nat := ((ts.take j).map (varsW l)).foldl max (var0 k n)
theorem varsTo_zero (l : Nat) (k n : Int) (ts : List Tr) : varsTo l k n ts 0 = var0 k n := by simp [varsTo]
theorem varsTo_succ (l : Nat) (k n : Int) (ts : List Tr) (j : Nat) (h : j < ts.length) : varsTo l k n ts (j + 1) = max (varsTo l k n ts j) (varsW l ts[j]) := by
  unfold varsTo
  rw [List.take_succ_eq_append_getElem h, List.map_append, List.foldl_append]
  rfl
theorem varsTo_all (l : Nat) (k n : Int) (ts : List Tr) (j : Nat) (h : ts.length ≤ j) : varsTo l k n ts j = varsW (l + 1) ⟨k, n, ts⟩ := by
  unfold varsTo
  rw [List.take_of_length_le h]
  rfl

theorem var0_of {k n : Int} {len : Nat} (h : nodeOk k n len = true) : (k = 3 → 0 ≤ n ∧ n ≤ 1) := by
  intro hk
  obtain ⟨h1, h2⟩ := nodeOk_parts h
  rcases h2 with ⟨_, h2⟩ | ⟨h2, _⟩
  · unfold in01 at h2; simpa using h2
  · exact absurd hk h2

def SaidVW (f l : Nat) : Prop := ∀ (d L B : Nat) (k n : Int) (ao : Option Addr) (len cap : Nat) (ts : List Tr) (m : Nat) (w : World), B ≤ w.heap.size → Hs L B w d ao len ts → nodesW l ⟨k, n, ts⟩ = some m →
    Calls Try.prog f #[.agg #[.int .i64 k, .int .i64 n, .slice ao len cap]] w fun e w' => e = .returned (.int .i64 (varsW l ⟨k, n, ts⟩)) ∧ Below w.heap.size w w'

theorem vw_zero (f : Nat) : SaidVW f 0 := by
  intro d L B k n ao len cap ts m w hB hs hm
  simp [nodesW] at hm

set_option maxHeartbeats 800000 in
theorem vw_succ (l : Nat) (IH : SaidVW 30 l) : SaidVW 30 (l + 1) := by
  intro d L B k n ao len cap ts m w hB hs hm
  have hl := hs.len.2
  have HL : Hid (len = ts.length) := hs.len.1
  obtain ⟨hok, hparts⟩ := nodesW_inv hm
  have hv0 := var0_of hok
  clear hm
  obtain ⟨X, hX⟩ : ∃ X, X = w.alloc (.cells #[.int .i64 k, .int .i64 n, .slice ao len cap] 32) := ⟨_, rfl⟩
  have hXs : X.heap.size = w.heap.size + 1 := by rw [hX]; simp
  have hXb : Below w.heap.size w X := by rw [hX]; exact (Below.refl _ _).alloc (Nat.le_refl _) _
  have HX : Hid (X = _) := hX
  clear hX
  have HP : Hid (∀ j (hj : j < ts.length), ∃ a, nodesW l ts[j] = some a) := hparts
  clear hparts hok
  have HB : ∃ (b1 : Bool), (k == 3) = b1 ∧ (b1 = true → 0 ≤ n ∧ n ≤ 1 ∧ var0 k n = (n + 1).toNat) ∧ (b1 = false → var0 k n = 0) := by
    by_cases hk : k = 3
    · exact ⟨true, by simp [hk], fun _ => ⟨(hv0 hk).1, (hv0 hk).2, by simp [var0, hk]⟩, by simp⟩
    · exact ⟨false, by simp [hk], by simp, fun _ => by simp [var0, hk]⟩
  clear hv0
  obtain ⟨b1, hk3, hv1, hv2⟩ := HB
  cases b1
  case' false => (have HV : Hid (var0 k n = 0) := hv2 rfl; clear hv1 hv2)
  case' true => (obtain ⟨hn0, hn1, hv⟩ := hv1 rfl; have HV : Hid (var0 k n = (n + 1).toNat) := hv; clear hv1 hv2 hv)
  all_goals
    go_enter Try.func30, Try.ntmps30
    go_wp2_with fail
    rw [← HX.out]
    go_loopw [3, 15] (fun v i wr => ∃ j : Nat, j ≤ len ∧ i = .int .i64 j ∧ v = .int .i64 (varsTo l k n ts j) ∧ Below X.heap.size X wr) (fun _ i _ => len - (intOf i).toNat)
    case atStart => exact ⟨0, by omega, rfl, by rw [varsTo_zero, HV.out]; go_num, Below.refl _ _⟩
    case round =>
      obtain ⟨j, hj, rfl, rfl, hbr⟩ := hrel
      have hszr := hbr.size
      by_cases hlt : j < len
      · have hlt' : j < ts.length := by have := HL.out; omega
        obtain ⟨b, o, rfl, _, hbB, ao1, len1, cap1, c0, c1, c2, hs1⟩ := hs.get j hlt'
        have hbw : Below w.heap.size w wr := hXb.trans (hbr.mono (by omega))
        have e0 := (bcell hbw (by omega) _).trans c0
        have e1 := (bcell hbw (by omega) _).trans c1
        have e2 := (bcell hbw (by omega) _).trans c2
        have hba : Below w.heap.size w (wr.alloc (.cells #[.int .i64 ts[j].K, .int .i64 ts[j].N, .slice ao1 len1 cap1] 32)) := hbw.alloc (by omega) _
        have hs2 := hs1.below hba hB
        obtain ⟨a, ha⟩ := HP.out j hlt'
        have HA : Hid (nodesW l ⟨ts[j].K, ts[j].N, ts[j].A⟩ = some a) := by show _ = _; rw [tr_eta]; exact ha
        have HS : Hid (varsTo l k n ts (j + 1) = max (varsTo l k n ts j) (varsW l ts[j])) := varsTo_succ l k n ts j hlt'
        clear ha
        go_wp2_with fail
        refine (IH _ _ _ _ _ _ _ _ _ _ _ (by simp; omega) hs2 HA.out).mono ?_
        rintro e w2 ⟨rfl, hb2⟩
        rw [tr_eta]
        have hbr2 : Below X.heap.size X w2 := (hbr.alloc (by omega) _).trans (hb2.mono (by simp; omega))
        go_wp2_with fail
        all_goals
          go_roundw
          case rel => exact ⟨j + 1, by omega, by go_num, by rw [HS.out]; first | go_num | (congr 1; omega), hbr2⟩
          case measure => simp [intOf]; omega
      · have HK2 : Hid (varsTo l k n ts j = varsW (l + 1) ⟨k, n, ts⟩) := varsTo_all l k n ts j (by have := HL.out; omega)
        go_wp2_with fail
        go_ret
        exact ⟨ret_int (by rw [HK2.out]), hXb.trans (hbr.mono (by omega))⟩

theorem vw_any (l : Nat) : SaidVW 30 l := by
  induction l with
  | zero => exact vw_zero _
  | succ l ih => exact vw_succ l ih
def varsT (t : Tr) : Nat := if okT t = true then varsW 6 t else 0
def groundT (t : Tr) : Bool := okT t && decide (varsT t = 0)

theorem okT_some {t : Tr} (h : okT t = true) : ∃ m, nodesW 6 t = some m := by
  cases hm : nodesW 6 t with
  | some m => exact ⟨m, rfl⟩
  | none => simp [okT, nodesT, hm] at h

set_option maxHeartbeats 400000 in
theorem varsOf_any (d L B : Nat) (k n : Int) (ao : Option Addr) (len cap : Nat) (ts : List Tr) (w : World) (hB : B ≤ w.heap.size) (hs : Hs L B w d ao len ts) :
    Calls Try.prog 26 #[.agg #[.int .i64 k, .int .i64 n, .slice ao len cap]] w fun e w' => e = .returned (.int .i64 (varsT ⟨k, n, ts⟩)) ∧ Below w.heap.size w w' := by
  have hbel : Below w.heap.size w (w.alloc (.cells #[.int .i64 k, .int .i64 n, .slice ao len cap] 32)) := (Below.refl _ _).alloc (Nat.le_refl _) _
  have hs1 := hs.below hbel hB
  cases hf : okT ⟨k, n, ts⟩ with
  | false =>
    have HN : Hid (varsT ⟨k, n, ts⟩ = 0) := by show _ = _; simp [varsT, hf]
    have HF : Hid (okT ⟨k, n, ts⟩ = false) := hf
    clear hf
    go_enter Try.func26, Try.ntmps26
    go_wp2_with fail
    refine (tyOk_any _ _ _ _ _ _ _ _ _ _ (by simp; omega) hs1).mono ?_
    rintro e w2 ⟨rfl, hb2⟩
    rw [HF.out]
    go_wp2_with fail
    go_ret
    rw [HN.out]
    exact ⟨rfl, hbel.trans (hb2.mono (by simp))⟩
  | true =>
    have HN : Hid (varsT ⟨k, n, ts⟩ = varsW 6 ⟨k, n, ts⟩) := by show _ = _; simp [varsT, hf]
    obtain ⟨m, hm⟩ := okT_some hf
    have HM : Hid (_ = _) := hm
    have HF : Hid (okT ⟨k, n, ts⟩ = true) := hf
    clear hf hm
    go_enter Try.func26, Try.ntmps26
    go_wp2_with fail
    refine (tyOk_any _ _ _ _ _ _ _ _ _ _ (by simp; omega) hs1).mono ?_
    rintro e w2 ⟨rfl, hb2⟩
    rw [HF.out]
    have hz2 := hb2.size
    simp only [World.size_alloc] at hz2
    obtain ⟨x0, x1, x2⟩ := box_cells ((hb2.block w.heap.size (by simp)).trans (heap_new rfl))
    have hs2 := hs1.below hb2 (by simp; omega)
    go_wp2_with fail
    refine (vw_any 6 _ _ _ _ _ _ _ _ _ _ _ (by omega) hs2 HM.out).mono ?_
    rintro e w3 ⟨rfl, hb3⟩
    go_wp2_with fail
    go_ret
    rw [HN.out]
    exact ⟨rfl, (hbel.trans (hb2.mono (by simp))).trans (hb3.mono (by omega))⟩

end Go.Proofs.Ytngmplcjhbaopaa
