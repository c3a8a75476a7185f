/-
  What 'varsWithin', 'VarsOf', 'Ground' of the program, and 'l1Vars', 'VarsOf', 'Ground' of the model come to.
-/
import Derived.Test.YtngmplcjhbaopaaVr0
import Derived.Test.YtngmplcjhbaopaaSp0
namespace Go.Proofs.Ytngmplcjhbaopaa
open Go.RowKit
set_option linter.unusedVariables false
set_option linter.unusedSimpArgs false

set_option maxHeartbeats 800000 in
theorem lv_succ (l : Nat) (IH : SaidVW 23 l) : SaidVW 23 (l + 1) := by
  intro d L B k n ao len cap ts m w hB hs hm
  have hl := hs.len.2
  have HL : Hid (len = ts.length) := hs.len.1
  obtain ⟨hok, hparts⟩ := nodesW_inv hm
  have hv0 := var0_of hok
  clear hm
  obtain ⟨X, hX⟩ : ∃ X, X = w.alloc (.cells #[.int .i64 k, .int .i64 n, .slice ao len cap] 32) := ⟨_, rfl⟩
  have hXs : X.heap.size = w.heap.size + 1 := by rw [hX]; simp
  have hXb : Below w.heap.size w X := by rw [hX]; exact (Below.refl _ _).alloc (Nat.le_refl _) _
  have hX1 : X.heap[w.heap.size]? = some (.cells #[.int .i64 k, .int .i64 n, .slice ao len cap] 32 (0, 0)) := by rw [hX]; exact heap_new rfl
  have HX : Hid (X = _) := hX
  have HX1 : Hid (_ = _) := hX1
  clear hX hX1
  have HP : Hid (∀ j (hj : j < ts.length), ∃ a, nodesW l ts[j] = some a) := hparts
  clear hparts hok
  have HB : ∃ (b1 : Bool), (k == 3) = b1 ∧ (b1 = true → 0 ≤ n ∧ n ≤ 1 ∧ var0 k n = (n + 1).toNat) ∧ (b1 = false → var0 k n = 0) := by
    by_cases hk : k = 3
    · exact ⟨true, by simp [hk], fun _ => ⟨(hv0 hk).1, (hv0 hk).2, by simp [var0, hk]⟩, by simp⟩
    · exact ⟨false, by simp [hk], by simp, fun _ => by simp [var0, hk]⟩
  clear hv0
  obtain ⟨b1, hk3, hv1, hv2⟩ := HB
  cases b1
  case' false => (have HV : Hid (var0 k n = 0) := hv2 rfl; clear hv1 hv2)
  case' true => (obtain ⟨hn0, hn1, hv⟩ := hv1 rfl; have HV : Hid (var0 k n = (n + 1).toNat) := hv; clear hv1 hv2 hv)
  all_goals
    go_enter Try.func23, Try.ntmps23
    go_wp2_with fail
    rw [← HX.out]
    go_loopw [3, 4] (fun v i wr => ∃ j : Nat, j ≤ len ∧ i = .int .i64 j ∧ v = .int .i64 (varsTo l k n ts j) ∧ Below X.heap.size X wr) (fun _ i _ => len - (intOf i).toNat)
    case atStart => exact ⟨0, by omega, rfl, by rw [varsTo_zero, HV.out]; go_num, Below.refl _ _⟩
    case round =>
      obtain ⟨j, hj, rfl, rfl, hbr⟩ := hrel
      have hszr := hbr.size
      obtain ⟨x0, x1, x2⟩ := box_cells ((hbr.block w.heap.size (by omega)).trans HX1.out)
      clear x0 x1
      by_cases hlt : j < len
      · have hlt' : j < ts.length := by have := HL.out; omega
        obtain ⟨b, o, rfl, _, hbB, ao1, len1, cap1, c0, c1, c2, hs1⟩ := hs.get j hlt'
        have hbw : Below w.heap.size w wr := hXb.trans (hbr.mono (by omega))
        have e0 := (bcell hbw (by omega) _).trans c0
        have e1 := (bcell hbw (by omega) _).trans c1
        have e2 := (bcell hbw (by omega) _).trans c2
        have hs2 := hs1.below hbw hB
        obtain ⟨a, ha⟩ := HP.out j hlt'
        have HA : Hid (nodesW l ⟨ts[j].K, ts[j].N, ts[j].A⟩ = some a) := by show _ = _; rw [tr_eta]; exact ha
        have HS : Hid (varsTo l k n ts (j + 1) = max (varsTo l k n ts j) (varsW l ts[j])) := varsTo_succ l k n ts j hlt'
        clear ha
        go_wp2_with fail
        refine (IH _ _ _ _ _ _ _ _ _ _ _ (by omega) hs2 HA.out).mono ?_
        rintro e w2 ⟨rfl, hb2⟩
        rw [tr_eta]
        have hbr2 : Below X.heap.size X w2 := hbr.trans (hb2.mono (by omega))
        go_wp2_with fail
        all_goals
          go_roundw
          case rel => exact ⟨j + 1, by omega, by go_num, by rw [HS.out]; first | go_num | (congr 1; omega), hbr2⟩
          case measure => simp [intOf]; omega
      · have HK2 : Hid (varsTo l k n ts j = varsW (l + 1) ⟨k, n, ts⟩) := varsTo_all l k n ts j (by have := HL.out; omega)
        go_wp2_with fail
        go_ret
        exact ⟨ret_int (by rw [HK2.out]), hXb.trans (hbr.mono (by omega))⟩

theorem lv_any (l : Nat) : SaidVW 23 l := by
  induction l with
  | zero => exact vw_zero _
  | succ l ih => exact lv_succ l ih

end Go.Proofs.Ytngmplcjhbaopaa
