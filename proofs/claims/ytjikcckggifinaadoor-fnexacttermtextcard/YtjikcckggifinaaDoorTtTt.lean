/-
  What the program's 'tyTokens' comes to: the tokens of a type that is right, behind those that are there.
-/
import Derived.Test.YtjikcckggifinaaDoorTtZ5
import Derived.Test.YtjikcckggifinaaDoorTtZ9
import Derived.Test.YtjikcckggifinaaDoorTtSpl0
namespace Go.Proofs.YtjikcckggifinaaDoor
open Go.RowKit
set_option linter.unusedVariables false
set_option linter.unusedSimpArgs false

/-- Behind P the tokens of a type: what lies below 'base' is as it was. -/
def SaidTT (l : Nat) : Prop := ∀ (d L B base : Nat) (v : Value) (P : List (List UInt8)) (k n : Int) (ao : Option Addr) (len cap : Nat) (ts : List Tr) (m : Nat) (w : World), B ≤ base → base ≤ w.heap.size → Hs L B w d ao len ts → nodesW l ⟨k, n, ts⟩ = some m → Toks base w v P → P.length + m ≤ 1048576 →
    Calls Tryd.prog 36 #[v, .agg #[.int .i64 k, .int .i64 n, .slice ao len cap]] w fun e w' => ∃ v' : Value, e = .returned v' ∧ Below base w w' ∧ Toks base w' v' (P ++ toksW l ⟨k, n, ts⟩)

theorem tt_zero : SaidTT 0 := by
  intro d L B base v P k n ao len cap ts m w hB hb hs hm
  simp [nodesW] at hm

theorem kn_cases {k n : Int} {len : Nat} (h : nodeOk k n len = true) : k = 1 ∨ k = 2 ∨ (k = 3 ∧ n = 0) ∨ (k = 3 ∧ n = 1) ∨ k = 4 ∨ k = 5 ∨ k = 6 := by
  obtain ⟨h1, h2⟩ := nodeOk_parts h
  have hp : parts k ≠ -1 := by omega
  unfold parts at hp
  unfold in01 at h2
  simp only [decide_eq_true_eq] at h2
  (repeat' split at hp) <;> omega

set_option maxRecDepth 100000 in
set_option maxHeartbeats 2000000 in
theorem tt_succ (l : Nat) (IH : SaidTT l) : SaidTT (l + 1) := by
  intro d L B base v P k n ao len cap ts m w hB hb hs hm hT hP
  have hl := hs.len.2
  have HL : Hid (len = ts.length) := hs.len.1
  obtain ⟨hok, hparts⟩ := nodesW_inv hm
  have hm1 : 1 ≤ m := nodesW_pos _ _ _ hm
  obtain ⟨ao', cap', rfl⟩ := toks_form1 hT
  have HM : Hid (∀ j (hj : j < ts.length), (toksTo l k n ts j).length + (toksW l ts[j]).length ≤ m) := fun j hj => toksTo_len hm j hj
  have HN : Hid (∀ j (hj : j < ts.length), ∃ a, nodesW l ts[j] = some a) := hparts
  obtain ⟨X, hX⟩ : ∃ X, X = w.alloc (.cells #[.int .i64 k, .int .i64 n, .slice ao len cap] 32) := ⟨_, rfl⟩
  have hXs : X.heap.size = w.heap.size + 1 := by rw [hX]; simp
  have hXb : Below w.heap.size w X := by rw [hX]; exact (Below.refl _ _).alloc (Nat.le_refl _) _
  have hXT := toks_below hT hXb
  obtain ⟨g, cap2, w2, hrun, hT2, hb2, hkp⟩ := toks_push2 hXT (by omega) (by omega) (tokOf k n)
  have hbw2 : Below base w w2 := (hXb.mono hb).trans hb2
  have HX : Hid (X = _) := hX
  have hcX : X.heap[w.heap.size]? = some (.cells #[.int .i64 k, .int .i64 n, .slice ao len cap] 32 (0, 0)) := by rw [hX]; exact heap_new rfl
  have hc2 := (hkp w.heap.size (by omega) (toks_own1 hT)).trans hcX
  have hz2 := hb2.size
  have HK := kn_cases hok
  obtain ⟨x0, x1, x2⟩ := box_cells hcX
  obtain ⟨c0, c1, c2⟩ := box_cells hc2
  have HT2 : Hid (Toks base w2 (.slice (some ⟨g, 0, none⟩) (P.length + 1) cap2) (P ++ toksTo l k n ts 0)) := by show Toks _ _ _ _; rw [toksTo_zero]; exact hT2
  have HXS : Hid (X.heap.size = w.heap.size + 1) := hXs
  clear hX hparts hok hkp hcX hc2 hT hXT hm hT2 hXs hXb hb2 x1
  rcases HK with rfl | rfl | ⟨rfl, rfl⟩ | ⟨rfl, rfl⟩ | rfl | rfl | rfl
  · have HR : Hid ((Builtin.append_ #[47, 47] 47 #[.slice ao' P.length cap', .slice (some ⟨w.heap.size + 1, 0, none⟩) 1 1]).run Tryd.prog ((w.alloc (.cells #[.int .i64 1, .int .i64 n, .slice ao len cap] 32)).alloc (.cells #[.string ⟨#[105]⟩] 9)) = .ok (.slice (some ⟨g, 0, none⟩) (P.length + 1) cap2) w2) := by
      show _ = _
      rw [← HXS.out, ← HX.out]
      exact hrun
    clear hrun
    go_enter Tryd.func36, Tryd.ntmps36
    go_wp2_with (first | (at_builtin; refine list_run HR.out (by rfl) _ _ (by rfl) (by rfl) (by rfl) (by rfl) ?_))
    go_loopw [0, 46] (fun v i wr => ∃ (j : Nat), j ≤ len ∧ i = .int .i64 j ∧ Toks base wr v (P ++ toksTo l 1 n ts j) ∧ Below base w wr) (fun _ i _ => len - (intOf i).toNat)
    case atStart => exact ⟨0, by omega, rfl, HT2.out, hbw2⟩
    case round =>
      obtain ⟨j, hj, rfl, hTr, hbr⟩ := hrel
      have hszr := hbr.size
      by_cases hlt : j < len
      · have hlt' : j < ts.length := by have := HL.out; omega
        obtain ⟨b, o, rfl, _, hbB, ao1, len1, cap1, e0, e1, e2, hs1⟩ := hs.get j hlt'
        have y0 := (hbr.cell (p := ⟨b, o + j * 3, none⟩) (by show b < base; omega)).trans e0
        have y1 := (hbr.cell (p := ⟨b, o + j * 3 + 1, none⟩) (by show b < base; omega)).trans e1
        have y2 := (hbr.cell (p := ⟨b, o + j * 3 + 2, none⟩) (by show b < base; omega)).trans e2
        clear e0 e1 e2
        obtain ⟨a, ha⟩ := HN.out j hlt'
        have HA : Hid (nodesW l ⟨ts[j].K, ts[j].N, ts[j].A⟩ = some a) := by show _ = _; rw [tr_eta]; exact ha
        have HS : Hid (toksTo l 1 n ts (j + 1) = toksTo l 1 n ts j ++ toksW l ts[j]) := toksTo_succ l 1 n ts j hlt'
        have HPL : Hid ((P ++ toksTo l 1 n ts j).length + a ≤ 1048576) := by
          have h1 := HM.out j hlt'
          have h2 := toks_len _ _ _ ha
          show _ ≤ _
          rw [List.length_append]
          omega
        clear ha
        have hA : Below wr.heap.size wr (wr.alloc (.cells #[.int .i64 ts[j].K, .int .i64 ts[j].N, .slice ao1 len1 cap1] 32)) := (Below.refl _ _).alloc (Nat.le_refl _) _
        have hbA : Below base w (wr.alloc (.cells #[.int .i64 ts[j].K, .int .i64 ts[j].N, .slice ao1 len1 cap1] 32)) := hbr.trans (hA.mono (by omega))
        have hs2 : Hs L B (wr.alloc (.cells #[.int .i64 ts[j].K, .int .i64 ts[j].N, .slice ao1 len1 cap1] 32)) (d - 1) ao1 len1 ts[j].A := hs1.keep (fun q _ hq => hbA.block q (by omega)) (Nat.le_refl _) (Nat.le_refl _)
        have hT3 := toks_below hTr hA
        go_wp2_with fail
        refine (IH (d - 1) L B base _ _ _ _ _ _ _ _ a _ hB (by simp; omega) hs2 HA.out hT3 HPL.out).mono ?_
        rintro e w5 ⟨v5, rfl, hb5, hT5⟩
        rw [tr_eta] at hT5
        have hT6 : Hid (Toks base w5 v5 (P ++ toksTo l 1 n ts (j + 1))) := by show Toks _ _ _ _; rw [HS.out, ← List.append_assoc]; exact hT5
        have hb6 : Below base w w5 := hbA.trans hb5
        clear hT5 hb5 hT3 hs2 hA hbA y0 y1 y2
        go_wp2_with fail
        go_roundw
        case rel => exact ⟨j + 1, by omega, by go_num, hT6.out, hb6⟩
        case measure => simp [intOf]; omega
      · have HE : Hid (toksTo l 1 n ts j = toksW (l + 1) ⟨1, n, ts⟩) := toksTo_all l _ _ ts j (by have := HL.out; omega)
        go_wp2_with fail
        go_ret
        exact ⟨_, rfl, hbr, by rw [← HE.out]; exact hTr⟩
  · have HR : Hid ((Builtin.append_ #[47, 47] 47 #[.slice ao' P.length cap', .slice (some ⟨w.heap.size + 1, 0, none⟩) 1 1]).run Tryd.prog ((w.alloc (.cells #[.int .i64 2, .int .i64 n, .slice ao len cap] 32)).alloc (.cells #[.string ⟨#[98]⟩] 9)) = .ok (.slice (some ⟨g, 0, none⟩) (P.length + 1) cap2) w2) := by
      show _ = _
      rw [← HXS.out, ← HX.out]
      exact hrun
    clear hrun
    go_enter Tryd.func36, Tryd.ntmps36
    go_wp2_with (first | (at_builtin; refine list_run HR.out (by rfl) _ _ (by rfl) (by rfl) (by rfl) (by rfl) ?_))
    go_loopw [0, 46] (fun v i wr => ∃ (j : Nat), j ≤ len ∧ i = .int .i64 j ∧ Toks base wr v (P ++ toksTo l 2 n ts j) ∧ Below base w wr) (fun _ i _ => len - (intOf i).toNat)
    case atStart => exact ⟨0, by omega, rfl, HT2.out, hbw2⟩
    case round =>
      obtain ⟨j, hj, rfl, hTr, hbr⟩ := hrel
      have hszr := hbr.size
      by_cases hlt : j < len
      · have hlt' : j < ts.length := by have := HL.out; omega
        obtain ⟨b, o, rfl, _, hbB, ao1, len1, cap1, e0, e1, e2, hs1⟩ := hs.get j hlt'
        have y0 := (hbr.cell (p := ⟨b, o + j * 3, none⟩) (by show b < base; omega)).trans e0
        have y1 := (hbr.cell (p := ⟨b, o + j * 3 + 1, none⟩) (by show b < base; omega)).trans e1
        have y2 := (hbr.cell (p := ⟨b, o + j * 3 + 2, none⟩) (by show b < base; omega)).trans e2
        clear e0 e1 e2
        obtain ⟨a, ha⟩ := HN.out j hlt'
        have HA : Hid (nodesW l ⟨ts[j].K, ts[j].N, ts[j].A⟩ = some a) := by show _ = _; rw [tr_eta]; exact ha
        have HS : Hid (toksTo l 2 n ts (j + 1) = toksTo l 2 n ts j ++ toksW l ts[j]) := toksTo_succ l 2 n ts j hlt'
        have HPL : Hid ((P ++ toksTo l 2 n ts j).length + a ≤ 1048576) := by
          have h1 := HM.out j hlt'
          have h2 := toks_len _ _ _ ha
          show _ ≤ _
          rw [List.length_append]
          omega
        clear ha
        have hA : Below wr.heap.size wr (wr.alloc (.cells #[.int .i64 ts[j].K, .int .i64 ts[j].N, .slice ao1 len1 cap1] 32)) := (Below.refl _ _).alloc (Nat.le_refl _) _
        have hbA : Below base w (wr.alloc (.cells #[.int .i64 ts[j].K, .int .i64 ts[j].N, .slice ao1 len1 cap1] 32)) := hbr.trans (hA.mono (by omega))
        have hs2 : Hs L B (wr.alloc (.cells #[.int .i64 ts[j].K, .int .i64 ts[j].N, .slice ao1 len1 cap1] 32)) (d - 1) ao1 len1 ts[j].A := hs1.keep (fun q _ hq => hbA.block q (by omega)) (Nat.le_refl _) (Nat.le_refl _)
        have hT3 := toks_below hTr hA
        go_wp2_with fail
        refine (IH (d - 1) L B base _ _ _ _ _ _ _ _ a _ hB (by simp; omega) hs2 HA.out hT3 HPL.out).mono ?_
        rintro e w5 ⟨v5, rfl, hb5, hT5⟩
        rw [tr_eta] at hT5
        have hT6 : Hid (Toks base w5 v5 (P ++ toksTo l 2 n ts (j + 1))) := by show Toks _ _ _ _; rw [HS.out, ← List.append_assoc]; exact hT5
        have hb6 : Below base w w5 := hbA.trans hb5
        clear hT5 hb5 hT3 hs2 hA hbA y0 y1 y2
        go_wp2_with fail
        go_roundw
        case rel => exact ⟨j + 1, by omega, by go_num, hT6.out, hb6⟩
        case measure => simp [intOf]; omega
      · have HE : Hid (toksTo l 2 n ts j = toksW (l + 1) ⟨2, n, ts⟩) := toksTo_all l _ _ ts j (by have := HL.out; omega)
        go_wp2_with fail
        go_ret
        exact ⟨_, rfl, hbr, by rw [← HE.out]; exact hTr⟩
  · have HR : Hid ((Builtin.append_ #[47, 47] 47 #[.slice ao' P.length cap', .slice (some ⟨w.heap.size + 1, 0, none⟩) 1 1]).run Tryd.prog ((w.alloc (.cells #[.int .i64 3, .int .i64 0, .slice ao len cap] 32)).alloc (.cells #[.string ⟨#[118, 48]⟩] 9)) = .ok (.slice (some ⟨g, 0, none⟩) (P.length + 1) cap2) w2) := by
      show _ = _
      rw [← HXS.out, ← HX.out]
      exact hrun
    clear hrun
    go_enter Tryd.func36, Tryd.ntmps36
    go_wp2_with (first | (at_builtin; refine list_run HR.out (by rfl) _ _ (by rfl) (by rfl) (by rfl) (by rfl) ?_) | (go_at_call 35; refine (itoa_0 _).mono ?_; rintro e w' ⟨rfl, rfl⟩))
    go_loopw [0, 46] (fun v i wr => ∃ (j : Nat), j ≤ len ∧ i = .int .i64 j ∧ Toks base wr v (P ++ toksTo l 3 0 ts j) ∧ Below base w wr) (fun _ i _ => len - (intOf i).toNat)
    case atStart => exact ⟨0, by omega, rfl, HT2.out, hbw2⟩
    case round =>
      obtain ⟨j, hj, rfl, hTr, hbr⟩ := hrel
      have hszr := hbr.size
      by_cases hlt : j < len
      · have hlt' : j < ts.length := by have := HL.out; omega
        obtain ⟨b, o, rfl, _, hbB, ao1, len1, cap1, e0, e1, e2, hs1⟩ := hs.get j hlt'
        have y0 := (hbr.cell (p := ⟨b, o + j * 3, none⟩) (by show b < base; omega)).trans e0
        have y1 := (hbr.cell (p := ⟨b, o + j * 3 + 1, none⟩) (by show b < base; omega)).trans e1
        have y2 := (hbr.cell (p := ⟨b, o + j * 3 + 2, none⟩) (by show b < base; omega)).trans e2
        clear e0 e1 e2
        obtain ⟨a, ha⟩ := HN.out j hlt'
        have HA : Hid (nodesW l ⟨ts[j].K, ts[j].N, ts[j].A⟩ = some a) := by show _ = _; rw [tr_eta]; exact ha
        have HS : Hid (toksTo l 3 0 ts (j + 1) = toksTo l 3 0 ts j ++ toksW l ts[j]) := toksTo_succ l 3 0 ts j hlt'
        have HPL : Hid ((P ++ toksTo l 3 0 ts j).length + a ≤ 1048576) := by
          have h1 := HM.out j hlt'
          have h2 := toks_len _ _ _ ha
          show _ ≤ _
          rw [List.length_append]
          omega
        clear ha
        have hA : Below wr.heap.size wr (wr.alloc (.cells #[.int .i64 ts[j].K, .int .i64 ts[j].N, .slice ao1 len1 cap1] 32)) := (Below.refl _ _).alloc (Nat.le_refl _) _
        have hbA : Below base w (wr.alloc (.cells #[.int .i64 ts[j].K, .int .i64 ts[j].N, .slice ao1 len1 cap1] 32)) := hbr.trans (hA.mono (by omega))
        have hs2 : Hs L B (wr.alloc (.cells #[.int .i64 ts[j].K, .int .i64 ts[j].N, .slice ao1 len1 cap1] 32)) (d - 1) ao1 len1 ts[j].A := hs1.keep (fun q _ hq => hbA.block q (by omega)) (Nat.le_refl _) (Nat.le_refl _)
        have hT3 := toks_below hTr hA
        go_wp2_with fail
        refine (IH (d - 1) L B base _ _ _ _ _ _ _ _ a _ hB (by simp; omega) hs2 HA.out hT3 HPL.out).mono ?_
        rintro e w5 ⟨v5, rfl, hb5, hT5⟩
        rw [tr_eta] at hT5
        have hT6 : Hid (Toks base w5 v5 (P ++ toksTo l 3 0 ts (j + 1))) := by show Toks _ _ _ _; rw [HS.out, ← List.append_assoc]; exact hT5
        have hb6 : Below base w w5 := hbA.trans hb5
        clear hT5 hb5 hT3 hs2 hA hbA y0 y1 y2
        go_wp2_with fail
        go_roundw
        case rel => exact ⟨j + 1, by omega, by go_num, hT6.out, hb6⟩
        case measure => simp [intOf]; omega
      · have HE : Hid (toksTo l 3 0 ts j = toksW (l + 1) ⟨3, 0, ts⟩) := toksTo_all l _ _ ts j (by have := HL.out; omega)
        go_wp2_with fail
        go_ret
        exact ⟨_, rfl, hbr, by rw [← HE.out]; exact hTr⟩
  · have HR : Hid ((Builtin.append_ #[47, 47] 47 #[.slice ao' P.length cap', .slice (some ⟨w.heap.size + 1, 0, none⟩) 1 1]).run Tryd.prog ((w.alloc (.cells #[.int .i64 3, .int .i64 1, .slice ao len cap] 32)).alloc (.cells #[.string ⟨#[118, 49]⟩] 9)) = .ok (.slice (some ⟨g, 0, none⟩) (P.length + 1) cap2) w2) := by
      show _ = _
      rw [← HXS.out, ← HX.out]
      exact hrun
    clear hrun
    go_enter Tryd.func36, Tryd.ntmps36
    go_wp2_with (first | (at_builtin; refine list_run HR.out (by rfl) _ _ (by rfl) (by rfl) (by rfl) (by rfl) ?_) | (go_at_call 35; refine (itoa_1 _).mono ?_; rintro e w' ⟨rfl, rfl⟩))
    go_loopw [0, 46] (fun v i wr => ∃ (j : Nat), j ≤ len ∧ i = .int .i64 j ∧ Toks base wr v (P ++ toksTo l 3 1 ts j) ∧ Below base w wr) (fun _ i _ => len - (intOf i).toNat)
    case atStart => exact ⟨0, by omega, rfl, HT2.out, hbw2⟩
    case round =>
      obtain ⟨j, hj, rfl, hTr, hbr⟩ := hrel
      have hszr := hbr.size
      by_cases hlt : j < len
      · have hlt' : j < ts.length := by have := HL.out; omega
        obtain ⟨b, o, rfl, _, hbB, ao1, len1, cap1, e0, e1, e2, hs1⟩ := hs.get j hlt'
        have y0 := (hbr.cell (p := ⟨b, o + j * 3, none⟩) (by show b < base; omega)).trans e0
        have y1 := (hbr.cell (p := ⟨b, o + j * 3 + 1, none⟩) (by show b < base; omega)).trans e1
        have y2 := (hbr.cell (p := ⟨b, o + j * 3 + 2, none⟩) (by show b < base; omega)).trans e2
        clear e0 e1 e2
        obtain ⟨a, ha⟩ := HN.out j hlt'
        have HA : Hid (nodesW l ⟨ts[j].K, ts[j].N, ts[j].A⟩ = some a) := by show _ = _; rw [tr_eta]; exact ha
        have HS : Hid (toksTo l 3 1 ts (j + 1) = toksTo l 3 1 ts j ++ toksW l ts[j]) := toksTo_succ l 3 1 ts j hlt'
        have HPL : Hid ((P ++ toksTo l 3 1 ts j).length + a ≤ 1048576) := by
          have h1 := HM.out j hlt'
          have h2 := toks_len _ _ _ ha
          show _ ≤ _
          rw [List.length_append]
          omega
        clear ha
        have hA : Below wr.heap.size wr (wr.alloc (.cells #[.int .i64 ts[j].K, .int .i64 ts[j].N, .slice ao1 len1 cap1] 32)) := (Below.refl _ _).alloc (Nat.le_refl _) _
        have hbA : Below base w (wr.alloc (.cells #[.int .i64 ts[j].K, .int .i64 ts[j].N, .slice ao1 len1 cap1] 32)) := hbr.trans (hA.mono (by omega))
        have hs2 : Hs L B (wr.alloc (.cells #[.int .i64 ts[j].K, .int .i64 ts[j].N, .slice ao1 len1 cap1] 32)) (d - 1) ao1 len1 ts[j].A := hs1.keep (fun q _ hq => hbA.block q (by omega)) (Nat.le_refl _) (Nat.le_refl _)
        have hT3 := toks_below hTr hA
        go_wp2_with fail
        refine (IH (d - 1) L B base _ _ _ _ _ _ _ _ a _ hB (by simp; omega) hs2 HA.out hT3 HPL.out).mono ?_
        rintro e w5 ⟨v5, rfl, hb5, hT5⟩
        rw [tr_eta] at hT5
        have hT6 : Hid (Toks base w5 v5 (P ++ toksTo l 3 1 ts (j + 1))) := by show Toks _ _ _ _; rw [HS.out, ← List.append_assoc]; exact hT5
        have hb6 : Below base w w5 := hbA.trans hb5
        clear hT5 hb5 hT3 hs2 hA hbA y0 y1 y2
        go_wp2_with fail
        go_roundw
        case rel => exact ⟨j + 1, by omega, by go_num, hT6.out, hb6⟩
        case measure => simp [intOf]; omega
      · have HE : Hid (toksTo l 3 1 ts j = toksW (l + 1) ⟨3, 1, ts⟩) := toksTo_all l _ _ ts j (by have := HL.out; omega)
        go_wp2_with fail
        go_ret
        exact ⟨_, rfl, hbr, by rw [← HE.out]; exact hTr⟩
  · have HR : Hid ((Builtin.append_ #[47, 47] 47 #[.slice ao' P.length cap', .slice (some ⟨w.heap.size + 1, 0, none⟩) 1 1]).run Tryd.prog ((w.alloc (.cells #[.int .i64 4, .int .i64 n, .slice ao len cap] 32)).alloc (.cells #[.string ⟨#[102]⟩] 9)) = .ok (.slice (some ⟨g, 0, none⟩) (P.length + 1) cap2) w2) := by
      show _ = _
      rw [← HXS.out, ← HX.out]
      exact hrun
    clear hrun
    go_enter Tryd.func36, Tryd.ntmps36
    go_wp2_with (first | (at_builtin; refine list_run HR.out (by rfl) _ _ (by rfl) (by rfl) (by rfl) (by rfl) ?_))
    go_loopw [0, 46] (fun v i wr => ∃ (j : Nat), j ≤ len ∧ i = .int .i64 j ∧ Toks base wr v (P ++ toksTo l 4 n ts j) ∧ Below base w wr) (fun _ i _ => len - (intOf i).toNat)
    case atStart => exact ⟨0, by omega, rfl, HT2.out, hbw2⟩
    case round =>
      obtain ⟨j, hj, rfl, hTr, hbr⟩ := hrel
      have hszr := hbr.size
      by_cases hlt : j < len
      · have hlt' : j < ts.length := by have := HL.out; omega
        obtain ⟨b, o, rfl, _, hbB, ao1, len1, cap1, e0, e1, e2, hs1⟩ := hs.get j hlt'
        have y0 := (hbr.cell (p := ⟨b, o + j * 3, none⟩) (by show b < base; omega)).trans e0
        have y1 := (hbr.cell (p := ⟨b, o + j * 3 + 1, none⟩) (by show b < base; omega)).trans e1
        have y2 := (hbr.cell (p := ⟨b, o + j * 3 + 2, none⟩) (by show b < base; omega)).trans e2
        clear e0 e1 e2
        obtain ⟨a, ha⟩ := HN.out j hlt'
        have HA : Hid (nodesW l ⟨ts[j].K, ts[j].N, ts[j].A⟩ = some a) := by show _ = _; rw [tr_eta]; exact ha
        have HS : Hid (toksTo l 4 n ts (j + 1) = toksTo l 4 n ts j ++ toksW l ts[j]) := toksTo_succ l 4 n ts j hlt'
        have HPL : Hid ((P ++ toksTo l 4 n ts j).length + a ≤ 1048576) := by
          have h1 := HM.out j hlt'
          have h2 := toks_len _ _ _ ha
          show _ ≤ _
          rw [List.length_append]
          omega
        clear ha
        have hA : Below wr.heap.size wr (wr.alloc (.cells #[.int .i64 ts[j].K, .int .i64 ts[j].N, .slice ao1 len1 cap1] 32)) := (Below.refl _ _).alloc (Nat.le_refl _) _
        have hbA : Below base w (wr.alloc (.cells #[.int .i64 ts[j].K, .int .i64 ts[j].N, .slice ao1 len1 cap1] 32)) := hbr.trans (hA.mono (by omega))
        have hs2 : Hs L B (wr.alloc (.cells #[.int .i64 ts[j].K, .int .i64 ts[j].N, .slice ao1 len1 cap1] 32)) (d - 1) ao1 len1 ts[j].A := hs1.keep (fun q _ hq => hbA.block q (by omega)) (Nat.le_refl _) (Nat.le_refl _)
        have hT3 := toks_below hTr hA
        go_wp2_with fail
        refine (IH (d - 1) L B base _ _ _ _ _ _ _ _ a _ hB (by simp; omega) hs2 HA.out hT3 HPL.out).mono ?_
        rintro e w5 ⟨v5, rfl, hb5, hT5⟩
        rw [tr_eta] at hT5
        have hT6 : Hid (Toks base w5 v5 (P ++ toksTo l 4 n ts (j + 1))) := by show Toks _ _ _ _; rw [HS.out, ← List.append_assoc]; exact hT5
        have hb6 : Below base w w5 := hbA.trans hb5
        clear hT5 hb5 hT3 hs2 hA hbA y0 y1 y2
        go_wp2_with fail
        go_roundw
        case rel => exact ⟨j + 1, by omega, by go_num, hT6.out, hb6⟩
        case measure => simp [intOf]; omega
      · have HE : Hid (toksTo l 4 n ts j = toksW (l + 1) ⟨4, n, ts⟩) := toksTo_all l _ _ ts j (by have := HL.out; omega)
        go_wp2_with fail
        go_ret
        exact ⟨_, rfl, hbr, by rw [← HE.out]; exact hTr⟩
  · have HR : Hid ((Builtin.append_ #[47, 47] 47 #[.slice ao' P.length cap', .slice (some ⟨w.heap.size + 1, 0, none⟩) 1 1]).run Tryd.prog ((w.alloc (.cells #[.int .i64 5, .int .i64 n, .slice ao len cap] 32)).alloc (.cells #[.string ⟨#[112]⟩] 9)) = .ok (.slice (some ⟨g, 0, none⟩) (P.length + 1) cap2) w2) := by
      show _ = _
      rw [← HXS.out, ← HX.out]
      exact hrun
    clear hrun
    go_enter Tryd.func36, Tryd.ntmps36
    go_wp2_with (first | (at_builtin; refine list_run HR.out (by rfl) _ _ (by rfl) (by rfl) (by rfl) (by rfl) ?_))
    go_loopw [0, 46] (fun v i wr => ∃ (j : Nat), j ≤ len ∧ i = .int .i64 j ∧ Toks base wr v (P ++ toksTo l 5 n ts j) ∧ Below base w wr) (fun _ i _ => len - (intOf i).toNat)
    case atStart => exact ⟨0, by omega, rfl, HT2.out, hbw2⟩
    case round =>
      obtain ⟨j, hj, rfl, hTr, hbr⟩ := hrel
      have hszr := hbr.size
      by_cases hlt : j < len
      · have hlt' : j < ts.length := by have := HL.out; omega
        obtain ⟨b, o, rfl, _, hbB, ao1, len1, cap1, e0, e1, e2, hs1⟩ := hs.get j hlt'
        have y0 := (hbr.cell (p := ⟨b, o + j * 3, none⟩) (by show b < base; omega)).trans e0
        have y1 := (hbr.cell (p := ⟨b, o + j * 3 + 1, none⟩) (by show b < base; omega)).trans e1
        have y2 := (hbr.cell (p := ⟨b, o + j * 3 + 2, none⟩) (by show b < base; omega)).trans e2
        clear e0 e1 e2
        obtain ⟨a, ha⟩ := HN.out j hlt'
        have HA : Hid (nodesW l ⟨ts[j].K, ts[j].N, ts[j].A⟩ = some a) := by show _ = _; rw [tr_eta]; exact ha
        have HS : Hid (toksTo l 5 n ts (j + 1) = toksTo l 5 n ts j ++ toksW l ts[j]) := toksTo_succ l 5 n ts j hlt'
        have HPL : Hid ((P ++ toksTo l 5 n ts j).length + a ≤ 1048576) := by
          have h1 := HM.out j hlt'
          have h2 := toks_len _ _ _ ha
          show _ ≤ _
          rw [List.length_append]
          omega
        clear ha
        have hA : Below wr.heap.size wr (wr.alloc (.cells #[.int .i64 ts[j].K, .int .i64 ts[j].N, .slice ao1 len1 cap1] 32)) := (Below.refl _ _).alloc (Nat.le_refl _) _
        have hbA : Below base w (wr.alloc (.cells #[.int .i64 ts[j].K, .int .i64 ts[j].N, .slice ao1 len1 cap1] 32)) := hbr.trans (hA.mono (by omega))
        have hs2 : Hs L B (wr.alloc (.cells #[.int .i64 ts[j].K, .int .i64 ts[j].N, .slice ao1 len1 cap1] 32)) (d - 1) ao1 len1 ts[j].A := hs1.keep (fun q _ hq => hbA.block q (by omega)) (Nat.le_refl _) (Nat.le_refl _)
        have hT3 := toks_below hTr hA
        go_wp2_with fail
        refine (IH (d - 1) L B base _ _ _ _ _ _ _ _ a _ hB (by simp; omega) hs2 HA.out hT3 HPL.out).mono ?_
        rintro e w5 ⟨v5, rfl, hb5, hT5⟩
        rw [tr_eta] at hT5
        have hT6 : Hid (Toks base w5 v5 (P ++ toksTo l 5 n ts (j + 1))) := by show Toks _ _ _ _; rw [HS.out, ← List.append_assoc]; exact hT5
        have hb6 : Below base w w5 := hbA.trans hb5
        clear hT5 hb5 hT3 hs2 hA hbA y0 y1 y2
        go_wp2_with fail
        go_roundw
        case rel => exact ⟨j + 1, by omega, by go_num, hT6.out, hb6⟩
        case measure => simp [intOf]; omega
      · have HE : Hid (toksTo l 5 n ts j = toksW (l + 1) ⟨5, n, ts⟩) := toksTo_all l _ _ ts j (by have := HL.out; omega)
        go_wp2_with fail
        go_ret
        exact ⟨_, rfl, hbr, by rw [← HE.out]; exact hTr⟩
  · have HR : Hid ((Builtin.append_ #[47, 47] 47 #[.slice ao' P.length cap', .slice (some ⟨w.heap.size + 1, 0, none⟩) 1 1]).run Tryd.prog ((w.alloc (.cells #[.int .i64 6, .int .i64 n, .slice ao len cap] 32)).alloc (.cells #[.string ⟨#[108]⟩] 9)) = .ok (.slice (some ⟨g, 0, none⟩) (P.length + 1) cap2) w2) := by
      show _ = _
      rw [← HXS.out, ← HX.out]
      exact hrun
    clear hrun
    go_enter Tryd.func36, Tryd.ntmps36
    go_wp2_with (first | (at_builtin; refine list_run HR.out (by rfl) _ _ (by rfl) (by rfl) (by rfl) (by rfl) ?_))
    go_loopw [0, 46] (fun v i wr => ∃ (j : Nat), j ≤ len ∧ i = .int .i64 j ∧ Toks base wr v (P ++ toksTo l 6 n ts j) ∧ Below base w wr) (fun _ i _ => len - (intOf i).toNat)
    case atStart => exact ⟨0, by omega, rfl, HT2.out, hbw2⟩
    case round =>
      obtain ⟨j, hj, rfl, hTr, hbr⟩ := hrel
      have hszr := hbr.size
      by_cases hlt : j < len
      · have hlt' : j < ts.length := by have := HL.out; omega
        obtain ⟨b, o, rfl, _, hbB, ao1, len1, cap1, e0, e1, e2, hs1⟩ := hs.get j hlt'
        have y0 := (hbr.cell (p := ⟨b, o + j * 3, none⟩) (by show b < base; omega)).trans e0
        have y1 := (hbr.cell (p := ⟨b, o + j * 3 + 1, none⟩) (by show b < base; omega)).trans e1
        have y2 := (hbr.cell (p := ⟨b, o + j * 3 + 2, none⟩) (by show b < base; omega)).trans e2
        clear e0 e1 e2
        obtain ⟨a, ha⟩ := HN.out j hlt'
        have HA : Hid (nodesW l ⟨ts[j].K, ts[j].N, ts[j].A⟩ = some a) := by show _ = _; rw [tr_eta]; exact ha
        have HS : Hid (toksTo l 6 n ts (j + 1) = toksTo l 6 n ts j ++ toksW l ts[j]) := toksTo_succ l 6 n ts j hlt'
        have HPL : Hid ((P ++ toksTo l 6 n ts j).length + a ≤ 1048576) := by
          have h1 := HM.out j hlt'
          have h2 := toks_len _ _ _ ha
          show _ ≤ _
          rw [List.length_append]
          omega
        clear ha
        have hA : Below wr.heap.size wr (wr.alloc (.cells #[.int .i64 ts[j].K, .int .i64 ts[j].N, .slice ao1 len1 cap1] 32)) := (Below.refl _ _).alloc (Nat.le_refl _) _
        have hbA : Below base w (wr.alloc (.cells #[.int .i64 ts[j].K, .int .i64 ts[j].N, .slice ao1 len1 cap1] 32)) := hbr.trans (hA.mono (by omega))
        have hs2 : Hs L B (wr.alloc (.cells #[.int .i64 ts[j].K, .int .i64 ts[j].N, .slice ao1 len1 cap1] 32)) (d - 1) ao1 len1 ts[j].A := hs1.keep (fun q _ hq => hbA.block q (by omega)) (Nat.le_refl _) (Nat.le_refl _)
        have hT3 := toks_below hTr hA
        go_wp2_with fail
        refine (IH (d - 1) L B base _ _ _ _ _ _ _ _ a _ hB (by simp; omega) hs2 HA.out hT3 HPL.out).mono ?_
        rintro e w5 ⟨v5, rfl, hb5, hT5⟩
        rw [tr_eta] at hT5
        have hT6 : Hid (Toks base w5 v5 (P ++ toksTo l 6 n ts (j + 1))) := by show Toks _ _ _ _; rw [HS.out, ← List.append_assoc]; exact hT5
        have hb6 : Below base w w5 := hbA.trans hb5
        clear hT5 hb5 hT3 hs2 hA hbA y0 y1 y2
        go_wp2_with fail
        go_roundw
        case rel => exact ⟨j + 1, by omega, by go_num, hT6.out, hb6⟩
        case measure => simp [intOf]; omega
      · have HE : Hid (toksTo l 6 n ts j = toksW (l + 1) ⟨6, n, ts⟩) := toksTo_all l _ _ ts j (by have := HL.out; omega)
        go_wp2_with fail
        go_ret
        exact ⟨_, rfl, hbr, by rw [← HE.out]; exact hTr⟩

theorem tt_any (l : Nat) : SaidTT l := by
  induction l with
  | zero => exact tt_zero
  | succ l ih => exact tt_succ l ih

end Go.Proofs.YtjikcckggifinaaDoor
