/-
  The model's 'Reads'.
-/
import Derived.Test.YtchdmpipfmedaaaAd
import Derived.Test.YtchdmpipfmedaaaWr
namespace Go.Proofs.Ytchdmpipfmedaaa
open Go.RowKit
set_option linter.unusedVariables false
set_option linter.unusedSimpArgs false

/-- What an instruction reads, as it stands. -/
def rawI (i : Insn) : List Int := if i.Op == 8 then i.L else (if uX i.Op then [i.X] else []) ++ (if uY i.Op then [i.Y] else [])
/-- What an instruction reads. -/
def readsI (i : Insn) : List Int := redL (rawI i)

theorem asc_nil : Asc [] := List.Pairwise.nil
theorem redL_len (l : List Int) : (redL l).length ≤ l.length := by have := fold_len l [] asc_nil; simpa [redL] using this
theorem redL_len_take (l : List Int) (k : Nat) : (redL (l.take k)).length ≤ k := by have h1 := redL_len (l.take k); rw [List.length_take] at h1; omega
theorem redL_take_succ (l : List Int) (k : Nat) (hk : k < l.length) : redL (l.take (k + 1)) = addL (redL (l.take k)) l[k] := by
  rw [List.take_succ_eq_append_getElem hk, redL_snoc]

set_option maxRecDepth 100000 in
set_option maxHeartbeats 2000000 in
theorem sReads_make (L B : Nat) (i : Insn) (ao : Option Addr) (len cap : Nat) (w : World) (hB : B ≤ w.heap.size) (hs : Is L B w ao len i.L) (hl : len ≤ 1048576) (H8 : Hid (i.Op = 8)) (HUX : Hid (uX i.Op = false)) (HUY : Hid (uY i.Op = false)) :
    Calls Try.prog 19 #[vI i ao len cap] w fun e w' => ∃ v, e = .returned v ∧ Nums w.heap.size w' v (readsI i) ∧ Below w.heap.size w w' := by
  obtain ⟨X, hX⟩ : ∃ X, X = w.alloc (.cells #[.int .i64 i.Op, .int .i64 i.D, .int .i64 i.X, .int .i64 i.Y, .int .i64 i.N, .slice ao len cap, .int .i64 i.To] 41) := ⟨_, rfl⟩
  have hXs : X.heap.size = w.heap.size + 1 := by rw [hX]; simp
  have hXb : Below w.heap.size w X := by rw [hX]; exact (Below.refl _ _).alloc (Nat.le_refl _) _
  have hX1 : X.heap[w.heap.size]? = some (.cells #[.int .i64 i.Op, .int .i64 i.D, .int .i64 i.X, .int .i64 i.Y, .int .i64 i.N, .slice ao len cap, .int .i64 i.To] 41 (0, 0)) := by rw [hX]; exact heap_new rfl
  have HX : Hid (X = _) := hX
  have HL : Hid (len = i.L.length) := hs.1
  clear hX
  go_enter Try.func19, Try.ntmps19
  go_wp2_with fail
  rw [← HX.out]
  refine (l9Uses_any _ _).mono ?_
  rintro e w1 ⟨rfl, hb1⟩
  rw [HUX.out, HUY.out]
  have hz1 := hb1.size
  obtain ⟨Y, hY⟩ : ∃ Y, Y = (w1.alloc (.cells #[.bool (uD i.Op), .bool false, .bool false, .bool (uT i.Op)] 62)).alloc (.cells #[] 3) := ⟨_, rfl⟩
  have hYs : Y.heap.size = w1.heap.size + 2 := by rw [hY]; simp
  have hYb : Below w1.heap.size w1 Y := by rw [hY]; exact ((Below.refl _ _).alloc (Nat.le_refl _) _).alloc (by simp) _
  have hY1 : Y.heap[w1.heap.size]? = some (.cells #[.bool (uD i.Op), .bool false, .bool false, .bool (uT i.Op)] 62 (0, 0)) := by rw [hY, Below.heap_alloc _ _ _ (by simp)]; exact heap_new rfl
  have hY2 : Y.heap[w1.heap.size + 1]? = some (.cells #[] 3 (0, 0)) := by rw [hY]; exact heap_new (by simp)
  have hw1 : Below w.heap.size w w1 := hXb.trans (hb1.mono (by omega))
  have hYw : Below w.heap.size w Y := hw1.trans (hYb.mono hw1.size)
  have hN0 : Nums w.heap.size Y (.slice (some ⟨w1.heap.size + 1, 0, none⟩) 0 0) [] := nums_emp hY2 (by omega)
  have hI0 : Is w.heap.size Y.heap.size Y (some ⟨w1.heap.size + 1, 0, none⟩) 0 [] := ⟨rfl, by omega, fun i hi => by simp at hi⟩
  have hYX : Y.heap[w.heap.size]? = some (.cells #[.int .i64 i.Op, .int .i64 i.D, .int .i64 i.X, .int .i64 i.Y, .int .i64 i.N, .slice ao len cap, .int .i64 i.To] 41 (0, 0)) := (hYb.block _ (by omega)).trans ((hb1.block _ (by omega)).trans hX1)
  have hYx : X.heap[w.heap.size]? = some (.cells #[.int .i64 i.Op, .int .i64 i.D, .int .i64 i.X, .int .i64 i.Y, .int .i64 i.N, .slice ao len cap, .int .i64 i.To] 41 (0, 0)) := hX1
  have hxl1 : w.heap.size < w1.heap.size := by omega
  have hxlt : w.heap.size < Y.heap.size := by omega
  have hylt : w1.heap.size < Y.heap.size := by omega
  have hz1' : w.heap.size ≤ w1.heap.size := by omega
  obtain ⟨f0, f1, f2, f3, f4, f5, f6⟩ := cells7 ((hb1.block _ (by omega)).trans hX1)
  have HY : Hid (Y = _) := hY
  clear hY hYs hY2 hX1 hXs hYb
  have hb8 : (i.Op == 8) = true := by rw [H8.out]; rfl
  have HRD : Hid (readsI i = redL i.L) := by show _ = _; unfold readsI rawI; rw [if_pos hb8]
  go_wp2_with fail
  rw [← HY.out]
  go_loopw [4, 5] (fun v i' wr => ∃ (k m : Nat) (a' : Option Addr) (c' : Nat), k ≤ len ∧ i' = .int .i64 k ∧ v = .slice a' m c' ∧ Hid ((redL (i.L.take k)).length = m) ∧ m ≤ k ∧ Nums w.heap.size wr (.slice a' m c') (redL (i.L.take k)) ∧ Below Y.heap.size Y wr) (fun _ i' _ => len - (intOf i').toNat)
  case atStart => exact ⟨0, 0, _, _, by omega, rfl, rfl, rfl, by omega, hN0, Below.refl _ _⟩
  case round =>
    obtain ⟨k, m, a', c', hk, rfl, rfl, HM, hm, hN, hbr⟩ := hrel
    have hszr := hbr.size
    have xr := (hbr.block _ hxlt).trans hYX
    clear f0 f1 f2 f3 f4 f5 f6
    obtain ⟨f0, f1, f2, f3, f4, f5, f6⟩ := cells7 xr
    have hbwr : Below w.heap.size w wr := hYw.trans (hbr.mono hYw.size)
    by_cases hlt : k < len
    · have hlt' : k < i.L.length := by have := HL.out; omega
      obtain ⟨bl, o, rfl, _, hbB, c0⟩ := hs.2.2 k hlt'
      have e0 := (bcell hbwr (by omega) _).trans c0
      have HNX : Hid (redL (i.L.take (k + 1)) = addL (redL (i.L.take k)) i.L[k]) := redL_take_succ _ _ hlt'
      obtain ⟨a2, c2, e2, hI⟩ := nums_is hN (by rw [HM.out]; omega)
      rw [HM.out] at e2 hI
      injection e2 with e3 _ e4
      subst e3 e4
      have K := l10Add_any _ _ a' m c' _ i.L[k] wr (Nat.le_refl _) hI (by omega)
      rw [← HNX.out] at K
      generalize i.L[k] = x at *
      clear hN hI c0
      go_wp2_with fail
      refine K.mono ?_
      rintro e w3 ⟨v3, rfl, hN3, hb3⟩
      clear K
      obtain ⟨a3, c3, rfl⟩ := nums_form hN3
      have hlm := redL_len_take i.L (k + 1)
      obtain ⟨m3, hm3⟩ : ∃ m, (redL (i.L.take (k + 1))).length = m := ⟨_, rfl⟩
      rw [hm3] at hlm
      have HN3 : Hid (Nums w.heap.size w3 (.slice a3 m3 c3) (redL (i.L.take (k + 1)))) := by rw [← hm3]; exact nums_le hN3 (by omega)
      have HM3 : Hid (_ = m3) := hm3
      rw [hm3]
      clear hm3 hN3
      go_wp2_with fail
      go_roundw
      case rel => exact ⟨k + 1, m3, a3, c3, by omega, by go_num, rfl, HM3, hlm, HN3.out, hbr.trans (hb3.mono hszr)⟩
      case measure => simp [intOf]; omega
    · have HE : Hid (readsI i = redL (i.L.take k)) := by show _ = _; rw [HRD.out, List.take_of_length_le (by have := HL.out; omega)]
      go_wp2_with fail
      go_ret
      exact ⟨_, rfl, by rw [HE.out]; exact hN, hbwr⟩

set_option maxRecDepth 100000 in
set_option maxHeartbeats 2000000 in
theorem sReads_none (L B : Nat) (i : Insn) (ao : Option Addr) (len cap : Nat) (w : World) (hB : B ≤ w.heap.size) (hs : Is L B w ao len i.L) (hl : len ≤ 1048576) (h8 : ¬ i.Op = 8) (HUX : Hid (uX i.Op = false)) (HUY : Hid (uY i.Op = false)) :
    Calls Try.prog 19 #[vI i ao len cap] w fun e w' => ∃ v, e = .returned v ∧ Nums w.heap.size w' v (readsI i) ∧ Below w.heap.size w w' := by
  obtain ⟨X, hX⟩ : ∃ X, X = w.alloc (.cells #[.int .i64 i.Op, .int .i64 i.D, .int .i64 i.X, .int .i64 i.Y, .int .i64 i.N, .slice ao len cap, .int .i64 i.To] 41) := ⟨_, rfl⟩
  have hXs : X.heap.size = w.heap.size + 1 := by rw [hX]; simp
  have hXb : Below w.heap.size w X := by rw [hX]; exact (Below.refl _ _).alloc (Nat.le_refl _) _
  have hX1 : X.heap[w.heap.size]? = some (.cells #[.int .i64 i.Op, .int .i64 i.D, .int .i64 i.X, .int .i64 i.Y, .int .i64 i.N, .slice ao len cap, .int .i64 i.To] 41 (0, 0)) := by rw [hX]; exact heap_new rfl
  have HX : Hid (X = _) := hX
  have HL : Hid (len = i.L.length) := hs.1
  clear hX
  go_enter Try.func19, Try.ntmps19
  go_wp2_with fail
  rw [← HX.out]
  refine (l9Uses_any _ _).mono ?_
  rintro e w1 ⟨rfl, hb1⟩
  rw [HUX.out, HUY.out]
  have hz1 := hb1.size
  obtain ⟨Y, hY⟩ : ∃ Y, Y = (w1.alloc (.cells #[.bool (uD i.Op), .bool false, .bool false, .bool (uT i.Op)] 62)).alloc (.cells #[] 3) := ⟨_, rfl⟩
  have hYs : Y.heap.size = w1.heap.size + 2 := by rw [hY]; simp
  have hYb : Below w1.heap.size w1 Y := by rw [hY]; exact ((Below.refl _ _).alloc (Nat.le_refl _) _).alloc (by simp) _
  have hY1 : Y.heap[w1.heap.size]? = some (.cells #[.bool (uD i.Op), .bool false, .bool false, .bool (uT i.Op)] 62 (0, 0)) := by rw [hY, Below.heap_alloc _ _ _ (by simp)]; exact heap_new rfl
  have hY2 : Y.heap[w1.heap.size + 1]? = some (.cells #[] 3 (0, 0)) := by rw [hY]; exact heap_new (by simp)
  have hw1 : Below w.heap.size w w1 := hXb.trans (hb1.mono (by omega))
  have hYw : Below w.heap.size w Y := hw1.trans (hYb.mono hw1.size)
  have hN0 : Nums w.heap.size Y (.slice (some ⟨w1.heap.size + 1, 0, none⟩) 0 0) [] := nums_emp hY2 (by omega)
  have hI0 : Is w.heap.size Y.heap.size Y (some ⟨w1.heap.size + 1, 0, none⟩) 0 [] := ⟨rfl, by omega, fun i hi => by simp at hi⟩
  have hYX : Y.heap[w.heap.size]? = some (.cells #[.int .i64 i.Op, .int .i64 i.D, .int .i64 i.X, .int .i64 i.Y, .int .i64 i.N, .slice ao len cap, .int .i64 i.To] 41 (0, 0)) := (hYb.block _ (by omega)).trans ((hb1.block _ (by omega)).trans hX1)
  have hYx : X.heap[w.heap.size]? = some (.cells #[.int .i64 i.Op, .int .i64 i.D, .int .i64 i.X, .int .i64 i.Y, .int .i64 i.N, .slice ao len cap, .int .i64 i.To] 41 (0, 0)) := hX1
  have hxl1 : w.heap.size < w1.heap.size := by omega
  have hxlt : w.heap.size < Y.heap.size := by omega
  have hylt : w1.heap.size < Y.heap.size := by omega
  have hz1' : w.heap.size ≤ w1.heap.size := by omega
  obtain ⟨f0, f1, f2, f3, f4, f5, f6⟩ := cells7 ((hb1.block _ (by omega)).trans hX1)
  have HY : Hid (Y = _) := hY
  clear hY hYs hY2 hX1 hXs hYb
  have hb8 : (i.Op == 8) = false := beq_eq_false_iff_ne.2 h8
  have HRD : Hid (readsI i = redL []) := by show _ = _; unfold readsI rawI; rw [if_neg (by rw [hb8]; simp), HUX.out, HUY.out]; rfl
  clear h8
  have HI : Hid (Is w.heap.size Y.heap.size Y (some ⟨w1.heap.size + 1, 0, none⟩) 0 []) := hI0
  have hbY : Below Y.heap.size Y Y := Below.refl _ _
  have HN0 : Hid (Nums w.heap.size Y (.slice (some ⟨w1.heap.size + 1, 0, none⟩) 0 0) []) := hN0
  have hq0 : Below Y.heap.size Y Y := hbY
  have HE : Hid (readsI i = []) := HRD
  obtain ⟨y0, y1, y2, y3, y4, y5, y6⟩ := cells7 hYX
  have hend : Below w.heap.size w Y := hYw.trans (hq0.mono hYw.size)
  by_cases hl0 : 0 < len
  · go_wp2_with fail
    rw [← HY.out]
    go_loopw [4, 5] (fun v i' wr => v = .slice (some ⟨w1.heap.size + 1, 0, none⟩) 0 0 ∧ i' = .int .i64 0 ∧ wr = Y) (fun _ _ _ => 0)
    case atStart => exact ⟨rfl, rfl, rfl⟩
    case round =>
      obtain ⟨rfl, rfl, rfl⟩ := hrel
      go_wp2_with fail
      go_ret
      exact ⟨_, rfl, by rw [HE.out]; exact HN0.out, hend⟩
  · obtain rfl : len = 0 := by omega
    go_wp2_with fail
    rw [← HY.out]
    go_loopw [4, 5] (fun v i' wr => v = .slice (some ⟨w1.heap.size + 1, 0, none⟩) 0 0 ∧ i' = .int .i64 0 ∧ wr = Y) (fun _ _ _ => 0)
    case atStart => exact ⟨rfl, rfl, rfl⟩
    case round =>
      obtain ⟨rfl, rfl, rfl⟩ := hrel
      go_wp2_with fail
      go_ret
      exact ⟨_, rfl, by rw [HE.out]; exact HN0.out, hend⟩

set_option maxRecDepth 100000 in
set_option maxHeartbeats 2000000 in
theorem sReads_x (L B : Nat) (i : Insn) (ao : Option Addr) (len cap : Nat) (w : World) (hB : B ≤ w.heap.size) (hs : Is L B w ao len i.L) (hl : len ≤ 1048576) (h8 : ¬ i.Op = 8) (HUX : Hid (uX i.Op = true)) (HUY : Hid (uY i.Op = false)) :
    Calls Try.prog 19 #[vI i ao len cap] w fun e w' => ∃ v, e = .returned v ∧ Nums w.heap.size w' v (readsI i) ∧ Below w.heap.size w w' := by
  obtain ⟨X, hX⟩ : ∃ X, X = w.alloc (.cells #[.int .i64 i.Op, .int .i64 i.D, .int .i64 i.X, .int .i64 i.Y, .int .i64 i.N, .slice ao len cap, .int .i64 i.To] 41) := ⟨_, rfl⟩
  have hXs : X.heap.size = w.heap.size + 1 := by rw [hX]; simp
  have hXb : Below w.heap.size w X := by rw [hX]; exact (Below.refl _ _).alloc (Nat.le_refl _) _
  have hX1 : X.heap[w.heap.size]? = some (.cells #[.int .i64 i.Op, .int .i64 i.D, .int .i64 i.X, .int .i64 i.Y, .int .i64 i.N, .slice ao len cap, .int .i64 i.To] 41 (0, 0)) := by rw [hX]; exact heap_new rfl
  have HX : Hid (X = _) := hX
  have HL : Hid (len = i.L.length) := hs.1
  clear hX
  go_enter Try.func19, Try.ntmps19
  go_wp2_with fail
  rw [← HX.out]
  refine (l9Uses_any _ _).mono ?_
  rintro e w1 ⟨rfl, hb1⟩
  rw [HUX.out, HUY.out]
  have hz1 := hb1.size
  obtain ⟨Y, hY⟩ : ∃ Y, Y = (w1.alloc (.cells #[.bool (uD i.Op), .bool true, .bool false, .bool (uT i.Op)] 62)).alloc (.cells #[] 3) := ⟨_, rfl⟩
  have hYs : Y.heap.size = w1.heap.size + 2 := by rw [hY]; simp
  have hYb : Below w1.heap.size w1 Y := by rw [hY]; exact ((Below.refl _ _).alloc (Nat.le_refl _) _).alloc (by simp) _
  have hY1 : Y.heap[w1.heap.size]? = some (.cells #[.bool (uD i.Op), .bool true, .bool false, .bool (uT i.Op)] 62 (0, 0)) := by rw [hY, Below.heap_alloc _ _ _ (by simp)]; exact heap_new rfl
  have hY2 : Y.heap[w1.heap.size + 1]? = some (.cells #[] 3 (0, 0)) := by rw [hY]; exact heap_new (by simp)
  have hw1 : Below w.heap.size w w1 := hXb.trans (hb1.mono (by omega))
  have hYw : Below w.heap.size w Y := hw1.trans (hYb.mono hw1.size)
  have hN0 : Nums w.heap.size Y (.slice (some ⟨w1.heap.size + 1, 0, none⟩) 0 0) [] := nums_emp hY2 (by omega)
  have hI0 : Is w.heap.size Y.heap.size Y (some ⟨w1.heap.size + 1, 0, none⟩) 0 [] := ⟨rfl, by omega, fun i hi => by simp at hi⟩
  have hYX : Y.heap[w.heap.size]? = some (.cells #[.int .i64 i.Op, .int .i64 i.D, .int .i64 i.X, .int .i64 i.Y, .int .i64 i.N, .slice ao len cap, .int .i64 i.To] 41 (0, 0)) := (hYb.block _ (by omega)).trans ((hb1.block _ (by omega)).trans hX1)
  have hYx : X.heap[w.heap.size]? = some (.cells #[.int .i64 i.Op, .int .i64 i.D, .int .i64 i.X, .int .i64 i.Y, .int .i64 i.N, .slice ao len cap, .int .i64 i.To] 41 (0, 0)) := hX1
  have hxl1 : w.heap.size < w1.heap.size := by omega
  have hxlt : w.heap.size < Y.heap.size := by omega
  have hylt : w1.heap.size < Y.heap.size := by omega
  have hz1' : w.heap.size ≤ w1.heap.size := by omega
  obtain ⟨f0, f1, f2, f3, f4, f5, f6⟩ := cells7 ((hb1.block _ (by omega)).trans hX1)
  have HY : Hid (Y = _) := hY
  clear hY hYs hY2 hX1 hXs hYb
  have hb8 : (i.Op == 8) = false := beq_eq_false_iff_ne.2 h8
  have HRD : Hid (readsI i = redL [i.X]) := by show _ = _; unfold readsI rawI; rw [if_neg (by rw [hb8]; simp), HUX.out, HUY.out]; rfl
  clear h8
  have HI : Hid (Is w.heap.size Y.heap.size Y (some ⟨w1.heap.size + 1, 0, none⟩) 0 []) := hI0
  have hbY : Below Y.heap.size Y Y := Below.refl _ _
  have K1 := l10Add_any _ _ (some ⟨w1.heap.size + 1, 0, none⟩) 0 0 [] i.X Y (Nat.le_refl _) HI.out (by omega)
  go_wp2_with fail
  rw [← HY.out]
  refine K1.mono ?_
  rintro e z1 ⟨v1, rfl, hN1, hc1⟩
  have hq1 : Below Y.heap.size Y z1 := hc1.mono (Nat.le_refl _)
  clear K1 f0 f1 f2 f3 f4 f5 f6
  obtain ⟨f0, f1, f2, f3, f4, f5, f6⟩ := cells7 ((hq1.block _ hxlt).trans hYX)
  have u1 := (hq1.block _ hylt).trans hY1
  have g1_1 := row_cell u1 1
  have g2_1 := row_cell u1 2
  have hzq1 := hq1.size
  obtain ⟨P1, hP1⟩ : ∃ P, addL [] i.X = P := ⟨_, rfl⟩
  rw [hP1] at hN1
  obtain ⟨m1, hm1⟩ : ∃ m, P1.length = m := ⟨_, rfl⟩
  have hml1 : m1 ≤ 1 := by have h := addL_len [] i.X asc_nil; rw [hP1, hm1] at h; (try simp at h); skip; omega
  obtain ⟨a1, c1, rfl, hI1⟩ := nums_is hN1 (by omega)
  have HP1 : Hid (addL [] i.X = P1) := hP1
  have HM1 : Hid (P1.length = m1) := hm1
  rw [hm1] at hI1 hN1 ⊢
  have HN1 : Hid (Nums w.heap.size z1 (.slice a1 m1 c1) P1) := nums_le hN1 (by omega)
  clear HI
  have HI : Hid (Is _ _ z1 a1 m1 P1) := hI1
  clear hP1 hm1 hN1 hI1
  have HE : Hid (readsI i = P1) := by show _ = _; rw [HRD.out, ← HP1.out]; rfl
  have hend : Below w.heap.size w z1 := hYw.trans (hq1.mono hYw.size)
  by_cases hl0 : 0 < len
  · go_wp2_with fail
    go_loopw [4, 5] (fun v i' wr => v = .slice (a1) m1 c1 ∧ i' = .int .i64 0 ∧ wr = z1) (fun _ _ _ => 0)
    case atStart => exact ⟨rfl, rfl, rfl⟩
    case round =>
      obtain ⟨rfl, rfl, rfl⟩ := hrel
      go_wp2_with fail
      go_ret
      exact ⟨_, rfl, by rw [HE.out]; exact HN1.out, hend⟩
  · obtain rfl : len = 0 := by omega
    go_wp2_with fail
    go_loopw [4, 5] (fun v i' wr => v = .slice (a1) m1 c1 ∧ i' = .int .i64 0 ∧ wr = z1) (fun _ _ _ => 0)
    case atStart => exact ⟨rfl, rfl, rfl⟩
    case round =>
      obtain ⟨rfl, rfl, rfl⟩ := hrel
      go_wp2_with fail
      go_ret
      exact ⟨_, rfl, by rw [HE.out]; exact HN1.out, hend⟩

set_option maxRecDepth 100000 in
set_option maxHeartbeats 2000000 in
theorem sReads_xy (L B : Nat) (i : Insn) (ao : Option Addr) (len cap : Nat) (w : World) (hB : B ≤ w.heap.size) (hs : Is L B w ao len i.L) (hl : len ≤ 1048576) (h8 : ¬ i.Op = 8) (HUX : Hid (uX i.Op = true)) (HUY : Hid (uY i.Op = true)) :
    Calls Try.prog 19 #[vI i ao len cap] w fun e w' => ∃ v, e = .returned v ∧ Nums w.heap.size w' v (readsI i) ∧ Below w.heap.size w w' := by
  obtain ⟨X, hX⟩ : ∃ X, X = w.alloc (.cells #[.int .i64 i.Op, .int .i64 i.D, .int .i64 i.X, .int .i64 i.Y, .int .i64 i.N, .slice ao len cap, .int .i64 i.To] 41) := ⟨_, rfl⟩
  have hXs : X.heap.size = w.heap.size + 1 := by rw [hX]; simp
  have hXb : Below w.heap.size w X := by rw [hX]; exact (Below.refl _ _).alloc (Nat.le_refl _) _
  have hX1 : X.heap[w.heap.size]? = some (.cells #[.int .i64 i.Op, .int .i64 i.D, .int .i64 i.X, .int .i64 i.Y, .int .i64 i.N, .slice ao len cap, .int .i64 i.To] 41 (0, 0)) := by rw [hX]; exact heap_new rfl
  have HX : Hid (X = _) := hX
  have HL : Hid (len = i.L.length) := hs.1
  clear hX
  go_enter Try.func19, Try.ntmps19
  go_wp2_with fail
  rw [← HX.out]
  refine (l9Uses_any _ _).mono ?_
  rintro e w1 ⟨rfl, hb1⟩
  rw [HUX.out, HUY.out]
  have hz1 := hb1.size
  obtain ⟨Y, hY⟩ : ∃ Y, Y = (w1.alloc (.cells #[.bool (uD i.Op), .bool true, .bool true, .bool (uT i.Op)] 62)).alloc (.cells #[] 3) := ⟨_, rfl⟩
  have hYs : Y.heap.size = w1.heap.size + 2 := by rw [hY]; simp
  have hYb : Below w1.heap.size w1 Y := by rw [hY]; exact ((Below.refl _ _).alloc (Nat.le_refl _) _).alloc (by simp) _
  have hY1 : Y.heap[w1.heap.size]? = some (.cells #[.bool (uD i.Op), .bool true, .bool true, .bool (uT i.Op)] 62 (0, 0)) := by rw [hY, Below.heap_alloc _ _ _ (by simp)]; exact heap_new rfl
  have hY2 : Y.heap[w1.heap.size + 1]? = some (.cells #[] 3 (0, 0)) := by rw [hY]; exact heap_new (by simp)
  have hw1 : Below w.heap.size w w1 := hXb.trans (hb1.mono (by omega))
  have hYw : Below w.heap.size w Y := hw1.trans (hYb.mono hw1.size)
  have hN0 : Nums w.heap.size Y (.slice (some ⟨w1.heap.size + 1, 0, none⟩) 0 0) [] := nums_emp hY2 (by omega)
  have hI0 : Is w.heap.size Y.heap.size Y (some ⟨w1.heap.size + 1, 0, none⟩) 0 [] := ⟨rfl, by omega, fun i hi => by simp at hi⟩
  have hYX : Y.heap[w.heap.size]? = some (.cells #[.int .i64 i.Op, .int .i64 i.D, .int .i64 i.X, .int .i64 i.Y, .int .i64 i.N, .slice ao len cap, .int .i64 i.To] 41 (0, 0)) := (hYb.block _ (by omega)).trans ((hb1.block _ (by omega)).trans hX1)
  have hYx : X.heap[w.heap.size]? = some (.cells #[.int .i64 i.Op, .int .i64 i.D, .int .i64 i.X, .int .i64 i.Y, .int .i64 i.N, .slice ao len cap, .int .i64 i.To] 41 (0, 0)) := hX1
  have hxl1 : w.heap.size < w1.heap.size := by omega
  have hxlt : w.heap.size < Y.heap.size := by omega
  have hylt : w1.heap.size < Y.heap.size := by omega
  have hz1' : w.heap.size ≤ w1.heap.size := by omega
  obtain ⟨f0, f1, f2, f3, f4, f5, f6⟩ := cells7 ((hb1.block _ (by omega)).trans hX1)
  have HY : Hid (Y = _) := hY
  clear hY hYs hY2 hX1 hXs hYb
  have hb8 : (i.Op == 8) = false := beq_eq_false_iff_ne.2 h8
  have HRD : Hid (readsI i = redL [i.X, i.Y]) := by show _ = _; unfold readsI rawI; rw [if_neg (by rw [hb8]; simp), HUX.out, HUY.out]; rfl
  clear h8
  have HI : Hid (Is w.heap.size Y.heap.size Y (some ⟨w1.heap.size + 1, 0, none⟩) 0 []) := hI0
  have hbY : Below Y.heap.size Y Y := Below.refl _ _
  have K1 := l10Add_any _ _ (some ⟨w1.heap.size + 1, 0, none⟩) 0 0 [] i.X Y (Nat.le_refl _) HI.out (by omega)
  go_wp2_with fail
  rw [← HY.out]
  refine K1.mono ?_
  rintro e z1 ⟨v1, rfl, hN1, hc1⟩
  have hq1 : Below Y.heap.size Y z1 := hc1.mono (Nat.le_refl _)
  clear K1 f0 f1 f2 f3 f4 f5 f6
  obtain ⟨f0, f1, f2, f3, f4, f5, f6⟩ := cells7 ((hq1.block _ hxlt).trans hYX)
  have u1 := (hq1.block _ hylt).trans hY1
  have g1_1 := row_cell u1 1
  have g2_1 := row_cell u1 2
  have hzq1 := hq1.size
  obtain ⟨P1, hP1⟩ : ∃ P, addL [] i.X = P := ⟨_, rfl⟩
  rw [hP1] at hN1
  obtain ⟨m1, hm1⟩ : ∃ m, P1.length = m := ⟨_, rfl⟩
  have hml1 : m1 ≤ 1 := by have h := addL_len [] i.X asc_nil; rw [hP1, hm1] at h; (try simp at h); skip; omega
  obtain ⟨a1, c1, rfl, hI1⟩ := nums_is hN1 (by omega)
  have HP1 : Hid (addL [] i.X = P1) := hP1
  have HM1 : Hid (P1.length = m1) := hm1
  rw [hm1] at hI1 hN1 ⊢
  have HN1 : Hid (Nums w.heap.size z1 (.slice a1 m1 c1) P1) := nums_le hN1 (by omega)
  clear HI
  have HI : Hid (Is _ _ z1 a1 m1 P1) := hI1
  clear hP1 hm1 hN1 hI1
  have K2 := l10Add_any _ _ (a1) m1 c1 P1 i.Y z1 (Nat.le_refl _) HI.out (by omega)
  go_wp2_with fail
  refine K2.mono ?_
  rintro e z2 ⟨v2, rfl, hN2, hc2⟩
  have hq2 : Below Y.heap.size Y z2 := hq1.trans (hc2.mono hzq1)
  clear K2 f0 f1 f2 f3 f4 f5 f6
  obtain ⟨f0, f1, f2, f3, f4, f5, f6⟩ := cells7 ((hq2.block _ hxlt).trans hYX)
  have u2 := (hq2.block _ hylt).trans hY1
  have g1_2 := row_cell u2 1
  have g2_2 := row_cell u2 2
  have hzq2 := hq2.size
  obtain ⟨P2, hP2⟩ : ∃ P, addL P1 i.Y = P := ⟨_, rfl⟩
  rw [hP2] at hN2
  obtain ⟨m2, hm2⟩ : ∃ m, P2.length = m := ⟨_, rfl⟩
  have hml2 : m2 ≤ 2 := by have h := addL_len P1 i.Y (by rw [← HP1.out]; exact addL_asc _ _ asc_nil); rw [hP2, hm2] at h; (try simp at h); have := HM1.out; omega
  obtain ⟨a2, c2, rfl, hI2⟩ := nums_is hN2 (by omega)
  have HP2 : Hid (addL P1 i.Y = P2) := hP2
  have HM2 : Hid (P2.length = m2) := hm2
  rw [hm2] at hI2 hN2 ⊢
  have HN2 : Hid (Nums w.heap.size z2 (.slice a2 m2 c2) P2) := nums_le hN2 (by omega)
  clear HI
  have HI : Hid (Is _ _ z2 a2 m2 P2) := hI2
  clear hP2 hm2 hN2 hI2
  have HE : Hid (readsI i = P2) := by show _ = _; rw [HRD.out, ← HP2.out, ← HP1.out]; rfl
  have hend : Below w.heap.size w z2 := hYw.trans (hq2.mono hYw.size)
  by_cases hl0 : 0 < len
  · go_wp2_with fail
    go_loopw [4, 5] (fun v i' wr => v = .slice (a2) m2 c2 ∧ i' = .int .i64 0 ∧ wr = z2) (fun _ _ _ => 0)
    case atStart => exact ⟨rfl, rfl, rfl⟩
    case round =>
      obtain ⟨rfl, rfl, rfl⟩ := hrel
      go_wp2_with fail
      go_ret
      exact ⟨_, rfl, by rw [HE.out]; exact HN2.out, hend⟩
  · obtain rfl : len = 0 := by omega
    go_wp2_with fail
    go_loopw [4, 5] (fun v i' wr => v = .slice (a2) m2 c2 ∧ i' = .int .i64 0 ∧ wr = z2) (fun _ _ _ => 0)
    case atStart => exact ⟨rfl, rfl, rfl⟩
    case round =>
      obtain ⟨rfl, rfl, rfl⟩ := hrel
      go_wp2_with fail
      go_ret
      exact ⟨_, rfl, by rw [HE.out]; exact HN2.out, hend⟩

theorem uY_uX {k : Int} (h : uY k = true) : uX k = true := by
  simp only [uY, uX, Bool.or_eq_true, beq_iff_eq] at *
  omega

theorem sReads_any (L B : Nat) (i : Insn) (ao : Option Addr) (len cap : Nat) (w : World) (hB : B ≤ w.heap.size) (hs : Is L B w ao len i.L) (hl : len ≤ 1048576) :
    Calls Try.prog 19 #[vI i ao len cap] w fun e w' => ∃ v, e = .returned v ∧ Nums w.heap.size w' v (readsI i) ∧ Below w.heap.size w w' := by
  by_cases h8 : i.Op = 8
  · exact sReads_make L B i ao len cap w hB hs hl h8 (by show _ = _; rw [h8]; rfl) (by show _ = _; rw [h8]; rfl)
  · cases hx : uX i.Op with
    | false =>
      cases hy : uY i.Op with
      | false => exact sReads_none L B i ao len cap w hB hs hl h8 hx hy
      | true => rw [uY_uX hy] at hx; cases hx
    | true =>
      cases hy : uY i.Op with
      | false => exact sReads_x L B i ao len cap w hB hs hl h8 hx hy
      | true => exact sReads_xy L B i ao len cap w hB hs hl h8 hx hy

end Go.Proofs.Ytchdmpipfmedaaa
