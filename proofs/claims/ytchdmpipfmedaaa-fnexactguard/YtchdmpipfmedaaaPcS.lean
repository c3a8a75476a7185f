/-
  What 'szInsS', 'toInsS', 'eqInsS', 'szPiece', 'toPiece', 'eqPiece' come to.
-/
import Derived.Test.YtchdmpipfmedaaaInS
namespace Go.Proofs.Ytchdmpipfmedaaa
open Go.RowKit
set_option linter.unusedVariables false
set_option linter.unusedSimpArgs false

theorem ElI.keep {L B L' B' : Nat} {w w' : World} {b o : Nat} {i : Insn} (h : ElI L B w b o i) (hc : ∀ p, o ≤ p → p < o + 7 → w'.cell? ⟨b, p, none⟩ = w.cell? ⟨b, p, none⟩) (hb : ∀ k, L ≤ k → k < B → w'.heap[k]? = w.heap[k]?) (hL : L' ≤ L) (hB : B ≤ B') : ElI L' B' w' b o i := by
  obtain ⟨ao, len, cap, h1, h2⟩ := h
  exact ⟨ao, len, cap, h1.cells hc, h2.keep hb hL hB⟩

set_option maxHeartbeats 400000 in
theorem szInsS_any (L B : Nat) (ao : Option Addr) (len cap : Nat) (l : List Insn) (left : Int) (w : World) (hB : B ≤ w.heap.size) (hs : Iss L B w ao len l) (h1 : 0 ≤ left) (h2 : left ≤ 1048576) :
    Calls Try.prog 26 #[.slice ao len cap, .int .i64 left] w fun e w' => e = .returned (.int .i64 (szN (l.length + sI l) left)) ∧ Below w.heap.size w w' := by
  have hl := hs.2.1
  have HL : Hid (len = l.length) := hs.1
  by_cases hneg : left - len < 0
  · go_enter Try.func26, Try.ntmps26
    go_wp2_with fail
    go_ret
    exact ⟨ret_int (by rw [szN_neg (by have := HL.out; omega)]), Below.refl _ _⟩
  · go_enter Try.func26, Try.ntmps26
    go_wp2_with fail
    go_loopw [1, 5] (fun v i wr => ∃ k : Nat, k ≤ len ∧ i = .int .i64 k ∧ ((len : Int) + sI (l.take k)) ≤ left ∧ v = .int .i64 (left - len - sI (l.take k)) ∧ Below w.heap.size w wr) (fun _ i _ => len - (intOf i).toNat)
    case atStart => exact ⟨0, by omega, rfl, by simp [sI]; omega, by simp [sI], Below.refl _ _⟩
    case round =>
      obtain ⟨k, hk, rfl, hle, rfl, hbel⟩ := hrel
      have hsz := hbel.size
      by_cases hlt : k < len
      · have hlt' : k < l.length := by have := HL.out; omega
        obtain ⟨b, o, rfl, _, hbB, ao', len', cap', hsev, hs'⟩ := hs.2.2 k hlt'
        obtain ⟨e0, e1, e2, e3, e4, e5, e6⟩ := hsev.block (hbel.block b (by omega))
        have hs2 := hs'.below hbel hB
        have HT : Hid (sI (l.take (k + 1)) = sI (l.take k) + cI l[k]) := sI_take l k hlt'
        have HTL : Hid (sI (l.take (k + 1)) ≤ sI l) := sI_take_le l _
        go_wp2_with fail
        refine (szIns_any L B l[k] _ _ _ _ _ hs2 (by omega) (by omega)).mono ?_
        rintro e w1 ⟨rfl, hb1⟩
        have hbel1 : Below w.heap.size w w1 := hbel.trans (hb1.mono hsz)
        by_cases hc : (cI l[k] : Int) ≤ left - len - sI (l.take k)
        · rw [szN_pos hc]
          go_wp2_with fail
          go_roundw
          case rel => exact ⟨k + 1, by omega, by go_num, by rw [HT.out]; omega, by rw [HT.out]; go_num, hbel1⟩
          case measure => simp [intOf]; omega
        · rw [szN_neg hc]
          go_wp2_with fail
          go_ret
          exact ⟨ret_int (by rw [szN_neg (by have := HT.out; have := HTL.out; have := HL.out; omega)]), hbel1⟩
      · have hke : k = len := by omega
        have HK : Hid (sI (l.take k) = sI l) := by have := HL.out; show sI _ = _; rw [List.take_of_length_le (by omega)]
        clear hke
        go_wp2_with fail
        go_ret
        exact ⟨ret_int (by have := HK.out; have := HL.out; rw [szN_pos (by omega)]; omega), hbel⟩

theorem Try.infoIns : (Try.prog.info? 41).map (fun i => (i.zero, i.size, i.bytes)) = some (some (.agg #[.int .i64 0, .int .i64 0, .int .i64 0, .int .i64 0, .int .i64 0, .slice none 0 0, .int .i64 0]), 7, 72) := by kernel_rfl

/-- An instruction of a row at its place, its list in blocks behind the row. -/
def EIn (l : List Insn) (W : World) (b o i : Nat) : Prop := ∀ h : i < l.length, ElI (b + 1) W.heap.size W b o l[i]
theorem EIn_stays (l : List Insn) (b : Nat) : Stays 7 (EIn l) b := by
  intro W W' i h h1 h2 h3 hi
  exact (h hi).keep h1 (fun k hk1 hk2 => h2 k (by omega) hk2) (Nat.le_refl _) h3

set_option maxRecDepth 100000 in
set_option maxHeartbeats 400000 in
theorem toInsS_any (L B : Nat) (ao : Option Addr) (len cap : Nat) (l : List Insn) (w : World) (hB : B ≤ w.heap.size) (hs : Iss L B w ao len l) (hl : len + sI l ≤ 1048576) :
    Calls Try.prog 28 #[.slice ao len cap] w fun e w' => ∃ g, e = .returned (.slice (some ⟨g, 0, none⟩) len len) ∧ Below w.heap.size w w' ∧ Iss w.heap.size w'.heap.size w' (some ⟨g, 0, none⟩) len l := by
  have HL : Hid (len = l.length) := hs.1
  obtain ⟨i0, hi, hz0, hz1, hz2⟩ := info_parts Try.infoIns
  have hmk : ∃ C : Array Value, C.size = len * 7 ∧ ∀ w : World, (Instr.makeSlice 27 (.int .i64 (len : Int)) (.int .i64 (len : Int))).run Try.prog w = .ok (.slice (some ⟨w.heap.size, 0, none⟩) len len) (w.alloc (.cells C 41)) := by
    refine ⟨madeCells (Value.cells (.agg #[.int .i64 0, .int .i64 0, .int .i64 0, .int .i64 0, .int .i64 0, .slice none 0 0, .int .i64 0])) (len * 7), ?_, fun w => ?_⟩
    · exact size_madeCells _ _
    · have := run_make (P := Try.prog) (w := w) 27 41 i0 _ Try.underlying27 hi hz0 .i64 .i64 (len : Int) (len : Int) (by omega) (by omega) (by rw [hz2]; omega) (by omega)
      rw [hz1] at this
      simpa using this
  obtain ⟨C, hC, hmk⟩ := hmk
  have hl1 : len ≤ 1048576 := by omega
  have HS : Hid (len + sI l ≤ 1048576) := hl
  clear hl
  go_enter Try.func28, Try.ntmps28
  go_wp2_with fail
  go_loopw [4] (fun i wr => ∃ k : Nat, k ≤ len ∧ i = .int .i64 k ∧ ToR 7 41 (EIn l) w wr len k) (fun i _ => len - (intOf i).toNat)
  case atStart => exact ⟨0, by omega, rfl, ⟨(Below.refl _ _).alloc (Nat.le_refl _) _, ⟨C, heap_alloc_new _ _, hC⟩, fun i hi => by omega⟩⟩
  case round =>
    obtain ⟨k, hk, rfl, hR⟩ := hrel
    by_cases hlt : k < len
    · have hlt' : k < l.length := by have := HL.out; omega
      have hbel := hR.bel
      have hsz := hbel.size
      obtain ⟨b, o, rfl, _, hbB, ao', len', cap', hsev, hs'⟩ := hs.2.2 k hlt'
      obtain ⟨e0, e1, e2, e3, e4, e5, e6⟩ := hsev.block (hbel.block b (by omega))
      have hs2 := hs'.below hbel hB
      have hlc : len' ≤ 1048576 := by have h1 := sI_get l k hlt'; have h2 := hs'.1; have h3 := HS.out; unfold cI at h1; omega
      go_wp2_with fail
      refine (toIns_any L B l[k] _ _ _ _ (by omega) hs2 hlc).mono ?_
      rintro e w1 ⟨g, rfl, hb1, hs3⟩
      have hz1' := hb1.size
      have hlt2 := hR.lt
      have hN := hR.next hlt hb1 [.int .i64 l[k].Op, .int .i64 l[k].D, .int .i64 l[k].X, .int .i64 l[k].Y, .int .i64 l[k].N, .slice (some ⟨g, 0, none⟩) len' len', .int .i64 l[k].To] rfl (EIn_stays l _) (fun W' k1 k2 k3 hi => ⟨some ⟨g, 0, none⟩, len', len', ⟨by have := k1 0 (by simp); simpa using this, by have := k1 1 (by simp); simpa using this, by have := k1 2 (by simp); simpa using this, by have := k1 3 (by simp); simpa using this, by have := k1 4 (by simp); simpa using this, by have := k1 5 (by simp); simpa using this, by have := k1 6 (by simp); simpa using this⟩, hs3.keep (fun j hj1 hj2 => k2 j (by omega) hj2) (by omega) (by omega)⟩)
      obtain ⟨⟨u0, f0⟩, r0⟩ := hR.cell hb1 hlt 0 (by omega)
      obtain ⟨⟨u1, f1⟩, r1⟩ := hR.cell hb1 hlt 1 (by omega)
      obtain ⟨⟨u2, f2⟩, r2⟩ := hR.cell hb1 hlt 2 (by omega)
      obtain ⟨⟨u3, f3⟩, r3⟩ := hR.cell hb1 hlt 3 (by omega)
      obtain ⟨⟨u4, f4⟩, r4⟩ := hR.cell hb1 hlt 4 (by omega)
      obtain ⟨⟨u5, f5⟩, r5⟩ := hR.cell hb1 hlt 5 (by omega)
      obtain ⟨⟨u6, f6⟩, r6⟩ := hR.cell hb1 hlt 6 (by omega)
      rw [Nat.add_zero] at f0 r0
      simp only [setL, Nat.add_assoc] at hN
      clear hR e0 e1 e2 e3 e4 e5 e6
      go_wp2_with fail
      go_roundw
      case rel => exact ⟨k + 1, by omega, by go_num, hN⟩
      case measure => simp [intOf]; omega
    · go_wp2_with fail
      go_ret
      refine ⟨_, rfl, hR.bel, ?_⟩
      have := HL.out
      refine ⟨this, by omega, fun i hi => ⟨_, _, rfl, Nat.le_refl _, hR.lt, ?_⟩⟩
      rw [Nat.zero_add]
      exact (hR.els i (by omega) hi).keep (fun _ _ _ => rfl) (fun _ _ _ => rfl) (by omega) (Nat.le_refl _)

set_option maxHeartbeats 400000 in
theorem eqInsS_any (L B L' B' : Nat) (ao : Option Addr) (len cap : Nat) (ao' : Option Addr) (len' cap' : Nat) (l : List Insn) (w : World) (hB : B ≤ w.heap.size) (hB' : B' ≤ w.heap.size) (hs : Iss L B w ao len l) (hs' : Iss L' B' w ao' len' l) :
    Calls Try.prog 30 #[.slice ao len cap, .slice ao' len' cap'] w fun e w' => e = .returned (.bool true) ∧ Below w.heap.size w w' := by
  have hl := hs.2.1
  have HL : Hid (len = l.length) := hs.1
  obtain rfl : len' = len := by rw [hs.1, hs'.1]
  go_enter Try.func30, Try.ntmps30
  go_wp2_with fail
  go_loopw [5] (fun i wr => ∃ k : Nat, k ≤ len' ∧ i = .int .i64 k ∧ Below w.heap.size w wr) (fun i _ => len' - (intOf i).toNat)
  case atStart => exact ⟨0, by omega, rfl, Below.refl _ _⟩
  case round =>
    obtain ⟨k, hk, rfl, hbel⟩ := hrel
    have hsz := hbel.size
    by_cases hlt : k < len'
    · have hlt1 : k < l.length := by have := HL.out; omega
      obtain ⟨b, o, rfl, _, hbB, ao1, len1, cap1, hsev, hs1⟩ := hs.2.2 k hlt1
      obtain ⟨b', o', rfl, _, hbB', ao2, len2, cap2, hsev', hs2⟩ := hs'.2.2 k hlt1
      obtain ⟨e0, e1, e2, e3, e4, e5, e6⟩ := hsev.block (hbel.block b (by omega))
      obtain ⟨d0, d1, d2, d3, d4, d5, d6⟩ := hsev'.block (hbel.block b' (by omega))
      have hs1 := hs1.below hbel hB
      have hs2 := hs2.below hbel hB'
      clear hsev hsev'
      generalize l[k] = x at *
      go_wp2_with fail
      go_region_with (go_at_call 22; refine (eqIns_any L B L' B' x _ _ _ _ _ _ _ ?_ ?_ ?_ ?_).mono ?_; (show B ≤ wr.heap.size; omega); (show B' ≤ wr.heap.size; omega); exact hs1.drew; exact hs2.drew; rintro e w1 ⟨rfl, hb1⟩)
      all_goals
        have hbel1 : Below w.heap.size w w1 := hbel.drew.trans (hb1.mono hsz)
        go_wp2_with fail
        go_roundw
        case rel => exact ⟨k + 1, by omega, by go_num, hbel1⟩
        case measure => simp [intOf]; omega
    · go_wp2_with fail
      go_ret
      exact ⟨rfl, hbel⟩

theorem cells4 {w : World} {b : Nat} {x0 x1 x2 x3 : Value} {t : TypeId} {fr : Nat × Nat} (h : w.heap[b]? = some (.cells #[x0, x1, x2, x3] t fr)) :
    w.cell? ⟨b, 0, none⟩ = some x0 ∧ w.cell? ⟨b, 1, none⟩ = some x1 ∧ w.cell? ⟨b, 2, none⟩ = some x2 ∧ w.cell? ⟨b, 3, none⟩ = some x3 :=
  ⟨row_cell h 0, row_cell h 1, row_cell h 2, row_cell h 3⟩

set_option maxHeartbeats 400000 in
theorem szPiece_any (L B : Nat) (p : Pc) (ao : Option Addr) (len cap : Nat) (left : Int) (w : World) (hB : B ≤ w.heap.size) (hs : Iss L B w ao len p.Ins) (h1 : 0 ≤ left) (h2 : left ≤ 1048576) :
    Calls Try.prog 7 #[vP p ao len cap, .int .i64 left] w fun e w' => e = .returned (.int .i64 (szN (cP p) left)) ∧ Below w.heap.size w w' := by
  have hXb : Below w.heap.size w (w.alloc (.cells #[.int .i64 p.Lam, .int .i64 p.In, .int .i64 p.Regs, .slice ao len cap] 24)) := (Below.refl _ _).alloc (Nat.le_refl _) _
  have hs1 := hs.below hXb hB
  by_cases hc : (cP p : Int) ≤ left
  · go_enter Try.func7, Try.ntmps7
    go_wp2_with fail
    refine (szInsS_any L B _ _ _ _ _ _ (by simp; omega) hs1 h1 h2).mono ?_
    rintro e w1 ⟨rfl, hb1⟩
    rw [show p.Ins.length + sI p.Ins = cP p from rfl, szN_pos hc]
    go_wp2_with fail
    go_ret
    exact ⟨ret_int (by rw [szN_pos hc]), hXb.trans (hb1.mono (by simp))⟩
  · go_enter Try.func7, Try.ntmps7
    go_wp2_with fail
    refine (szInsS_any L B _ _ _ _ _ _ (by simp; omega) hs1 h1 h2).mono ?_
    rintro e w1 ⟨rfl, hb1⟩
    rw [show p.Ins.length + sI p.Ins = cP p from rfl, szN_neg (by omega)]
    go_wp2_with fail
    go_ret
    exact ⟨ret_int (by rw [szN_neg (by omega)]), hXb.trans (hb1.mono (by simp))⟩

set_option maxHeartbeats 400000 in
theorem toPiece_any (L B : Nat) (p : Pc) (ao : Option Addr) (len cap : Nat) (w : World) (hB : B ≤ w.heap.size) (hs : Iss L B w ao len p.Ins) (hl : cP p ≤ 1048576) :
    Calls Try.prog 9 #[vP p ao len cap] w fun e w' => ∃ g, e = .returned (vP p (some ⟨g, 0, none⟩) len len) ∧ Below w.heap.size w w' ∧ Iss w.heap.size w'.heap.size w' (some ⟨g, 0, none⟩) len p.Ins := by
  obtain ⟨X, hX⟩ : ∃ X, X = (((w.alloc (.cells #[.int .i64 p.Lam, .int .i64 p.In, .int .i64 p.Regs, .slice ao len cap] 24)).alloc (.cells #[.int .i64 0, .int .i64 0, .int .i64 0, .slice none 0 0] 29)).alloc (.cells #[.int .i64 p.Lam, .int .i64 p.In, .int .i64 p.Regs, .slice none 0 0] 29)) := ⟨_, rfl⟩
  have hXs : X.heap.size = w.heap.size + 3 := by rw [hX]; simp
  have hXb : Below w.heap.size w X := by rw [hX]; exact (((Below.refl _ _).alloc (Nat.le_refl _) _).alloc (by simp) _).alloc (by simp; omega) _
  have hX1 : X.heap[w.heap.size + 1]? = some (.cells #[.int .i64 0, .int .i64 0, .int .i64 0, .slice none 0 0] 29 (0, 0)) := by
    rw [hX, Below.heap_alloc _ _ _ (by simp)]; exact heap_new (by simp)
  have hX2 : X.heap[w.heap.size + 1 + 1]? = some (.cells #[.int .i64 p.Lam, .int .i64 p.In, .int .i64 p.Regs, .slice none 0 0] 29 (0, 0)) := by
    rw [hX]; exact heap_new (by simp)
  have hs1 := hs.below hXb hB
  have HX : Hid (X = _) := hX
  have HL : Hid (len = p.Ins.length) := hs.1
  clear hX
  go_enter Try.func9, Try.ntmps9
  go_wp2_with fail
  rw [← HX.out]
  refine (toInsS_any L B _ _ _ _ _ (by omega) hs1 (by rw [HL.out]; exact hl)).mono ?_
  rintro e w1 ⟨g, rfl, hb1, hs2⟩
  have hw1 := hb1.size
  have y1 := (hb1.block _ (by omega)).trans hX1
  have y2 := (hb1.block _ (by omega)).trans hX2
  obtain ⟨b0, b1, b2, b3⟩ := cells4 y1
  obtain ⟨c0, c1, c2, c3⟩ := cells4 y2
  have r1 := row_free y1
  have r2 := row_free y2
  have hbel : Below w.heap.size w w1 := hXb.trans (hb1.mono (by omega))
  have hXw : w.heap.size ≤ X.heap.size := by omega
  clear hX1 hX2 y1 y2 hXb
  go_wp2_with fail
  have key : ∀ Y, Y = setL (w1.setCell ⟨w.heap.size + 1 + 1, 3, none⟩ (.slice (some ⟨g, 0, none⟩) len len)) (w.heap.size + 1) 0 [.int .i64 p.Lam, .int .i64 p.In, .int .i64 p.Regs, .slice (some ⟨g, 0, none⟩) len len] → Below w.heap.size w Y ∧ Iss w.heap.size Y.heap.size Y (some ⟨g, 0, none⟩) len p.Ins := by
    rintro Y rfl
    refine ⟨setL_below (Nat.le_succ _) _ _ _ (hbel.setCell (p := ⟨w.heap.size + 1 + 1, 3, none⟩) (by show w.heap.size ≤ w.heap.size + 1 + 1; omega) _), ?_⟩
    refine hs2.keep (fun j hj _ => ?_) hXw (by rw [setL_size]; simp)
    rw [setL_other (by omega), row_other _ _ _ (by omega)]
  refine bodyPost_ret (v := vP p (some ⟨g, 0, none⟩) len len) (by simp [results, Try.results9, go_sem, b0, b1, b2, b3]) rfl ⟨g, rfl, key _ rfl⟩

set_option maxHeartbeats 400000 in
theorem eqPiece_any (L B L' B' : Nat) (p : Pc) (ao : Option Addr) (len cap : Nat) (ao' : Option Addr) (len' cap' : Nat) (w : World) (hB : B ≤ w.heap.size) (hB' : B' ≤ w.heap.size) (hs : Iss L B w ao len p.Ins) (hs' : Iss L' B' w ao' len' p.Ins) :
    Calls Try.prog 11 #[vP p ao len cap, vP p ao' len' cap'] w fun e w' => e = .returned (.bool true) ∧ Below w.heap.size w w' := by
  have hb : Below w.heap.size w ((w.alloc (.cells #[.int .i64 p.Lam, .int .i64 p.In, .int .i64 p.Regs, .slice ao len cap] 29)).alloc (.cells #[.int .i64 p.Lam, .int .i64 p.In, .int .i64 p.Regs, .slice ao' len' cap'] 29)) := ((Below.refl _ _).alloc (Nat.le_refl _) _).alloc (by simp) _
  have hs1 := hs.below hb hB
  have hs1' := hs'.below hb hB'
  go_enter Try.func11, Try.ntmps11
  go_wp2_with fail
  refine (eqInsS_any _ _ _ _ _ _ _ _ _ _ _ _ (by simp; omega) (by simp; omega) hs1 hs1').mono ?_
  rintro e w1 ⟨rfl, hb1⟩
  go_wp2_with fail
  go_ret
  exact ⟨rfl, hb.trans (hb1.mono (by simp; omega))⟩

end Go.Proofs.Ytchdmpipfmedaaa
