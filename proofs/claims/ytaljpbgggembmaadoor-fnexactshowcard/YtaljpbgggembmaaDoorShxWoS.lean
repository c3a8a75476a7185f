/-
  What 'szWordS', 'toWordS', 'eqWordS', 'markWordS', 'heldWordS' and those of a word and of a heap come to.
-/
import Derived.Test.YtaljpbgggembmaaDoorShxWoS0
import Derived.Test.YtaljpbgggembmaaDoorShxWo
import Derived.Deep.QuietTactic
import Derived.BigQuiet
import Derived.Deep.RegionWith
namespace Go.Proofs.YtaljpbgggembmaaDoor
open Go.RowKit
set_option linter.unusedVariables false
set_option linter.unusedSimpArgs false

set_option maxHeartbeats 400000 in
theorem szWordS_any (ao : Option Addr) (len cap : Nat) (left : Int) (w : World) (hl : len ≤ 9223372036854775807) (h1 : 0 ≤ left) (h2 : left ≤ 1048576) :
    Calls Tryd.prog 10 #[.slice ao len cap, .int .i64 left] w fun e w' => e = .returned (.int .i64 (szN len left)) ∧ Below w.heap.size w w' := by
  by_cases hneg : left - len < 0
  · go_enter Tryd.func10, Tryd.ntmps10
    go_wp2_with fail
    go_ret
    exact ⟨ret_int (by rw [szN_neg (by omega)]), Below.refl _ _⟩
  · go_enter Tryd.func10, Tryd.ntmps10
    go_wp2_with fail
    go_ret
    exact ⟨ret_int (by rw [szN_pos (by omega)]), Below.refl _ _⟩

set_option maxHeartbeats 400000 in
theorem szHeap_any (s : Int) (ao : Option Addr) (len cap : Nat) (left : Int) (w : World) (hl : len ≤ 9223372036854775807) (h1 : 0 ≤ left) (h2 : left ≤ 1048576) :
    Calls Tryd.prog 4 #[vH s ao len cap, .int .i64 left] w fun e w' => e = .returned (.int .i64 (szN len left)) ∧ Below w.heap.size w w' := by
  by_cases hc : (len : Int) ≤ left
  · go_enter Tryd.func4, Tryd.ntmps4
    go_wp2_with fail
    refine (szWordS_any _ _ _ _ _ hl h1 h2).mono ?_
    rintro e w1 ⟨rfl, hb1⟩
    rw [szN_pos hc]
    go_wp2_with fail
    go_ret
    exact ⟨ret_int (by rw [szN_pos hc]), ((Below.refl _ _).alloc (Nat.le_refl _) _).trans (hb1.mono (by simp))⟩
  · go_enter Tryd.func4, Tryd.ntmps4
    go_wp2_with fail
    refine (szWordS_any _ _ _ _ _ hl h1 h2).mono ?_
    rintro e w1 ⟨rfl, hb1⟩
    rw [szN_neg (by omega)]
    go_wp2_with fail
    go_ret
    exact ⟨ret_int (by rw [szN_neg (by omega)]), ((Below.refl _ _).alloc (Nat.le_refl _) _).trans (hb1.mono (by simp))⟩

set_option maxHeartbeats 400000 in
theorem toWord_any (x : Wrd) (w : World) : Calls Tryd.prog 7 #[vW x] w fun e w' => e = .returned (vW x) ∧ Below w.heap.size w w' := by
  go_enter Tryd.func7, Tryd.ntmps7
  go_wp2_with fail
  refine bodyPost_ret (v := vW x) (by simp [results, Tryd.results7, go_sem]) rfl ⟨rfl, ?_⟩
  exact (((Below.refl _ _).alloc (Nat.le_refl _) _).alloc (by simp) _).alloc (by simp; omega) _

set_option maxRecDepth 100000 in
set_option maxHeartbeats 400000 in
theorem toWordS_any (L B : Nat) (ao : Option Addr) (len cap : Nat) (l : List Wrd) (w : World) (hB : B ≤ w.heap.size) (hs : Ws L B w ao len l) (hl : len ≤ 1048576) :
    Calls Tryd.prog 13 #[.slice ao len cap] w fun e w' => ∃ g, e = .returned (.slice (some ⟨g, 0, none⟩) len len) ∧ Below w.heap.size w w' ∧ Wors w.heap.size w' (.slice (some ⟨g, 0, none⟩) len len) l := by
  have HL : Hid (len = l.length) := hs.1
  obtain ⟨i0, hi, hz0, hz1, hz2⟩ := info_parts Tryd.infoWord
  have hmk : ∃ C : Array Value, C.size = len * 2 ∧ ∀ w : World, (Instr.makeSlice 29 (.int .i64 (len : Int)) (.int .i64 (len : Int))).run Tryd.prog w = .ok (.slice (some ⟨w.heap.size, 0, none⟩) len len) (w.alloc (.cells C 33)) := by
    refine ⟨madeCells (Value.cells (.agg #[.int .i64 0, .int .i64 0])) (len * 2), ?_, fun w => ?_⟩
    · exact size_madeCells _ _
    · have := run_make (P := Tryd.prog) (w := w) 29 33 i0 _ Tryd.underlying29 hi hz0 .i64 .i64 (len : Int) (len : Int) (by omega) (by omega) (by rw [hz2]; omega) (by omega)
      rw [hz1] at this
      simpa using this
  obtain ⟨C, hC, hmk⟩ := hmk
  go_enter Tryd.func13, Tryd.ntmps13
  go_wp2_with fail
  go_loopw [4] (fun i wr => ∃ k : Nat, k ≤ len ∧ i = .int .i64 k ∧ ToR 2 33 (EW l) w wr len k) (fun i _ => len - (intOf i).toNat)
  case atStart => exact ⟨0, by omega, rfl, ⟨(Below.refl _ _).alloc (Nat.le_refl _) _, ⟨C, heap_alloc_new _ _, hC⟩, fun i hi => by omega⟩⟩
  case round =>
    obtain ⟨k, hk, rfl, hR⟩ := hrel
    by_cases hlt : k < len
    · have hlt' : k < l.length := by have := HL.out; omega
      have hbel := hR.bel
      have hsz := hbel.size
      obtain ⟨b, o, rfl, _, hbB, htw⟩ := hs.2.2 k hlt'
      obtain ⟨e0, e1⟩ := htw.block (hbel.block b (by omega))
      go_wp2_with fail
      refine (toWord_any l[k] _).mono ?_
      rintro e w1 ⟨rfl, hb1⟩
      have hz1' := hb1.size
      have hlt2 := hR.lt
      have hN := hR.next hlt hb1 [.int .i64 l[k].K, .int .i64 l[k].N] rfl (EW_stays l _) (fun W' k1 k2 k3 hi => ⟨by have := k1 0 (by simp); simpa using this, by have := k1 1 (by simp); simpa using this⟩)
      obtain ⟨⟨u0, f0⟩, r0⟩ := hR.cell hb1 hlt 0 (by omega)
      obtain ⟨⟨u1, f1⟩, r1⟩ := hR.cell hb1 hlt 1 (by omega)
      rw [Nat.add_zero] at f0 r0
      simp only [setL, Nat.add_assoc] at hN
      clear hR e0 e1 htw
      go_wp2_with fail
      go_roundw
      case rel => exact ⟨k + 1, by omega, by go_num, hN⟩
      case measure => simp [intOf]; omega
    · obtain rfl : k = len := by omega
      go_wp2_with fail
      go_ret
      exact ⟨_, rfl, hR.bel, tor_wors HL.out hl hR⟩

set_option maxHeartbeats 400000 in
theorem eqWord_any (x : Wrd) (w : World) : Calls Tryd.prog 29 #[vW x, vW x] w fun e w' => e = .returned (.bool true) ∧ Below w.heap.size w w' := by
  go_enter Tryd.func29, Tryd.ntmps29
  go_wp2_with fail
  go_ret
  exact ⟨rfl, ((Below.refl _ _).alloc (Nat.le_refl _) _).alloc (by simp) _⟩

set_option maxHeartbeats 400000 in
theorem eqWordS_any (L B L' B' : Nat) (ao : Option Addr) (len cap : Nat) (ao' : Option Addr) (len' cap' : Nat) (l : List Wrd) (w : World) (hB : B ≤ w.heap.size) (hB' : B' ≤ w.heap.size) (hs : Ws L B w ao len l) (hs' : Ws L' B' w ao' len' l) :
    Calls Tryd.prog 17 #[.slice ao len cap, .slice ao' len' cap'] w fun e w' => e = .returned (.bool true) ∧ Below w.heap.size w w' := by
  have hl := hs.2.1
  have HL : Hid (len = l.length) := hs.1
  obtain rfl : len' = len := by rw [hs.1, hs'.1]
  go_enter Tryd.func17, Tryd.ntmps17
  go_wp2_with fail
  go_loopw [5] (fun i wr => ∃ k : Nat, k ≤ len' ∧ i = .int .i64 k ∧ Below w.heap.size w wr) (fun i _ => len' - (intOf i).toNat)
  case atStart => exact ⟨0, by omega, rfl, Below.refl _ _⟩
  case round =>
    obtain ⟨k, hk, rfl, hbel⟩ := hrel
    have hsz := hbel.size
    by_cases hlt : k < len'
    · have hlt1 : k < l.length := by have := HL.out; omega
      obtain ⟨b, o, rfl, _, hbB, hs1⟩ := hs.2.2 k hlt1
      obtain ⟨b', o', rfl, _, hbB', hs2⟩ := hs'.2.2 k hlt1
      obtain ⟨e0, e1⟩ := hs1.block (hbel.block b (by omega))
      obtain ⟨d0, d1⟩ := hs2.block (hbel.block b' (by omega))
      clear hs1 hs2
      generalize l[k] = x at *
      go_wp2_with fail
      go_region_with (go_at_call 29; refine (eqWord_any x _).mono ?_; rintro e w1 ⟨rfl, hb1⟩)
      all_goals
        have hbel1 : Below w.heap.size w w1 := hbel.drew.trans (hb1.mono hsz)
        go_wp2_with fail
        go_roundw
        case rel => exact ⟨k + 1, by omega, by go_num, hbel1⟩
        case measure => simp [intOf]; omega
    · go_wp2_with fail
      go_ret
      exact ⟨rfl, hbel⟩

set_option maxHeartbeats 400000 in
theorem toHeap_any (L B : Nat) (s : Int) (ao : Option Addr) (len cap : Nat) (l : List Wrd) (w : World) (hB : B ≤ w.heap.size) (hs : Ws L B w ao len l) (hl : len ≤ 1048576) :
    Calls Tryd.prog 6 #[vH s ao len cap] w fun e w' => ∃ g, e = .returned (vH s (some ⟨g, 0, none⟩) len len) ∧ Below w.heap.size w w' ∧ Wors w.heap.size w' (.slice (some ⟨g, 0, none⟩) len len) l := by
  obtain ⟨X, hX⟩ : ∃ X, X = (((w.alloc (.cells #[.int .i64 s, .slice ao len cap] 24)).alloc (.cells #[.int .i64 0, .slice none 0 0] 31)).alloc (.cells #[.int .i64 s, .slice none 0 0] 31)) := ⟨_, rfl⟩
  have hXs : X.heap.size = w.heap.size + 3 := by rw [hX]; simp
  have hXb : Below w.heap.size w X := by rw [hX]; exact (((Below.refl _ _).alloc (Nat.le_refl _) _).alloc (by simp) _).alloc (by simp; omega) _
  have hX1 : X.heap[w.heap.size + 1]? = some (.cells #[.int .i64 0, .slice none 0 0] 31 (0, 0)) := by
    rw [hX, Below.heap_alloc _ _ _ (by simp)]; exact heap_new (by simp)
  have hX2 : X.heap[w.heap.size + 1 + 1]? = some (.cells #[.int .i64 s, .slice none 0 0] 31 (0, 0)) := by
    rw [hX]; exact heap_new (by simp)
  have hs1 := hs.below hXb hB
  have HX : Hid (X = _) := hX
  clear hX
  go_enter Tryd.func6, Tryd.ntmps6
  go_wp2_with fail
  rw [← HX.out]
  refine (toWordS_any L B _ _ _ _ _ (by omega) hs1 hl).mono ?_
  rintro e w1 ⟨g, rfl, hb1, hs2⟩
  have hw1 := hb1.size
  have y1 := (hb1.block _ (by omega)).trans hX1
  have y2 := (hb1.block _ (by omega)).trans hX2
  obtain ⟨b0, b1⟩ := cells2 y1
  obtain ⟨c0, c1⟩ := cells2 y2
  have r1 := row_free y1
  have r2 := row_free y2
  have hbel : Below w.heap.size w w1 := hXb.trans (hb1.mono (by omega))
  have hXw : w.heap.size ≤ X.heap.size := by omega
  clear hX1 hX2 y1 y2 hXb
  go_wp2_with fail
  have key : ∀ Y, Y = setL (w1.setCell ⟨w.heap.size + 1 + 1, 1, none⟩ (.slice (some ⟨g, 0, none⟩) len len)) (w.heap.size + 1) 0 [.int .i64 s, .slice (some ⟨g, 0, none⟩) len len] → Below w.heap.size w Y ∧ Wors w.heap.size Y (.slice (some ⟨g, 0, none⟩) len len) l := by
    rintro Y rfl
    refine ⟨setL_below (Nat.le_succ _) _ _ _ (hbel.setCell (p := ⟨w.heap.size + 1 + 1, 1, none⟩) (by show w.heap.size ≤ w.heap.size + 1 + 1; omega) _), ?_⟩
    refine wors_keep (wors_le hs2 hXw) (fun j hj => ?_)
    have := (wors_own hs2 hj).1
    rw [setL_other (by omega), row_other _ _ _ (by omega)]
  refine bodyPost_ret (v := vH s (some ⟨g, 0, none⟩) len len) (by simp [results, Tryd.results6, go_sem, b0, b1]) rfl ⟨g, rfl, key _ rfl⟩

set_option maxHeartbeats 400000 in
theorem eqHeap_any (L B L' B' : Nat) (s : Int) (ao : Option Addr) (len cap : Nat) (ao' : Option Addr) (len' cap' : Nat) (l : List Wrd) (w : World) (hB : B ≤ w.heap.size) (hB' : B' ≤ w.heap.size) (hs : Ws L B w ao len l) (hs' : Ws L' B' w ao' len' l) :
    Calls Tryd.prog 9 #[vH s ao len cap, vH s ao' len' cap'] w fun e w' => e = .returned (.bool true) ∧ Below w.heap.size w w' := by
  have hb : Below w.heap.size w ((w.alloc (.cells #[.int .i64 s, .slice ao len cap] 31)).alloc (.cells #[.int .i64 s, .slice ao' len' cap'] 31)) := ((Below.refl _ _).alloc (Nat.le_refl _) _).alloc (by simp) _
  have hs1 := hs.below hb hB
  have hs1' := hs'.below hb hB'
  go_enter Tryd.func9, Tryd.ntmps9
  go_wp2_with fail
  refine (eqWordS_any _ _ _ _ _ _ _ _ _ _ _ _ (by simp; omega) (by simp; omega) hs1 hs1').mono ?_
  rintro e w1 ⟨rfl, hb1⟩
  go_wp2_with fail
  go_ret
  exact ⟨rfl, hb.trans (hb1.mono (by simp; omega))⟩

end Go.Proofs.YtaljpbgggembmaaDoor
