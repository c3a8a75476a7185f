/-
  What 'toTy', 'toTyS' (a copy in the program's own type) come to: the same tree in new memory.
-/
import Derived.Test.YtgckmnchlkgakaaLmaTr
namespace Go.Proofs.Ytgckmnchlkgakaa
open Go.RowKit
set_option linter.unusedVariables false
set_option linter.unusedSimpArgs false

theorem Try.infoTy : (Try.prog.info? 33).map (fun i => (i.zero, i.size, i.bytes)) = some (some (.agg #[.int .i64 0, .int .i64 0, .slice none 0 0]), 3, 40) := by kernel_rfl

def SaidTo (d : Nat) : Prop := ∀ (L B : Nat) (k n : Int) (ao : Option Addr) (len cap : Nat) (ts : List Tr) (w : World), B ≤ w.heap.size → Hs L B w d ao len ts → cntS ts ≤ 1048576 →
    Calls Try.prog 31 #[.agg #[.int .i64 k, .int .i64 n, .slice ao len cap]] w fun e w' => ∃ g, e = .returned (.agg #[.int .i64 k, .int .i64 n, .slice (some ⟨g, 0, none⟩) len len]) ∧ Below w.heap.size w w' ∧ Hs w.heap.size w'.heap.size w' d (some ⟨g, 0, none⟩) len ts
def SaidToS (d : Nat) : Prop := ∀ (L B : Nat) (ao : Option Addr) (len cap : Nat) (ts : List Tr) (w : World), B ≤ w.heap.size → Hs L B w d ao len ts → cntS ts ≤ 1048576 →
    Calls Try.prog 32 #[.slice ao len cap] w fun e w' => ∃ g, e = .returned (.slice (some ⟨g, 0, none⟩) len len) ∧ Below w.heap.size w w' ∧ Hs w.heap.size w'.heap.size w' d (some ⟨g, 0, none⟩) len ts

/-- What the loop keeps: the new row's block, its first k elements laid. -/
structure ToRel (w wr : World) (d len k : Nat) (ts : List Tr) : Prop where
  bel : Below w.heap.size w wr
  row : ∃ cs : Array Value, wr.heap[w.heap.size]? = some (.cells cs 33 (0, 0)) ∧ cs.size = len * 3
  els : ∀ i (_ : i < k) (h : i < ts.length), El wr (Hs (w.heap.size + 1) wr.heap.size wr d) w.heap.size (i * 3) ts[i]

theorem to_lt {w wr : World} {d len k : Nat} {ts : List Tr} (h : ToRel w wr d len k ts) : w.heap.size < wr.heap.size := by
  obtain ⟨cs, hr, _⟩ := h.row
  exact (Array.getElem?_eq_some_iff.1 hr).1

theorem to_row {w wr w1 : World} {d len k : Nat} {ts : List Tr} (h : ToRel w wr d len k ts) (hb : Below wr.heap.size wr w1) : ∃ cs : Array Value, w1.heap[w.heap.size]? = some (.cells cs 33 (0, 0)) ∧ cs.size = len * 3 := by
  obtain ⟨cs, hr, hc⟩ := h.row
  exact ⟨cs, (hb.block _ (to_lt h)).trans hr, hc⟩

theorem to_next {w wr w1 : World} {d len k : Nat} {ts : List Tr} (h : ToRel w wr d len k ts) (hk : k < len) (hk' : k < ts.length) (hb : Below wr.heap.size wr w1) {g len1 : Nat}
    (hs : Hs wr.heap.size w1.heap.size w1 d (some ⟨g, 0, none⟩) len1 ts[k].A) :
    ToRel w (set3 w1 w.heap.size (k * 3) (.int .i64 ts[k].K) (.int .i64 ts[k].N) (.slice (some ⟨g, 0, none⟩) len1 len1)) d len (k + 1) ts := by
  obtain ⟨cs, hr, hc⟩ := to_row h hb
  have hlt := to_lt h
  have hsz := hb.size
  have keep : ∀ {ao : Option Addr} {len' : Nat} {l : List Tr} {X Y : Nat}, w.heap.size < X → Hs X Y w1 d ao len' l → Hs X Y (set3 w1 w.heap.size (k * 3) (.int .i64 ts[k].K) (.int .i64 ts[k].N) (.slice (some ⟨g, 0, none⟩) len1 len1)) d ao len' l :=
    fun hX hh => hh.keep (fun j hj _ => set3_other j (by omega)) (Nat.le_refl _) (Nat.le_refl _)
  refine ⟨?_, ?_, ?_⟩
  · exact set3_below (h.bel.trans (hb.mono (by omega))) (Nat.le_refl _)
  · exact ⟨_, set3_row hr, by simp [hc]⟩
  · intro i hi hi'
    rw [set3_size]
    by_cases hik : i = k
    · subst hik
      obtain ⟨x0, x1, x2⟩ := set3_cells (a := .int .i64 ts[i].K) (b := .int .i64 ts[i].N) (c := .slice (some ⟨g, 0, none⟩) len1 len1) hr (show i * 3 + 2 < cs.size by omega)
      exact ⟨_, _, _, x0, x1, x2, (keep (by omega) hs).keep (fun _ _ _ => rfl) (by omega) (Nat.le_refl _)⟩
    · obtain ⟨ao', len', cap', c0, c1, c2, hh⟩ := h.els i (by omega) hi'
      have hcell : ∀ p, w1.cell? ⟨w.heap.size, p, none⟩ = wr.cell? ⟨w.heap.size, p, none⟩ := fun p => bcell hb hlt p
      have far : ∀ p, p < k * 3 → (set3 w1 w.heap.size (k * 3) (.int .i64 ts[k].K) (.int .i64 ts[k].N) (.slice (some ⟨g, 0, none⟩) len1 len1)).cell? ⟨w.heap.size, p, none⟩ = wr.cell? ⟨w.heap.size, p, none⟩ :=
        fun p hp => (set3_far hr p (Or.inl hp)).trans (hcell p)
      refine ⟨ao', len', cap', (far _ (by omega)).trans c0, (far _ (by omega)).trans c1, (far _ (by omega)).trans c2, ?_⟩
      exact (keep (by omega) (hh.below hb (Nat.le_refl _))).keep (fun _ _ _ => rfl) (Nat.le_refl _) hsz

set_option maxHeartbeats 400000 in
theorem toTyS_succ (d : Nat) (IH : SaidTo d) : SaidToS (d + 1) := by
  intro L B ao len cap ts w hB hs hcnt
  have hl : len ≤ 1048576 := by have := hs.1; have := cntS_eq ts; omega
  have HL : Hid (len = ts.length) := hs.1
  obtain ⟨i0, hi, hz0, hz1, hz2⟩ := info_parts Try.infoTy
  have hmk : ∃ C : Array Value, C.size = len * 3 ∧ ∀ w : World, (Instr.makeSlice 31 (.int .i64 (len : Int)) (.int .i64 (len : Int))).run Try.prog w = .ok (.slice (some ⟨w.heap.size, 0, none⟩) len len) (w.alloc (.cells C 33)) := by
    refine ⟨madeCells (Value.cells (.agg #[.int .i64 0, .int .i64 0, .slice none 0 0])) (len * 3), ?_, fun w => ?_⟩
    · exact size_madeCells _ _
    · have := run_make (P := Try.prog) (w := w) 31 33 i0 _ Try.underlying31 hi hz0 .i64 .i64 (len : Int) (len : Int) (by omega) (by omega) (by rw [hz2]; omega) (by omega)
      rw [hz1] at this
      simpa using this
  obtain ⟨C, hC, hmk⟩ := hmk
  go_enter Try.func32, Try.ntmps32
  go_wp2_with fail
  go_loopw [4] (fun i wr => ∃ k : Nat, k ≤ len ∧ i = .int .i64 k ∧ ToRel w wr d len k ts) (fun i _ => len - (intOf i).toNat)
  case atStart => exact ⟨0, by omega, rfl, ⟨(Below.refl _ _).alloc (Nat.le_refl _) _, ⟨C, heap_alloc_new _ _, hC⟩, fun i hi => by omega⟩⟩
  case round =>
    obtain ⟨k, hk, rfl, hR⟩ := hrel
    by_cases hlt : k < len
    · have hlt' : k < ts.length := by have := HL.out; omega
      have hbel := hR.bel
      have hsz := hbel.size
      obtain ⟨b, o, rfl, _, hbB, ao1, len1, cap1, c0, c1, c2, hs1⟩ := hs.2.2 k hlt'
      have e0 := (bcell hbel (by omega) _).trans c0
      have e1 := (bcell hbel (by omega) _).trans c1
      have e2 := (bcell hbel (by omega) _).trans c2
      have hs1 := hs1.below hbel hB
      have hc1 := cntS_get ts k hlt'
      go_wp2_with fail
      refine (IH _ _ _ _ _ _ _ _ _ (by omega) hs1 (by omega)).mono ?_
      rintro e w1 ⟨g, rfl, hb1, hs2⟩
      have hN := to_next hR hlt hlt' hb1 hs2
      obtain ⟨cs, hrow, hcsz⟩ := to_row hR hb1
      have f0 := row_cell hrow (k * 3)
      have f1 := row_cell hrow (k * 3 + 1)
      have f2 := row_cell hrow (k * 3 + 2)
      rw [Array.getElem?_eq_getElem (by omega)] at f0 f1 f2
      have r0 := row_free hrow (k * 3)
      have r1 := row_free hrow (k * 3 + 1)
      have r2 := row_free hrow (k * 3 + 2)
      clear hrow hs2 hR e0 e1 e2
      go_wp2_with fail
      go_roundw
      case rel => exact ⟨k + 1, by omega, by go_num, hN⟩
      case measure => simp [intOf]; omega
    · go_wp2_with fail
      go_ret
      refine ⟨_, rfl, hR.bel, ?_⟩
      have := HL.out
      refine ⟨this, by omega, fun i hi => ⟨_, _, rfl, Nat.le_refl _, to_lt hR, ?_⟩⟩
      rw [Nat.zero_add]
      exact (hR.els i (by omega) hi).wider fun _ _ _ h => h.keep (fun _ _ _ => rfl) (by omega) (Nat.le_refl _)

set_option maxHeartbeats 400000 in
theorem toTyS_zero : SaidToS 0 := by
  intro L B ao len cap ts w hB hs hcnt
  obtain ⟨rfl, rfl⟩ := hs
  obtain ⟨i0, hi, hz0, hz1, hz2⟩ := info_parts Try.infoTy
  have hmk : ∃ C : Array Value, ∀ w : World, (Instr.makeSlice 31 (.int .i64 0) (.int .i64 0)).run Try.prog w = .ok (.slice (some ⟨w.heap.size, 0, none⟩) 0 0) (w.alloc (.cells C 33)) := by
    refine ⟨madeCells (Value.cells (.agg #[.int .i64 0, .int .i64 0, .slice none 0 0])) (0 * 3), fun w => ?_⟩
    have := run_make (P := Try.prog) (w := w) 31 33 i0 _ Try.underlying31 hi hz0 .i64 .i64 0 0 (by omega) (by omega) (by omega) (by omega)
    rw [hz1] at this
    simpa using this
  obtain ⟨C, hmk⟩ := hmk
  go_enter Try.func32, Try.ntmps32
  go_wp2_with fail
  refine wp_loop_rounds 1 ?_; rw [rounds_succ]
  go_wp2_with fail
  go_ret
  exact ⟨_, rfl, (Below.refl _ _).alloc (Nat.le_refl _) _, rfl, rfl⟩

set_option maxHeartbeats 400000 in
theorem toTy_of (d : Nat) (h : SaidToS d) : SaidTo d := by
  intro L B k n ao len cap ts w hB hs hcnt
  obtain ⟨X, hX⟩ : ∃ X, X = (((w.alloc (.cells #[.int .i64 k, .int .i64 n, .slice ao len cap] 24)).alloc (.cells #[.int .i64 0, .int .i64 0, .slice none 0 0] 33)).alloc (.cells #[.int .i64 k, .int .i64 n, .slice none 0 0] 33)) := ⟨_, rfl⟩
  have hXs : X.heap.size = w.heap.size + 3 := by rw [hX]; simp
  have hXb : Below w.heap.size w X := by rw [hX]; exact (((Below.refl _ _).alloc (Nat.le_refl _) _).alloc (by simp) _).alloc (by simp; omega) _
  have hX1 : X.heap[w.heap.size + 1]? = some (.cells #[.int .i64 0, .int .i64 0, .slice none 0 0] 33 (0, 0)) := by
    rw [hX, Below.heap_alloc _ _ _ (by simp)]; exact heap_new (by simp)
  have hX2 : X.heap[w.heap.size + 1 + 1]? = some (.cells #[.int .i64 k, .int .i64 n, .slice none 0 0] 33 (0, 0)) := by
    rw [hX]; exact heap_new (by simp)
  have hs1 := hs.below hXb hB
  have HX : Hid (X = _) := hX
  clear hX
  go_enter Try.func31, Try.ntmps31
  go_wp2_with fail
  rw [← HX.out]
  refine (h _ _ _ _ _ _ _ (by omega) hs1 hcnt).mono ?_
  rintro e w1 ⟨g, rfl, hb1, hs2⟩
  have hw1 := hb1.size
  have y1 := (hb1.block _ (by omega)).trans hX1
  have y2 := (hb1.block _ (by omega)).trans hX2
  have f10 := row_cell y1 0
  have f11 := row_cell y1 1
  have f12 := row_cell y1 2
  have f20 := row_cell y2 0
  have f21 := row_cell y2 1
  have f22 := row_cell y2 2
  have r1 := row_free y1
  have r2 := row_free y2
  simp only [List.getElem?_toArray, List.getElem?_cons_zero, List.getElem?_cons_succ] at f10 f11 f12 f20 f21 f22
  have hbel : Below w.heap.size w w1 := hXb.trans (hb1.mono (by omega))
  clear hX1 hX2 y1 y2 hXb
  go_wp2_with fail
  refine bodyPost_ret (v := .agg #[.int .i64 k, .int .i64 n, .slice (some ⟨g, 0, none⟩) len len]) (by simp [results, Try.results31, go_sem, f10, f11, f12]) rfl ⟨g, rfl, ?_, ?_⟩
  · exact set3_below (hbel.setCell (p := ⟨w.heap.size + 1 + 1, 2, none⟩) (by show _ ≤ w.heap.size + 1 + 1; omega) _) (by omega)
  · refine hs2.keep (fun j hj _ => ?_) (by omega) (by simp)
    rw [row_other _ _ _ (by omega), row_other _ _ _ (by omega), row_other _ _ _ (by omega), row_other _ _ _ (by omega)]

theorem toTyS_any : ∀ d, SaidToS d := by
  intro d
  induction d with
  | zero => exact toTyS_zero
  | succ d ih => exact toTyS_succ d (toTy_of d ih)
theorem toTy_any (d : Nat) : SaidTo d := toTy_of d (toTyS_any d)

end Go.Proofs.Ytgckmnchlkgakaa
