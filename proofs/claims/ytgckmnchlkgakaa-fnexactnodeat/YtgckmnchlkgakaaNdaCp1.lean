/-
  What the program's 'mapTys' comes to: a new row, each element what the function that was handed in makes of the old one; and 'copyTy'.
-/
import Derived.Test.YtgckmnchlkgakaaNdaZ13
import Derived.Test.YtgckmnchlkgakaaNdaOw
import Derived.Deep.RegionHeld3
namespace Go.Proofs.Ytgckmnchlkgakaa
open Go.RowKit
set_option linter.unusedVariables false
set_option linter.unusedSimpArgs false

/-- What the function that is handed in does at each element, in whatever world that has come of w. -/
def MapCall0 (w : World) (L B d d' : Nat) (ts R : List Tr) : Prop := ∀ i (hi : i < ts.length) (hr : i < R.length) (ao1 : Option Addr) (len1 cap1 : Nat) (w' : World), Below w.heap.size w w' → Hs L B w' d ao1 len1 ts[i].A →
    Calls Try.prog 94 #[.agg #[.int .i64 ts[i].K, .int .i64 ts[i].N, .slice ao1 len1 cap1]] w' fun e w'' => ∃ ao2 len2 cap2, e = .returned (.agg #[.int .i64 R[i].K, .int .i64 R[i].N, .slice ao2 len2 cap2]) ∧ Below w'.heap.size w' w'' ∧ OwR w'.heap.size w''.heap.size w'' d' ao2 len2 R[i].A

set_option maxHeartbeats 800000 in
theorem mapTys0_any (L B d d' : Nat) (ao : Option Addr) (len cap : Nat) (ts R : List Tr) (w : World) (hB : B ≤ w.heap.size) (hs : Hs L B w (d + 1) ao len ts) (hl : len ≤ 1048576) (hR : R.length = ts.length) (hcall : MapCall0 w L B d d' ts R) :
    Calls Try.prog 95 #[.slice ao len cap, .func (Fn.func 94) #[] #[]] w fun e w' => ∃ ao2 cap2, e = .returned (.slice ao2 len cap2) ∧ Below w.heap.size w w' ∧ OwR w.heap.size w'.heap.size w' (d' + 1) ao2 len R := by
  have HL : Hid (len = ts.length) := hs.1
  have HR : Hid (R.length = ts.length) := hR
  clear hR
  by_cases h0 : len = 0
  · have hb0 : ((len : Int) == 0) = true := by simp [h0]
    have H0 : Hid (len = 0) := h0
    clear h0
    go_enter Try.func95, Try.ntmps95
    go_wp2_with fail
    go_ret
    have e0 := H0.out
    have eR : R = [] := List.length_eq_zero_iff.1 (by rw [HR.out, ← HL.out]; exact e0)
    subst eR
    subst e0
    exact ⟨none, 0, rfl, Below.refl _ _, OwR.nil _ _ _ _ _⟩
  have hb0 : ((len : Int) == 0) = false := by simp [h0]
  clear h0
  obtain ⟨C, hC, hmk⟩ := make_ty len hl
  go_enter Try.func95, Try.ntmps95
  go_wp2_with fail
  clear hb0 hmk
  go_loopw [16] (fun i wr => ∃ k : Nat, k ≤ len ∧ i = .int .i64 k ∧ RowRel w wr d' len k R) (fun i _ => len - (intOf i).toNat)
  case atStart => exact ⟨0, by omega, rfl, rr_start hC⟩
  case round =>
    obtain ⟨k, hk, rfl, hR⟩ := hrel
    by_cases hlt : k < len
    · have hlt' : k < ts.length := by have := HL.out; omega
      have hltR : k < R.length := by have := HR.out; omega
      have hbel := hR.bel
      have hsz := hbel.size
      obtain ⟨b, o, rfl, _, hbB, ao1, len1, cap1, c0, c1, c2, hs1⟩ := hs.2.2 k hlt'
      have e0 := (bcell hbel (by omega) _).trans c0
      have e1 := (bcell hbel (by omega) _).trans c1
      have e2 := (bcell hbel (by omega) _).trans c2
      have hba : Below wr.heap.size wr (wr.alloc (.cells #[.int .i64 ts[k].K, .int .i64 ts[k].N, .slice ao1 len1 cap1] 33)) := (Below.refl _ _).alloc (Nat.le_refl _) _
      have hs2 := (hs1.below hbel hB).below hba (by omega)
      go_wp2_with fail
      refine (hcall k hlt' hltR ao1 len1 cap1 _ (hbel.trans (hba.mono hsz)) hs2).mono ?_
      rintro e w1 ⟨ao2, len2, cap2, rfl, hb1, hs3⟩
      have hb1' : Below wr.heap.size wr w1 := hba.trans (hb1.mono (by simp))
      have hN := rr_next (cap1 := cap2) hR hlt hltR hb1' (hs3.keep (fun _ _ _ => rfl) (by simp) (Nat.le_refl _))
      obtain ⟨cs, hrow, hcsz⟩ := rr_row hR hb1'
      have f0 := row_cell hrow (k * 3)
      have f1 := row_cell hrow (k * 3 + 1)
      have f2 := row_cell hrow (k * 3 + 2)
      rw [Array.getElem?_eq_getElem (by omega)] at f0 f1 f2
      have r0 := row_free hrow (k * 3)
      have r1 := row_free hrow (k * 3 + 1)
      have r2 := row_free hrow (k * 3 + 2)
      clear hrow hs3 hR e0 e1 e2
      go_wp2_with fail
      go_roundw
      case rel => exact ⟨k + 1, by omega, by go_num, hN⟩
      case measure => simp [intOf]; omega
    · go_wp2_with fail
      go_ret
      obtain rfl : k = len := by omega
      exact ⟨_, _, rfl, hR.bel, rr_done hR (by rw [HR.out]; exact HL.out) (by omega)⟩

def SaidCp (d : Nat) : Prop := ∀ (L B : Nat) (k n : Int) (ao : Option Addr) (len cap : Nat) (ts : List Tr) (w : World), B ≤ w.heap.size → Hs L B w d ao len ts → cntS ts ≤ 1048576 →
    Calls Try.prog 94 #[.agg #[.int .i64 k, .int .i64 n, .slice ao len cap]] w fun e w' => ∃ ao2 len2 cap2, e = .returned (.agg #[.int .i64 k, .int .i64 n, .slice ao2 len2 cap2]) ∧ Below w.heap.size w w' ∧ OwR w.heap.size w'.heap.size w' d ao2 len2 ts

set_option maxHeartbeats 800000 in
theorem copy_of (d d1 : Nat) (hd : d1 = d + 1) (L B : Nat) (k n : Int) (ao : Option Addr) (len cap : Nat) (ts : List Tr) (w : World) (hB : B ≤ w.heap.size) (hs : Hs L B w d1 ao len ts) (hcnt : cntS ts ≤ 1048576)
    (hcall : ∀ w0 : World, Below w.heap.size w w0 → MapCall0 w0 L B d d ts ts) :
    Calls Try.prog 94 #[.agg #[.int .i64 k, .int .i64 n, .slice ao len cap]] w fun e w' => ∃ ao2 len2 cap2, e = .returned (.agg #[.int .i64 k, .int .i64 n, .slice ao2 len2 cap2]) ∧ Below w.heap.size w w' ∧ OwR w.heap.size w'.heap.size w' d1 ao2 len2 ts := by
  subst hd
  have hl : len ≤ 1048576 := by have := hs.1; have := cntS_eq ts; omega
  obtain ⟨X, hX⟩ : ∃ X, X = ((w.alloc (.cells #[.int .i64 k, .int .i64 n, .slice ao len cap] 33)).alloc (.cells #[.int .i64 0, .int .i64 0, .slice none 0 0] 33)) := ⟨_, rfl⟩
  have hXs : X.heap.size = w.heap.size + 2 := by rw [hX]; simp
  have hXb : Below w.heap.size w X := by rw [hX]; exact ((Below.refl _ _).alloc (Nat.le_refl _) _).alloc (by simp) _
  have hX0 : X.heap[w.heap.size]? = some (.cells #[.int .i64 k, .int .i64 n, .slice ao len cap] 33 (0, 0)) := by rw [hX, Below.heap_alloc _ _ _ (by simp)]; exact heap_new rfl
  have hX1 : X.heap[w.heap.size + 1]? = some (.cells #[.int .i64 0, .int .i64 0, .slice none 0 0] 33 (0, 0)) := by rw [hX]; exact heap_new (by simp)
  have hs1 := (hs.below hXb hB).drew
  have HX : Hid (X = _) := hX
  have HC : Hid (MapCall0 X.drew L B d d ts ts) := hcall _ hXb.drew
  clear hX hcall
  obtain ⟨p0, p1, p2⟩ := box_cells hX0
  go_enter Try.func94, Try.ntmps94
  go_wp2_with fail
  rw [← HX.out]
  go_region_held3 (fun w' => w'.cell? ⟨w.heap.size, 0, none⟩ = some (.int .i64 k) ∧ w'.cell? ⟨w.heap.size, 1, none⟩ = some (.int .i64 n) ∧ w'.cell? ⟨w.heap.size, 2, none⟩ = some (.slice ao len cap)) (first | (refine ⟨?_, ?_, ?_⟩; exact p0; exact p1; exact p2) | (refine ⟨?_, ?_, ?_⟩; exact z0; exact z1; exact z2) | (refine ⟨?_, ?_, ?_⟩ <;> simp [World.cell?_setCell_other, z0, z1, z2])) ((go_at_call 95; refine (mapTys0_any L B d d _ _ _ ts ts _ ?_ hs1 hl rfl HC.out).mono ?_; (show B ≤ X.heap.size; omega); rintro e w1 ⟨ao2, cap2, rfl, hb1, hs2⟩; have z0 := (bcell hb1 (show w.heap.size < X.heap.size by omega) 0).trans p0; have z1 := (bcell hb1 (show w.heap.size < X.heap.size by omega) 1).trans p1; have z2 := (bcell hb1 (show w.heap.size < X.heap.size by omega) 2).trans p2; obtain ⟨y0, y1, y2⟩ := box_cells ((hb1.block (w.heap.size + 1) (show w.heap.size + 1 < X.heap.size by omega)).trans hX1); have y3 := row_free ((hb1.block (w.heap.size + 1) (show w.heap.size + 1 < X.heap.size by omega)).trans hX1)))
  all_goals
    have hbw : Below w.heap.size w w1 := hXb.drew.trans (hb1.mono (show w.heap.size ≤ X.heap.size by omega))
    go_wp2_with fail
    refine bodyPost_ret (v := .agg #[.int .i64 k, .int .i64 n, .slice ao2 len cap2]) (by simp [results, Try.results94, go_sem, y0, y1, y2]) rfl ⟨ao2, len, cap2, rfl, ?_, ?_⟩
    · exact set3_below hbw (by omega)
    · refine hs2.keep (fun j hj _ => ?_) (show w.heap.size ≤ X.heap.size by omega) (by simp)
      have hj' : X.heap.size ≤ j := hj
      rw [row_other _ _ _ (by omega), row_other _ _ _ (by omega), row_other _ _ _ (by omega)]

theorem copyP_any : ∀ d, SaidCp d := by
  intro d
  induction d with
  | zero =>
    intro L B k n ao len cap ts w hB hs hcnt
    have hts := hs.2
    subst hts
    refine (copy_of 0 1 rfl L B k n ao len cap [] w hB hs.up hcnt (fun w0 _ i hi => by simp at hi)).mono ?_
    rintro e w' ⟨ao2, len2, cap2, he, hb, ho⟩
    have h0 := ho.len0
    subst h0
    exact ⟨ao2, 0, cap2, he, hb, OwR.nil _ _ _ _ _⟩
  | succ d ih =>
    intro L B k n ao len cap ts w hB hs hcnt
    refine copy_of d (d + 1) rfl L B k n ao len cap ts w hB hs hcnt (fun w0 hb0 i hi hr ao1 len1 cap1 w' hb' hs' => ?_)
    have hc := cntS_get ts i hi
    exact ih L B _ _ _ _ _ _ _ (by have := hb0.size; have := hb'.size; omega) hs' (by omega)

end Go.Proofs.Ytgckmnchlkgakaa
