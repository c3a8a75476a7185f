/-
  What the model's 'l1Copy' comes to: the same tree in new memory.
-/
import Derived.Test.YtgckmnchlkgakaaNdaZ33
import Derived.Test.YtgckmnchlkgakaaNdaZ13
import Derived.Test.YtgckmnchlkgakaaNdaZ6
import Derived.Deep.RegionWith
import Derived.Deep.RegionLaw
namespace Go.Proofs.Ytgckmnchlkgakaa
open Go.RowKit
set_option linter.unusedVariables false
set_option linter.unusedSimpArgs false

def SaidLc (d : Nat) : Prop := ∀ (L B : Nat) (k n : Int) (ao : Option Addr) (len cap : Nat) (ts : List Tr) (w : World), B ≤ w.heap.size → Hs L B w d ao len ts → cntS ts ≤ 1048576 →
    Calls Try.prog 65 #[.agg #[.int .i64 k, .int .i64 n, .slice ao len cap]] w fun e w' => ∃ ao2 len2 cap2, e = .returned (.agg #[.int .i64 k, .int .i64 n, .slice ao2 len2 cap2]) ∧ Below w.heap.size w w' ∧ OwR w.heap.size w'.heap.size w' d ao2 len2 ts

/-- What the loop of 'l1Copy' (and of 'l1Put') keeps: the argument's box, the block of what is built, what it has so far. -/
structure LcRel (w wr : World) (d kk : Nat) (box out : Array Value) (v : Value) (K N : Int) (g0 go : Nat) (ts : List Tr) : Prop where
  bel : Below w.heap.size w wr
  hbox : wr.heap[g0]? = some (.cells box 33 (0, 0))
  hout : wr.heap[go]? = some (.cells #[.int .i64 K, .int .i64 N, v] 33 (0, 0))
  ap : ApRel (go + 1) wr d v kk ts

set_option maxRecDepth 100000 in
set_option maxHeartbeats 2000000 in
theorem lc_succ (d : Nat) (IH : SaidLc d) : SaidLc (d + 1) := by
  intro L B k n ao len capA ts w hB hs hcnt
  have hl : len ≤ 1048576 := by have := hs.1; have := cntS_eq ts; omega
  have HL : Hid (len = ts.length) := hs.1
  obtain ⟨X, hX⟩ : ∃ X, X = (((w.alloc (.cells #[.int .i64 k, .int .i64 n, .slice ao len capA] 33)).alloc (.cells #[.int .i64 0, .int .i64 0, .slice none 0 0] 33)).alloc (.cells #[.int .i64 k, .int .i64 n, .slice none 0 0] 33)) := ⟨_, rfl⟩
  have hXs : X.heap.size = w.heap.size + 3 := by rw [hX]; simp
  have hXb : Below w.heap.size w X := by rw [hX]; exact (((Below.refl _ _).alloc (Nat.le_refl _) _).alloc (by simp) _).alloc (by simp; omega) _
  have hX0 : X.heap[w.heap.size]? = some (.cells #[.int .i64 k, .int .i64 n, .slice ao len capA] 33 (0, 0)) := by rw [hX, Below.heap_alloc _ _ _ (by simp only [World.size_alloc]; omega), Below.heap_alloc _ _ _ (by simp only [World.size_alloc]; omega)]; exact heap_new rfl
  have hX2 : X.heap[w.heap.size + 1 + 1]? = some (.cells #[.int .i64 k, .int .i64 n, .slice none 0 0] 33 (0, 0)) := by rw [hX]; exact heap_new (by simp)
  have hX1 : X.heap[w.heap.size + 1]? = some (.cells #[.int .i64 0, .int .i64 0, .slice none 0 0] 33 (0, 0)) := by rw [hX, Below.heap_alloc _ _ _ (by simp only [World.size_alloc]; omega)]; exact heap_new (by simp)
  have HX : Hid (X = _) := hX
  have hStart : LcRel w X d 0 #[.int .i64 k, .int .i64 n, .slice ao len capA] #[] (.slice none 0 0) k n w.heap.size (w.heap.size + 1 + 1) ts := ⟨hXb, hX0, hX2, ap_nil _ _ _ _⟩
  have HX1 : Hid (_ = _) := hX1
  clear hX hX0 hX1 hX2
  go_enter Try.func65, Try.ntmps65
  go_wp2_with fail
  rw [← HX.out]
  go_loopw [4] (fun i wr => ∃ (j : Nat) (v : Value), j ≤ len ∧ i = .int .i64 j ∧ Below (w.heap.size + 1 + 1) X wr ∧ LcRel w wr d j #[.int .i64 k, .int .i64 n, .slice ao len capA] #[] v k n w.heap.size (w.heap.size + 1 + 1) ts) (fun i _ => len - (intOf i).toNat)
  case atStart => exact ⟨0, _, by omega, rfl, Below.refl _ _, hStart⟩
  case round =>
    obtain ⟨j, v, hj, rfl, hbX, hR⟩ := hrel
    have hbel := hR.bel
    have hszr : w.heap.size + 3 ≤ wr.heap.size := by have := hbX.size; omega
    obtain ⟨x0, x1, x2⟩ := box_cells hR.hbox
    obtain ⟨y0, y1, y2⟩ := box_cells hR.hout
    clear x0 x1
    by_cases hlt : j < len
    · have hlt' : j < ts.length := by have := HL.out; omega
      obtain ⟨b, o, rfl, _, hbB, ao1, len1, cap1, c0, c1, c2, hs1⟩ := hs.2.2 j hlt'
      have e0 := (bcell hbel (by omega) _).trans c0
      have e1 := (bcell hbel (by omega) _).trans c1
      have e2 := (bcell hbel (by omega) _).trans c2
      have hs2 := (hs1.below hbel hB).drew
      have hc1 := cntS_get ts j hlt'
      have hapd : ApRel (w.heap.size + 1 + 1 + 1) wr.drew d v j ts := ap_below hR.ap (Below.refl _ _).drew
      have APR : Hid (∀ (w1 : World) (ao3 : Option Addr) (len3 cap3 : Nat), Below wr.drew.heap.size wr.drew w1 → OwR wr.drew.heap.size w1.heap.size w1 d ao3 len3 ts[j].A → ∃ g cap w2, (Builtin.append_ #[31, 31] 31 #[v, .slice (some ⟨w1.heap.size, 0, none⟩) 1 1]).run Try.prog (w1.alloc (.cells #[.int .i64 ts[j].K, .int .i64 ts[j].N, .slice ao3 len3 cap3] 33)) = .ok (.slice (some ⟨g, 0, none⟩) (j + 1) cap) w2 ∧
          LcRel w (w2.setCell ⟨w.heap.size + 1 + 1, 2, none⟩ (.slice (some ⟨g, 0, none⟩) (j + 1) cap)) d (j + 1) #[.int .i64 k, .int .i64 n, .slice (some ⟨b, o, none⟩) len capA] #[] (.slice (some ⟨g, 0, none⟩) (j + 1) cap) k n w.heap.size (w.heap.size + 1 + 1) ts ∧ Below (w.heap.size + 1 + 1) X (w2.setCell ⟨w.heap.size + 1 + 1, 2, none⟩ (.slice (some ⟨g, 0, none⟩) (j + 1) cap)) ∧
          w2.cell? ⟨w.heap.size + 1 + 1, 2, none⟩ = some v ∧ w2.frozen? ⟨w.heap.size + 1 + 1, 2, none⟩ = false) := by
        intro w1 ao3 len3 cap3 hb1 ho1
        obtain ⟨g, cp, w2, hrun, hap2, hbe2⟩ := ap_run hapd hlt' (by have := HL.out; omega) hb1 (show w.heap.size + 1 + 1 + 1 ≤ wr.heap.size by omega) ho1
        have hbe3 : Below (w.heap.size + 1 + 1 + 1) wr w2 := (Below.refl _ _).drew.trans hbe2
        have q := (hbe3.block (w.heap.size + 1 + 1) (by omega)).trans hR.hout
        refine ⟨g, cp, w2, hrun, ⟨(hbel.trans (hbe3.mono (by omega))).setCell (p := ⟨w.heap.size + 1 + 1, 2, none⟩) (show w.heap.size ≤ w.heap.size + 1 + 1 by omega) _, ?_, ?_, ap_set hap2 (by omega) _⟩, (hbX.trans (hbe3.mono (by omega))).setCell (p := ⟨w.heap.size + 1 + 1, 2, none⟩) (Nat.le_refl _) _, (box_cells q).2.2, row_free q 2⟩
        · rw [row_other _ _ _ (by omega)]
          exact (hbe3.block w.heap.size (by omega)).trans hR.hbox
        · rw [row_set q]
          rfl
      clear c0 c1 c2
      go_wp2_with fail
      go_region_law (first | (refine step_run hrun (by rfl) _ _ (by rfl) (by rfl) (by rfl) (by rfl) ?_) | (go_simp; go_at_call 65; refine (IH L B _ _ _ _ _ (ts[j]'hlt').A _ ?_ hs2 ?_).mono ?_; (show B ≤ wr.heap.size; omega); omega; rintro e w1 ⟨ao3, len3, cap3, rfl, hb1, ho1⟩; have hz1 : w.heap.size + 1 + 1 < w1.heap.size := Nat.lt_of_lt_of_le (show w.heap.size + 1 + 1 < wr.heap.size by omega) hb1.size; have a2 := (bcell hb1 (show w.heap.size + 1 + 1 < wr.heap.size by omega) 2).trans y2; have a3 : (w1.alloc (.cells #[.int .i64 ts[j].K, .int .i64 ts[j].N, .slice ao3 len3 cap3] 33)).cell? ⟨w.heap.size + 1 + 1, 2, none⟩ = some v := (World.cell?_of_block (Below.heap_alloc _ _ _ hz1)).trans a2; obtain ⟨g, cp, w2, hrun, hN, hbX2, q2, q3⟩ := APR.out w1 ao3 len3 cap3 hb1 ho1))
      all_goals
        clear e0 e1 e2 y0 y1 y2 x2 a2 a3 hrun q2 q3
        go_wp2_with fail
        go_roundw
        case rel => exact ⟨j + 1, _, by omega, by go_num, hbX2, hN⟩
        case measure => simp [intOf]; omega
    · obtain ⟨ao2, cap2, rfl, ho2⟩ := ap_done hR.ap (by have := HL.out; omega) (by omega)
      have r := (hbX.block (w.heap.size + 1) (by omega)).trans HX1.out
      obtain ⟨r0, r1, r2⟩ := box_cells r
      have r3 := row_free r
      clear r
      go_wp2_with fail
      obtain rfl : j = len := by omega
      refine bodyPost_ret (v := .agg #[.int .i64 k, .int .i64 n, .slice ao2 j cap2]) (by simp [results, Try.results65, go_sem, r0, r1, r2]) rfl ⟨ao2, j, cap2, rfl, ?_, ?_⟩
      · exact set3_below hbel (by omega)
      · refine ho2.keep (fun q hq _ => ?_) (by omega) (by simp)
        rw [row_other _ _ _ (by omega), row_other _ _ _ (by omega), row_other _ _ _ (by omega)]

set_option maxHeartbeats 400000 in
theorem lc_zero : SaidLc 0 := by
  intro L B k n ao len cap ts w hB hs hcnt
  obtain ⟨rfl, rfl⟩ := hs
  go_enter Try.func65, Try.ntmps65
  go_wp2_with fail
  refine wp_loop_rounds 1 ?_; rw [rounds_succ]
  go_wp2_with fail
  refine bodyPost_ret (v := .agg #[.int .i64 k, .int .i64 n, .slice none 0 0]) (by simp [results, Try.results65, go_sem]) rfl ⟨none, 0, 0, rfl, ?_, OwR.nil _ _ _ _ _⟩
  exact (((Below.refl _ _).alloc (Nat.le_refl _) _).alloc (by simp) _).alloc (by simp; omega) _

theorem lc_any : ∀ d, SaidLc d := by
  intro d
  induction d with
  | zero => exact lc_zero
  | succ d ih => exact lc_succ d ih

end Go.Proofs.Ytgckmnchlkgakaa
