/-
  What the model's 'l1Copy' comes to, once more: what it answers can be appended to.
-/
import Derived.Test.YtfjbgbnhjejchaaDoorLc
import Derived.Test.YtfjbgbnhjejchaaDoorDt
namespace Go.Proofs.YtfjbgbnhjejchaaDoor
open Go.RowKit
set_option linter.unusedVariables false
set_option linter.unusedSimpArgs false

theorem ap_base {base base' : Nat} {wr : World} {d : Nat} {v : Value} {k : Nat} {ts : List Tr} (hb : base' ≤ base) (h : ApRel base wr d v k ts) : ApRel base' wr d v k ts := by
  obtain ⟨xs, hown, bss, hbl, hnd, hrng, hE⟩ := h.own
  refine ⟨xs, ⟨hown.1, ?_⟩, bss, hbl, hnd, fun b hb' => ⟨Nat.le_trans hb (hrng b hb').1, (hrng b hb').2⟩, hE⟩
  rcases hown.2 with hn | ⟨g, cap, cur, e, hg, r⟩
  · exact Or.inl hn
  · exact Or.inr ⟨g, cap, cur, e, by omega, r⟩

def SaidLc2 (d : Nat) : Prop := ∀ (L B : Nat) (k n : Int) (ao : Option Addr) (len cap : Nat) (ts : List Tr) (w : World), B ≤ w.heap.size → Hs L B w d ao len ts → cntS ts ≤ 1048576 →
    Calls Tryd.prog 52 #[.agg #[.int .i64 k, .int .i64 n, .slice ao len cap]] w fun e w' => ∃ v, e = .returned (.agg #[.int .i64 k, .int .i64 n, v]) ∧ Below w.heap.size w w' ∧ ApRel w.heap.size w' (d - 1) v ts.length ts

set_option maxRecDepth 100000 in
set_option maxHeartbeats 2000000 in
theorem lc2_succ (d : Nat) : SaidLc2 (d + 1) := by
  have IH := lc_any d
  intro L B k n ao len capA ts w hB hs hcnt
  have hl : len ≤ 1048576 := by have := hs.1; have := cntS_eq ts; omega
  have HL : Hid (len = ts.length) := hs.1
  obtain ⟨X, hX⟩ : ∃ X, X = (((w.alloc (.cells #[.int .i64 k, .int .i64 n, .slice ao len capA] 29)).alloc (.cells #[.int .i64 0, .int .i64 0, .slice none 0 0] 29)).alloc (.cells #[.int .i64 k, .int .i64 n, .slice none 0 0] 29)) := ⟨_, rfl⟩
  have hXs : X.heap.size = w.heap.size + 3 := by rw [hX]; simp
  have hXb : Below w.heap.size w X := by rw [hX]; exact (((Below.refl _ _).alloc (Nat.le_refl _) _).alloc (by simp) _).alloc (by simp; omega) _
  have hX0 : X.heap[w.heap.size]? = some (.cells #[.int .i64 k, .int .i64 n, .slice ao len capA] 29 (0, 0)) := by rw [hX, Below.heap_alloc _ _ _ (by simp only [World.size_alloc]; omega), Below.heap_alloc _ _ _ (by simp only [World.size_alloc]; omega)]; exact heap_new rfl
  have hX2 : X.heap[w.heap.size + 1 + 1]? = some (.cells #[.int .i64 k, .int .i64 n, .slice none 0 0] 29 (0, 0)) := by rw [hX]; exact heap_new (by simp)
  have hX1 : X.heap[w.heap.size + 1]? = some (.cells #[.int .i64 0, .int .i64 0, .slice none 0 0] 29 (0, 0)) := by rw [hX, Below.heap_alloc _ _ _ (by simp only [World.size_alloc]; omega)]; exact heap_new (by simp)
  have HX : Hid (X = _) := hX
  have hStart : LcRel w X d 0 #[.int .i64 k, .int .i64 n, .slice ao len capA] #[] (.slice none 0 0) k n w.heap.size (w.heap.size + 1 + 1) ts := ⟨hXb, hX0, hX2, ap_nil _ _ _ _⟩
  have HX1 : Hid (_ = _) := hX1
  clear hX hX0 hX1 hX2
  go_enter Tryd.func52, Tryd.ntmps52
  go_wp2_with fail
  rw [← HX.out]
  go_loopw [4] (fun i wr => ∃ (j : Nat) (v : Value), j ≤ len ∧ i = .int .i64 j ∧ Below (w.heap.size + 1 + 1) X wr ∧ LcRel w wr d j #[.int .i64 k, .int .i64 n, .slice ao len capA] #[] v k n w.heap.size (w.heap.size + 1 + 1) ts) (fun i _ => len - (intOf i).toNat)
  case atStart => exact ⟨0, _, by omega, rfl, Below.refl _ _, hStart⟩
  case round =>
    obtain ⟨j, v, hj, rfl, hbX, hR⟩ := hrel
    have hbel := hR.bel
    have hszr : w.heap.size + 3 ≤ wr.heap.size := by have := hbX.size; omega
    obtain ⟨x0, x1, x2⟩ := box_cells hR.hbox
    obtain ⟨y0, y1, y2⟩ := box_cells hR.hout
    clear x0 x1
    by_cases hlt : j < len
    · have hlt' : j < ts.length := by have := HL.out; omega
      obtain ⟨b, o, rfl, _, hbB, ao1, len1, cap1, c0, c1, c2, hs1⟩ := hs.2.2 j hlt'
      have e0 := (bcell hbel (by omega) _).trans c0
      have e1 := (bcell hbel (by omega) _).trans c1
      have e2 := (bcell hbel (by omega) _).trans c2
      have hs2 := (hs1.below hbel hB).drew
      have hc1 := cntS_get ts j hlt'
      have hapd : ApRel (w.heap.size + 1 + 1 + 1) wr.drew d v j ts := ap_below hR.ap (Below.refl _ _).drew
      have APR : Hid (∀ (w1 : World) (ao3 : Option Addr) (len3 cap3 : Nat), Below wr.drew.heap.size wr.drew w1 → OwR wr.drew.heap.size w1.heap.size w1 d ao3 len3 ts[j].A → ∃ g cap w2, (Builtin.append_ #[27, 27] 27 #[v, .slice (some ⟨w1.heap.size, 0, none⟩) 1 1]).run Tryd.prog (w1.alloc (.cells #[.int .i64 ts[j].K, .int .i64 ts[j].N, .slice ao3 len3 cap3] 29)) = .ok (.slice (some ⟨g, 0, none⟩) (j + 1) cap) w2 ∧
          LcRel w (w2.setCell ⟨w.heap.size + 1 + 1, 2, none⟩ (.slice (some ⟨g, 0, none⟩) (j + 1) cap)) d (j + 1) #[.int .i64 k, .int .i64 n, .slice (some ⟨b, o, none⟩) len capA] #[] (.slice (some ⟨g, 0, none⟩) (j + 1) cap) k n w.heap.size (w.heap.size + 1 + 1) ts ∧ Below (w.heap.size + 1 + 1) X (w2.setCell ⟨w.heap.size + 1 + 1, 2, none⟩ (.slice (some ⟨g, 0, none⟩) (j + 1) cap)) ∧
          w2.cell? ⟨w.heap.size + 1 + 1, 2, none⟩ = some v ∧ w2.frozen? ⟨w.heap.size + 1 + 1, 2, none⟩ = false) := by
        intro w1 ao3 len3 cap3 hb1 ho1
        obtain ⟨g, cp, w2, hrun, hap2, hbe2⟩ := ap_run hapd hlt' (by have := HL.out; omega) hb1 (show w.heap.size + 1 + 1 + 1 ≤ wr.heap.size by omega) ho1
        have hbe3 : Below (w.heap.size + 1 + 1 + 1) wr w2 := (Below.refl _ _).drew.trans hbe2
        have q := (hbe3.block (w.heap.size + 1 + 1) (by omega)).trans hR.hout
        refine ⟨g, cp, w2, hrun, ⟨(hbel.trans (hbe3.mono (by omega))).setCell (p := ⟨w.heap.size + 1 + 1, 2, none⟩) (show w.heap.size ≤ w.heap.size + 1 + 1 by omega) _, ?_, ?_, ap_set hap2 (by omega) _⟩, (hbX.trans (hbe3.mono (by omega))).setCell (p := ⟨w.heap.size + 1 + 1, 2, none⟩) (Nat.le_refl _) _, (box_cells q).2.2, row_free q 2⟩
        · rw [row_other _ _ _ (by omega)]
          exact (hbe3.block w.heap.size (by omega)).trans hR.hbox
        · rw [row_set q]
          rfl
      clear c0 c1 c2
      go_wp2_with fail
      go_region_law (first | (refine step_run hrun (by rfl) _ _ (by rfl) (by rfl) (by rfl) (by rfl) ?_) | (go_simp; go_at_call 52; refine (IH L B _ _ _ _ _ (ts[j]'hlt').A _ ?_ hs2 ?_).mono ?_; (show B ≤ wr.heap.size; omega); omega; rintro e w1 ⟨ao3, len3, cap3, rfl, hb1, ho1⟩; have hz1 : w.heap.size + 1 + 1 < w1.heap.size := Nat.lt_of_lt_of_le (show w.heap.size + 1 + 1 < wr.heap.size by omega) hb1.size; have a2 := (bcell hb1 (show w.heap.size + 1 + 1 < wr.heap.size by omega) 2).trans y2; have a3 : (w1.alloc (.cells #[.int .i64 ts[j].K, .int .i64 ts[j].N, .slice ao3 len3 cap3] 29)).cell? ⟨w.heap.size + 1 + 1, 2, none⟩ = some v := (World.cell?_of_block (Below.heap_alloc _ _ _ hz1)).trans a2; obtain ⟨g, cp, w2, hrun, hN, hbX2, q2, q3⟩ := APR.out w1 ao3 len3 cap3 hb1 ho1))
      all_goals
        clear e0 e1 e2 y0 y1 y2 x2 a2 a3 hrun q2 q3
        go_wp2_with fail
        go_roundw
        case rel => exact ⟨j + 1, _, by omega, by go_num, hbX2, hN⟩
        case measure => simp [intOf]; omega
    · have hlj : j = ts.length := by have := HL.out; omega
      have HJ : Hid (j = ts.length) := hlj
      obtain ⟨ao2, cap2, rfl⟩ := ap_form hR.ap
      have hap := hR.ap
      have r := (hbX.block (w.heap.size + 1) (by omega)).trans HX1.out
      obtain ⟨r0, r1, r2⟩ := box_cells r
      have r3 := row_free r
      clear r hlj
      go_wp2_with fail
      refine bodyPost_ret (v := .agg #[.int .i64 k, .int .i64 n, .slice ao2 j cap2]) (by simp [results, Tryd.results52, go_sem, r0, r1, r2]) rfl ⟨_, rfl, ?_, ?_⟩
      · exact set3_below hbel (by omega)
      · rw [← HJ.out]
        exact ap_base (by omega) (ap_set (ap_set (ap_set hap (by omega) _) (by omega) _) (by omega) _)

set_option maxHeartbeats 400000 in
theorem lc2_zero : SaidLc2 0 := by
  intro L B k n ao len cap ts w hB hs hcnt
  obtain ⟨rfl, rfl⟩ := hs
  go_enter Tryd.func52, Tryd.ntmps52
  go_wp2_with fail
  refine wp_loop_rounds 1 ?_; rw [rounds_succ]
  go_wp2_with fail
  refine bodyPost_ret (v := .agg #[.int .i64 k, .int .i64 n, .slice none 0 0]) (by simp [results, Tryd.results52, go_sem]) rfl ⟨_, rfl, ?_, ap_nil _ _ _ _⟩
  exact (((Below.refl _ _).alloc (Nat.le_refl _) _).alloc (by simp) _).alloc (by simp; omega) _

theorem lc2_any (d : Nat) : SaidLc2 d := by
  cases d with
  | zero => exact lc2_zero
  | succ d => exact lc2_succ d

end Go.Proofs.YtfjbgbnhjejchaaDoor
