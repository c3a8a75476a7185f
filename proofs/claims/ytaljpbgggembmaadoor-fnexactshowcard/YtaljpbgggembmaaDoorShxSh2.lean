/-
  The model's 'l12Heads' and 'HeapOk'.
-/
import Derived.Test.YtaljpbgggembmaaDoorShxSh1
namespace Go.Proofs.YtaljpbgggembmaaDoor
open Go.RowKit
set_option linter.unusedVariables false
set_option linter.unusedSimpArgs false

theorem Tryd.infoBool : (Tryd.prog.info? 4).map (fun i => (i.zero, i.size, i.bytes)) = some (some (.bool false), 1, 1) := by kernel_rfl

theorem make_bools (t : TypeId) (ht : Tryd.prog.underlying t = some (.slice 4)) (len : Nat) (hl : len ≤ 1048576) (w : World) :
    ∃ C : Array Value, (Instr.makeSlice t (.int .i64 (len : Int)) (.int .i64 (len : Int))).run Tryd.prog w = .ok (.slice (some ⟨w.heap.size, 0, none⟩) len len) (w.alloc (.cells C 4)) ∧ C = ((List.replicate len false).map Value.bool).toArray := by
  obtain ⟨i0, hi, hz0, hz1, hz2⟩ := info_parts Tryd.infoBool
  refine ⟨madeCells (Value.cells (.bool false)) (len * 1), ?_, ?_⟩
  · have := run_make (P := Tryd.prog) (w := w) t 4 i0 _ ht hi hz0 .i64 .i64 (len : Int) (len : Int) (by omega) (by omega) (by rw [hz2]; omega) (by omega)
    rw [hz1] at this
    simpa using this
  · apply Array.ext'
    rw [show Value.cells (.bool false) = #[.bool false] from rfl, toList_madeCells_one]
    simp

set_option maxRecDepth 100000 in
set_option maxHeartbeats 2000000 in
theorem l12Heads_any (L B : Nat) (ao : Option Addr) (len cap : Nat) (l : List Wrd) (w : World) (hB : B ≤ w.heap.size) (hs : Ws L B w ao len l) (hl : len ≤ 1048576) :
    Calls Tryd.prog 19 #[.slice ao len cap] w fun e w' => e = .returned (.tuple #[.slice (some ⟨w.heap.size, 0, none⟩) len len, .bool (decide (endO l = l.length))]) ∧ Below w.heap.size w w' ∧ BRow w' w.heap.size (heads l) := by
  have HL : Hid (len = l.length) := hs.1
  obtain ⟨C, hmk, hC⟩ := make_bools 52 Tryd.underlying52 len hl w
  have h0 : BRow (w.alloc (.cells C 4)) w.heap.size (hd l []) := by
    rw [hd_nil, ← HL.out]
    unfold BRow
    rw [← hC]
    exact heap_new rfl
  have hb0 : Below w.heap.size w (w.alloc (.cells C 4)) := (Below.refl _ _).alloc (Nat.le_refl _) _
  clear hC
  go_enter Tryd.func19, Tryd.ntmps19
  go_wp2_with fail
  go_loopw [5] (fun i wr => ∃ (a : Nat) (pre : List (Nat × Nat)), i = .int .i64 a ∧ a ≤ len ∧ Hid (vis l 0 pre a) ∧ BRow wr w.heap.size (hd l pre) ∧ Below w.heap.size w wr) (fun i _ => len - (intOf i).toNat)
  case atStart => exact ⟨0, [], rfl, by omega, (by show vis l 0 [] 0; rfl), h0, hb0⟩
  case round =>
    obtain ⟨a, pre, rfl, hal, HV, hR, hbr⟩ := hrel
    have hsz := hbr.size
    by_cases hlt : a < len
    · have hlt' : a < l.length := by have := HL.out; omega
      obtain ⟨b, o, rfl, _, hbB, htw⟩ := hs.2.2 a hlt'
      obtain ⟨e0, e1⟩ := htw.block (hbr.block b (by omega))
      have K := l12Fields_any l[a] wr
      have HF : Hid (cntI l[a] = match cntH l[a] with | some c => (c : Int) | none => -1) := rfl
      clear htw
      cases hcx : cntH l[a] with
      | none =>
        have hoe := full_all HV.out (ob_no hlt' hcx)
        have HP : Hid (pre = allO l) := hoe.1
        have HE : Hid (decide (endO l = l.length) = false) := by show _ = _; rw [← hoe.2]; have := HL.out; simp; omega
        rw [hcx] at HF
        rw [HF.out] at K
        generalize l[a] = x at *
        clear hoe
        go_wp2_with fail
        refine K.mono ?_
        rintro e w1 ⟨rfl, hb1⟩
        have hb1w : Below w.heap.size w w1 := hbr.trans (hb1.mono hsz)
        have hR1 := hR.bel hb1 hR.lt
        clear K
        go_wp2_with fail
        refine bodyPost_ret (results_tmp2 rfl _ _ _) rfl ?_
        rw [HE.out]
        exact ⟨rfl, hb1w, by unfold heads; rw [← HP.out]; exact hR1⟩
      | some c =>
        have hc9 := cntH_le hcx
        by_cases hac : a + c < len
        · have hob : ob l a = some c := ob_mk hlt' hcx (by have := HL.out; omega)
          have HV2 : Hid (vis l 0 (pre ++ [(a, c)]) (a + c + 1)) := vis_snoc HV.out hob
          rw [hcx] at HF
          rw [HF.out] at K
          generalize l[a] = x at *
          go_wp2_with fail
          refine K.mono ?_
          rintro e w1 ⟨rfl, hb1⟩
          have hb1w : Below w.heap.size w w1 := hbr.trans (hb1.mono hsz)
          have hR1 := hR.bel hb1 hR.lt
          have hg := hR1.get a (by rw [hd_len]; exact hlt')
          have hfz := hR1.free a
          have hR2 := hR1.set a true
          rw [← hd_snoc l pre a c] at hR2
          have hb2w := hb1w.setCell (p := ⟨w.heap.size, a, none⟩) (Nat.le_refl _) (.bool true)
          generalize (hd l pre).getD a false = q at hg
          clear K hob hcx
          go_wp2_with fail
          go_roundw
          case rel => exact ⟨a + c + 1, pre ++ [(a, c)], by go_num, by omega, HV2, hR2, hb2w⟩
          case measure => simp [intOf]; omega
        · have hoe := full_all HV.out (ob_far hlt' hcx (by have := HL.out; omega))
          have HP : Hid (pre = allO l) := hoe.1
          have HE : Hid (decide (endO l = l.length) = false) := by show _ = _; rw [← hoe.2]; have := HL.out; simp; omega
          rw [hcx] at HF
          rw [HF.out] at K
          generalize l[a] = x at *
          clear hoe
          go_wp2_with fail
          refine K.mono ?_
          rintro e w1 ⟨rfl, hb1⟩
          have hb1w : Below w.heap.size w w1 := hbr.trans (hb1.mono hsz)
          have hR1 := hR.bel hb1 hR.lt
          clear K
          go_wp2_with fail
          refine bodyPost_ret (results_tmp2 rfl _ _ _) rfl ?_
          rw [HE.out]
          exact ⟨rfl, hb1w, by unfold heads; rw [← HP.out]; exact hR1⟩
    · have hoe := full_all HV.out (ob_out (by have := HL.out; omega))
      have HP : Hid (pre = allO l) := hoe.1
      have HE : Hid (decide (endO l = l.length) = true) := by show _ = _; rw [← hoe.2]; have := HL.out; simp; omega
      clear hoe
      go_wp2_with fail
      refine bodyPost_ret (results_tmp2 rfl _ _ _) rfl ?_
      rw [HE.out]
      exact ⟨rfl, hbr, by unfold heads; rw [← HP.out]; exact hR⟩

end Go.Proofs.YtaljpbgggembmaaDoor
