/-
  The model's 'l12Fields', 'l12Word', 'l12Heads'.
-/
import Derived.Test.YtapamdjoipofmaaDoorFcdZ6
import Derived.Test.YtapamdjoipofmaaDoorFcdZ8
namespace Go.Proofs.YtapamdjoipofmaaDoor
open Go.RowKit
set_option linter.unusedVariables false
set_option linter.unusedSimpArgs false

/-- How many fields, or -1. -/
def cntI (x : Wrd) : Int := match cntH x with
  | some c => (c : Int)
  | none => -1

set_option maxHeartbeats 1000000 in
theorem l12Fields_any (x : Wrd) (w : World) : Calls Tryd.prog 28 #[vW x] w fun e w' => e = .returned (.int .i64 (cntI x)) ∧ Below w.heap.size w w' := by
  have HC : Hid (cntH x = if (x.K = 5 ∨ x.K = 6) ∧ x.N = 0 then some 2 else if x.K = 7 ∧ 0 ≤ x.N ∧ x.N ≤ 14999 then some (x.N.toNat % 100) else none) := rfl
  have HI : Hid (cntI x = match cntH x with | some c => (c : Int) | none => -1) := rfl
  obtain ⟨r, hr⟩ : ∃ r, cntI x = r := ⟨_, rfl⟩
  rw [hr] at HI ⊢
  rw [HC.out] at HI
  clear hr HC
  have hb : ∀ c : Array Value, Below w.heap.size w (w.alloc (.cells c 34)) := fun c => (Below.refl _ _).alloc (Nat.le_refl _) _
  by_cases h5 : x.K = 5
  · by_cases h0 : x.N = 0
    · have HE : Hid (r = 2) := by show _ = _; rw [HI.out, if_pos ⟨Or.inl h5, h0⟩]; rfl
      go_enter Tryd.func28, Tryd.ntmps28
      go_wp2_with fail
      go_ret
      exact ⟨ret_int HE.out.symm, hb _⟩
    · have HE : Hid (r = -1) := by show _ = _; rw [HI.out, if_neg (fun h => h0 h.2), if_neg (fun h => by omega)]
      go_enter Tryd.func28, Tryd.ntmps28
      go_wp2_with fail
      go_ret
      exact ⟨ret_int HE.out.symm, hb _⟩
  · by_cases h6 : x.K = 6
    · by_cases h0 : x.N = 0
      · have HE : Hid (r = 2) := by show _ = _; rw [HI.out, if_pos ⟨Or.inr h6, h0⟩]; rfl
        go_enter Tryd.func28, Tryd.ntmps28
        go_wp2_with fail
        go_ret
        exact ⟨ret_int HE.out.symm, hb _⟩
      · have HE : Hid (r = -1) := by show _ = _; rw [HI.out, if_neg (fun h => h0 h.2), if_neg (fun h => by omega)]
        go_enter Tryd.func28, Tryd.ntmps28
        go_wp2_with fail
        go_ret
        exact ⟨ret_int HE.out.symm, hb _⟩
    · by_cases h7 : x.K = 7
      · have K := l1In_all x.N 0 14999 (w.alloc (.cells #[.int .i64 7, .int .i64 x.N] 34))
        by_cases h0 : 0 ≤ x.N ∧ x.N ≤ 14999
        · have HE : Hid (r = x.N % 100) := by show _ = _; rw [HI.out, if_neg (fun h => by omega), if_pos ⟨h7, h0⟩]; show ((x.N.toNat % 100 : Nat) : Int) = _; omega
          have hq : (decide (0 ≤ x.N) && decide (x.N ≤ 14999)) = true := by simp; omega
          have h01 := h0.1
          have h02 := h0.2
          rw [hq] at K
          clear hq h0 HI
          go_enter Tryd.func28, Tryd.ntmps28
          go_wp2_with fail
          refine K.mono ?_
          rintro e w1 ⟨rfl, rfl⟩
          clear K
          go_wp2_with fail
          go_ret
          exact ⟨ret_int (by rw [HE.out]), hb _⟩
        · have HE : Hid (r = -1) := by show _ = _; rw [HI.out, if_neg (fun h => by omega), if_neg (fun h => h0 h.2)]
          have hq : (decide (0 ≤ x.N) && decide (x.N ≤ 14999)) = false := by simp; omega
          rw [hq] at K
          clear hq h0 HI
          go_enter Tryd.func28, Tryd.ntmps28
          go_wp2_with fail
          refine K.mono ?_
          rintro e w1 ⟨rfl, rfl⟩
          clear K
          go_wp2_with fail
          go_ret
          exact ⟨ret_int HE.out.symm, hb _⟩
      · have HE : Hid (r = -1) := by show _ = _; rw [HI.out, if_neg (fun h => by omega), if_neg (fun h => h7 h.1)]
        go_enter Tryd.func28, Tryd.ntmps28
        go_wp2_with fail
        go_ret
        exact ⟨ret_int HE.out.symm, hb _⟩

set_option maxHeartbeats 1000000 in
theorem l12Word_any (g len cap : Nat) (hs : List Bool) (x : Wrd) (w : World) (hr : BRow w g hs) (hlen : len = hs.length) (hl : len ≤ 1048576) :
    Calls Tryd.prog 46 #[.slice (some ⟨g, 0, none⟩) len cap, vW x] w fun e w' => e = .returned (.bool (rgt hs x)) ∧ Below w.heap.size w w' := by
  have HR : Hid (rgt hs x = if x.K = 1 then decide (-1000000 ≤ x.N) && decide (x.N ≤ 1000000) else if x.K = 2 then decide (0 ≤ x.N) && decide (x.N ≤ 1) else if x.K = 3 then decide (x.N = 0) else if x.K = 4 then (decide (0 ≤ x.N) && decide (x.N < hs.length)) && hs.getD x.N.toNat false else false) := rfl
  rw [← hlen] at HR
  have HL : Hid (len = hs.length) := hlen
  have hb : ∀ c : Array Value, Below w.heap.size w (w.alloc (.cells c 34)) := fun c => (Below.refl _ _).alloc (Nat.le_refl _) _
  obtain ⟨ans, hans⟩ : ∃ b, rgt hs x = b := ⟨_, rfl⟩
  rw [hans] at HR ⊢
  clear hans hlen
  by_cases h1 : x.K = 1
  · have HE : Hid (ans = (decide (-1000000 ≤ x.N) && decide (x.N ≤ 1000000))) := by show _ = _; rw [HR.out, if_pos h1]
    have K := l1In_all x.N (-1000000) 1000000 (w.alloc (.cells #[.int .i64 1, .int .i64 x.N] 34))
    rw [← HE.out] at K
    clear HR
    go_enter Tryd.func46, Tryd.ntmps46
    go_wp2_with fail
    refine K.mono ?_
    rintro e w1 ⟨rfl, rfl⟩
    clear K
    go_wp2_with fail
    go_ret
    exact ⟨rfl, hb _⟩
  · by_cases h2 : x.K = 2
    · have HE : Hid (ans = (decide (0 ≤ x.N) && decide (x.N ≤ 1))) := by show _ = _; rw [HR.out, if_neg h1, if_pos h2]
      have K := l1In_all x.N 0 1 (w.alloc (.cells #[.int .i64 2, .int .i64 x.N] 34))
      rw [← HE.out] at K
      clear HR
      go_enter Tryd.func46, Tryd.ntmps46
      go_wp2_with fail
      refine K.mono ?_
      rintro e w1 ⟨rfl, rfl⟩
      clear K
      go_wp2_with fail
      go_ret
      exact ⟨rfl, hb _⟩
    · by_cases h3 : x.K = 3
      · have HE : Hid (ans = decide (x.N = 0)) := by show _ = _; rw [HR.out, if_neg h1, if_neg h2, if_pos h3]
        clear HR
        by_cases h0 : x.N = 0
        · have HF : Hid (ans = true) := by show _ = _; rw [HE.out]; simp [h0]
          go_enter Tryd.func46, Tryd.ntmps46
          go_wp2_with fail
          go_ret
          exact ⟨ret_bool (by rw [HF.out]), hb _⟩
        · have HF : Hid (ans = false) := by show _ = _; rw [HE.out]; simp [h0]
          go_enter Tryd.func46, Tryd.ntmps46
          go_wp2_with fail
          go_ret
          exact ⟨ret_bool (by rw [HF.out]; simpa using h0), hb _⟩
      · by_cases h4 : x.K = 4
        · have HE : Hid (ans = ((decide (0 ≤ x.N) && decide (x.N < len)) && hs.getD x.N.toNat false)) := by show _ = _; rw [HR.out, if_neg h1, if_neg h2, if_neg h3, if_pos h4]
          clear HR
          have K := l1In_all x.N 0 ((len : Int) - 1) (w.alloc (.cells #[.int .i64 4, .int .i64 x.N] 34))
          have hwr : IntKind.i64.wrap ((len : Int) - 1) = (len : Int) - 1 := by rw [IntKind.wrap_i64] <;> omega
          by_cases h0 : 0 ≤ x.N ∧ x.N < len
          · obtain ⟨i, hi⟩ : ∃ i : Nat, x.N = i := ⟨x.N.toNat, by omega⟩
            obtain ⟨xK, xN⟩ := x
            simp only at hi h0 h1 h2 h3 h4
            subst hi h4
            have hil : i < hs.length := by have := HL.out; omega
            have hil2 : i < len := by omega
            have hc := hr.get i hil
            have hgl := hr.lt
            have HF : Hid (ans = hs.getD i false) := by show _ = _; rw [HE.out]; simp only [Int.toNat_natCast]; simp [hil2]
            generalize hs.getD i false = v at hc HF
            have hq : (decide (0 ≤ (i : Int)) && decide ((i : Int) ≤ (len : Int) - 1)) = true := by simp; omega
            rw [hq] at K
            clear hil h0 hq
            go_enter Tryd.func46, Tryd.ntmps46
            go_wp2_with fail
            refine K.mono ?_
            rintro e w1 ⟨rfl, rfl⟩
            clear K
            go_wp2_with fail
            go_ret
            exact ⟨ret_bool (by rw [HF.out]), hb _⟩
          · have HF : Hid (ans = false) := by
              show _ = _
              rw [HE.out]
              have : (decide (0 ≤ x.N) && decide (x.N < len)) = false := by simp; omega
              rw [this]; rfl
            have hq : (decide (0 ≤ x.N) && decide (x.N ≤ (len : Int) - 1)) = false := by simp; omega
            rw [hq] at K
            clear h0 hq
            go_enter Tryd.func46, Tryd.ntmps46
            go_wp2_with fail
            refine K.mono ?_
            rintro e w1 ⟨rfl, rfl⟩
            clear K
            go_wp2_with fail
            go_ret
            exact ⟨ret_bool (by rw [HF.out]), hb _⟩
        · have HF : Hid (ans = false) := by show _ = _; rw [HR.out, if_neg h1, if_neg h2, if_neg h3, if_neg h4]
          go_enter Tryd.func46, Tryd.ntmps46
          go_wp2_with fail
          go_ret
          exact ⟨ret_bool (by rw [HF.out]), hb _⟩

end Go.Proofs.YtapamdjoipofmaaDoor

/-
  The model's 'l12Heads' and 'HeapOk'.
-/
namespace Go.Proofs.YtapamdjoipofmaaDoor
open Go.RowKit
set_option linter.unusedVariables false
set_option linter.unusedSimpArgs false

theorem Tryd.infoBool : (Tryd.prog.info? 4).map (fun i => (i.zero, i.size, i.bytes)) = some (some (.bool false), 1, 1) := by kernel_rfl

theorem make_bools (t : TypeId) (ht : Tryd.prog.underlying t = some (.slice 4)) (len : Nat) (hl : len ≤ 1048576) (w : World) :
    ∃ C : Array Value, (Instr.makeSlice t (.int .i64 (len : Int)) (.int .i64 (len : Int))).run Tryd.prog w = .ok (.slice (some ⟨w.heap.size, 0, none⟩) len len) (w.alloc (.cells C 4)) ∧ C = ((List.replicate len false).map Value.bool).toArray := by
  obtain ⟨i0, hi, hz0, hz1, hz2⟩ := info_parts Tryd.infoBool
  refine ⟨madeCells (Value.cells (.bool false)) (len * 1), ?_, ?_⟩
  · have := run_make (P := Tryd.prog) (w := w) t 4 i0 _ ht hi hz0 .i64 .i64 (len : Int) (len : Int) (by omega) (by omega) (by rw [hz2]; omega) (by omega)
    rw [hz1] at this
    simpa using this
  · apply Array.ext'
    rw [show Value.cells (.bool false) = #[.bool false] from rfl, toList_madeCells_one]
    simp

set_option maxRecDepth 100000 in
set_option maxHeartbeats 2000000 in
theorem l12Heads_any (L B : Nat) (ao : Option Addr) (len cap : Nat) (l : List Wrd) (w : World) (hB : B ≤ w.heap.size) (hs : Ws L B w ao len l) (hl : len ≤ 1048576) :
    Calls Tryd.prog 13 #[.slice ao len cap] w fun e w' => e = .returned (.tuple #[.slice (some ⟨w.heap.size, 0, none⟩) len len, .bool (decide (endO l = l.length))]) ∧ Below w.heap.size w w' ∧ BRow w' w.heap.size (heads l) := by
  have HL : Hid (len = l.length) := hs.1
  obtain ⟨C, hmk, hC⟩ := make_bools 39 Tryd.underlying39 len hl w
  have h0 : BRow (w.alloc (.cells C 4)) w.heap.size (hd l []) := by
    rw [hd_nil, ← HL.out]
    unfold BRow
    rw [← hC]
    exact heap_new rfl
  have hb0 : Below w.heap.size w (w.alloc (.cells C 4)) := (Below.refl _ _).alloc (Nat.le_refl _) _
  clear hC
  go_enter Tryd.func13, Tryd.ntmps13
  go_wp2_with fail
  go_loopw [5] (fun i wr => ∃ (a : Nat) (pre : List (Nat × Nat)), i = .int .i64 a ∧ a ≤ len ∧ Hid (vis l 0 pre a) ∧ BRow wr w.heap.size (hd l pre) ∧ Below w.heap.size w wr) (fun i _ => len - (intOf i).toNat)
  case atStart => exact ⟨0, [], rfl, by omega, (by show vis l 0 [] 0; rfl), h0, hb0⟩
  case round =>
    obtain ⟨a, pre, rfl, hal, HV, hR, hbr⟩ := hrel
    have hsz := hbr.size
    by_cases hlt : a < len
    · have hlt' : a < l.length := by have := HL.out; omega
      obtain ⟨b, o, rfl, _, hbB, htw⟩ := hs.2.2 a hlt'
      obtain ⟨e0, e1⟩ := htw.block (hbr.block b (by omega))
      have K := l12Fields_any l[a] wr
      have HF : Hid (cntI l[a] = match cntH l[a] with | some c => (c : Int) | none => -1) := rfl
      clear htw
      cases hcx : cntH l[a] with
      | none =>
        have hoe := full_all HV.out (ob_no hlt' hcx)
        have HP : Hid (pre = allO l) := hoe.1
        have HE : Hid (decide (endO l = l.length) = false) := by show _ = _; rw [← hoe.2]; have := HL.out; simp; omega
        rw [hcx] at HF
        rw [HF.out] at K
        generalize l[a] = x at *
        clear hoe
        go_wp2_with fail
        refine K.mono ?_
        rintro e w1 ⟨rfl, hb1⟩
        have hb1w : Below w.heap.size w w1 := hbr.trans (hb1.mono hsz)
        have hR1 := hR.bel hb1 hR.lt
        clear K
        go_wp2_with fail
        refine bodyPost_ret (results_tmp2 rfl _ _ _) rfl ?_
        rw [HE.out]
        exact ⟨rfl, hb1w, by unfold heads; rw [← HP.out]; exact hR1⟩
      | some c =>
        have hc9 := cntH_le hcx
        by_cases hac : a + c < len
        · have hob : ob l a = some c := ob_mk hlt' hcx (by have := HL.out; omega)
          have HV2 : Hid (vis l 0 (pre ++ [(a, c)]) (a + c + 1)) := vis_snoc HV.out hob
          rw [hcx] at HF
          rw [HF.out] at K
          generalize l[a] = x at *
          go_wp2_with fail
          refine K.mono ?_
          rintro e w1 ⟨rfl, hb1⟩
          have hb1w : Below w.heap.size w w1 := hbr.trans (hb1.mono hsz)
          have hR1 := hR.bel hb1 hR.lt
          have hg := hR1.get a (by rw [hd_len]; exact hlt')
          have hfz := hR1.free a
          have hR2 := hR1.set a true
          rw [← hd_snoc l pre a c] at hR2
          have hb2w := hb1w.setCell (p := ⟨w.heap.size, a, none⟩) (Nat.le_refl _) (.bool true)
          generalize (hd l pre).getD a false = q at hg
          clear K hob hcx
          go_wp2_with fail
          go_roundw
          case rel => exact ⟨a + c + 1, pre ++ [(a, c)], by go_num, by omega, HV2, hR2, hb2w⟩
          case measure => simp [intOf]; omega
        · have hoe := full_all HV.out (ob_far hlt' hcx (by have := HL.out; omega))
          have HP : Hid (pre = allO l) := hoe.1
          have HE : Hid (decide (endO l = l.length) = false) := by show _ = _; rw [← hoe.2]; have := HL.out; simp; omega
          rw [hcx] at HF
          rw [HF.out] at K
          generalize l[a] = x at *
          clear hoe
          go_wp2_with fail
          refine K.mono ?_
          rintro e w1 ⟨rfl, hb1⟩
          have hb1w : Below w.heap.size w w1 := hbr.trans (hb1.mono hsz)
          have hR1 := hR.bel hb1 hR.lt
          clear K
          go_wp2_with fail
          refine bodyPost_ret (results_tmp2 rfl _ _ _) rfl ?_
          rw [HE.out]
          exact ⟨rfl, hb1w, by unfold heads; rw [← HP.out]; exact hR1⟩
    · have hoe := full_all HV.out (ob_out (by have := HL.out; omega))
      have HP : Hid (pre = allO l) := hoe.1
      have HE : Hid (decide (endO l = l.length) = true) := by show _ = _; rw [← hoe.2]; have := HL.out; simp; omega
      clear hoe
      go_wp2_with fail
      refine bodyPost_ret (results_tmp2 rfl _ _ _) rfl ?_
      rw [HE.out]
      exact ⟨rfl, hbr, by unfold heads; rw [← HP.out]; exact hR⟩

end Go.Proofs.YtapamdjoipofmaaDoor
