/-
  What 'szWordS', 'toWordS', 'eqWordS', 'markWordS', 'heldWordS' and those of a word and of a heap come to.
-/
import Derived.Test.YtapamdjoipofmaaDoorFcdWo
import Derived.Deep.QuietTactic
import Derived.BigQuiet
import Derived.Deep.RegionWith
import Derived.Test.YtapamdjoipofmaaDoorFcdHo0
import Derived.Laws.OwnMore
namespace Go.Proofs.YtapamdjoipofmaaDoor
open Go.RowKit
set_option linter.unusedVariables false
set_option linter.unusedSimpArgs false

theorem cells2 {w : World} {b : Nat} {x0 x1 : Value} {t : TypeId} {fr : Nat × Nat} (h : w.heap[b]? = some (.cells #[x0, x1] t fr)) :
    w.cell? ⟨b, 0, none⟩ = some x0 ∧ w.cell? ⟨b, 1, none⟩ = some x1 := ⟨row_cell h 0, row_cell h 1⟩

/-- A word of a row at its place. -/
def EW (l : List Wrd) (W : World) (b o i : Nat) : Prop := ∀ h : i < l.length, Two W b o l[i]
theorem EW_stays (l : List Wrd) (b : Nat) : Stays 2 (EW l) b := by
  intro W W' i h h1 _ _ hi
  exact (h hi).cells h1

theorem tor_wors {w wr : World} {len : Nat} {l : List Wrd} (hl : len = l.length) (hm : len ≤ 1048576) (hR : ToR 2 34 (EW l) w wr len len) : Wors w.heap.size wr (.slice (some ⟨w.heap.size, 0, none⟩) len len) l := by
  obtain ⟨cs, hr, hcs⟩ := hR.row
  refine ⟨by rw [fl_len], Or.inr ⟨w.heap.size, len, cs, by rw [hl], Nat.le_refl _, hr, by omega, by unfold maxLen; omega, by omega, ?_⟩⟩
  apply fl_ext
  · rw [List.length_take]; simp only [Array.length_toList]; omega
  · intro i hi
    have h2 := hR.els i (by omega) hi
    rw [List.getElem?_take, if_pos (by omega), List.getElem?_take, if_pos (by omega), Array.getElem?_toList, Array.getElem?_toList, ← row_cell hr, ← row_cell hr]
    exact ⟨h2.c0, h2.c1⟩

end Go.Proofs.YtapamdjoipofmaaDoor

/-
  The program's 'fieldCount', 'objectAt', 'rightWord', 'right'.
-/
namespace Go.Proofs.YtapamdjoipofmaaDoor
open Go.RowKit
set_option linter.unusedVariables false
set_option linter.unusedSimpArgs false

theorem tmod_100 (n : Int) : -99 ≤ n.tmod 100 ∧ n.tmod 100 ≤ 99 := by
  have h1 := Int.tmod_lt_of_pos n (show (0 : Int) < 100 by omega)
  have h2 := Int.lt_tmod_of_pos n (show (0 : Int) < 100 by omega)
  omega

theorem below_drewW {B : Nat} {w wr : World} (h : Below B w wr) (n : Nat) : Below B w (wr.drewN n) := ⟨h.os, h.tape, h.output, h.size, h.block⟩

/-- What 'fieldCount' comes to. -/
def FcEnd (x : Wrd) (e : Ending) : Prop := ∃ (c : Int) (b : Bool), e = .returned (.tuple #[.int .i64 c, .bool b]) ∧ b = (cntH x).isSome ∧ (∀ n, cntH x = some n → c = (n : Int)) ∧ -99 ≤ c ∧ c ≤ 99

set_option maxHeartbeats 1000000 in
theorem fieldCount_any (x : Wrd) (w : World) : Calls Tryd.prog 48 #[vW x] w fun e w' => FcEnd x e ∧ Below w.heap.size w w' := by
  have HC : Hid (cntH x = if (x.K = 5 ∨ x.K = 6) ∧ x.N = 0 then some 2 else if x.K = 7 ∧ 0 ≤ x.N ∧ x.N ≤ 14999 then some (x.N.toNat % 100) else none) := rfl
  have hb : ∀ c : Array Value, Below w.heap.size w (w.alloc (.cells c 34)) := fun c => (Below.refl _ _).alloc (Nat.le_refl _) _
  by_cases h5 : x.K = 5 ∨ x.K = 6
  · have fin : ∀ b : Bool, b = decide (x.N = 0) → FcEnd x (.returned (.tuple #[.int .i64 2, .bool b])) := by
      rintro b rfl
      refine ⟨2, _, rfl, ?_, ?_, by omega, by omega⟩
      · rw [HC.out]
        by_cases h0 : x.N = 0
        · rw [if_pos ⟨h5, h0⟩]; simp [h0]
        · rw [if_neg (fun h => h0 h.2), if_neg (fun h => by omega)]; simp [h0]
      · intro n hn
        rw [HC.out] at hn
        split at hn
        · injection hn with hn; omega
        · rw [if_neg (fun h => by omega)] at hn; cases hn
    have FIN : Hid (∀ b : Bool, b = decide (x.N = 0) → _) := fin
    clear fin
    rcases h5 with h5 | h5
    · go_enter Tryd.func48, Tryd.ntmps48
      go_wp2_with fail
      go_quiet (fail)
      go_wp2_with fail
      refine bodyPost_ret (results_tmp2 rfl _ _ _) rfl ?_
      exact ⟨FIN.out _ (by rw [Bool.eq_iff_iff]; simp), below_drewW (hb _) _⟩
    · go_enter Tryd.func48, Tryd.ntmps48
      go_wp2_with fail
      go_quiet (fail)
      go_wp2_with fail
      refine bodyPost_ret (results_tmp2 rfl _ _ _) rfl ?_
      exact ⟨FIN.out _ (by rw [Bool.eq_iff_iff]; simp), below_drewW (hb _) _⟩
  · have h5a : ¬ x.K = 5 := fun h => h5 (Or.inl h)
    have h6a : ¬ x.K = 6 := fun h => h5 (Or.inr h)
    have HC2 : Hid (cntH x = if x.K = 7 ∧ 0 ≤ x.N ∧ x.N ≤ 14999 then some (x.N.toNat % 100) else none) := by show _ = _; rw [HC.out, if_neg (fun h => h5 h.1)]
    clear HC h5
    by_cases h7 : x.K = 7
    · have fin : ∀ (c : Int) (b : Bool), c = x.N.tmod 100 → b = (decide (0 ≤ x.N) && decide (x.N < 15000)) → FcEnd x (.returned (.tuple #[.int .i64 c, .bool b])) := by
        rintro c b rfl rfl
        have h1 := tmod_100 x.N
        refine ⟨_, _, rfl, ?_, ?_, h1.1, h1.2⟩
        · rw [HC2.out]
          by_cases h0 : 0 ≤ x.N ∧ x.N ≤ 14999
          · rw [if_pos ⟨h7, h0⟩]; simp; omega
          · rw [if_neg (fun h => h0 h.2)]; simp; omega
        · intro n hn
          rw [HC2.out] at hn
          split at hn
          · rename_i h
            injection hn with hn
            rw [← hn, Int.tmod_eq_emod_of_nonneg h.2.1]
            omega
          · cases hn
      have FIN : Hid (∀ (c : Int) (b : Bool), c = x.N.tmod 100 → b = (decide (0 ≤ x.N) && decide (x.N < 15000)) → _) := fin
      clear fin HC2
      have h100 : IntKind.i64.wrap (x.N.tmod 100) = x.N.tmod 100 := by have := tmod_100 x.N; rw [IntKind.wrap_i64] <;> omega
      by_cases h0 : 0 ≤ x.N
      · have hd : decide (0 ≤ x.N) = true := by simpa using h0
        go_enter Tryd.func48, Tryd.ntmps48
        go_wp2_with fail
        go_quiet (fail)
        go_wp2_with fail
        refine bodyPost_ret (results_tmp2 rfl _ _ _) rfl ?_
        exact ⟨FIN.out _ _ (by first | rfl | exact (Int.tmod_eq_emod_of_nonneg h0).symm) (by first | (simp [h0]; done) | (simp; omega)), below_drewW (hb _) _⟩
      · have hd : decide (0 ≤ x.N) = false := by simpa using h0
        go_enter Tryd.func48, Tryd.ntmps48
        go_wp2_with fail
        go_quiet (fail)
        go_wp2_with fail
        refine bodyPost_ret (results_tmp2 rfl _ _ _) rfl ?_
        exact ⟨FIN.out _ _ (by first | rfl | exact (Int.tmod_eq_emod_of_nonneg h0).symm) (by first | (simp [h0]; done) | (simp; omega)), below_drewW (hb _) _⟩
    · have FIN : Hid (FcEnd x (.returned (.tuple #[.int .i64 0, .bool false]))) := by
        refine ⟨0, false, rfl, ?_, ?_, by omega, by omega⟩
        · rw [HC2.out, if_neg (fun h => h7 h.1)]; rfl
        · intro n hn
          rw [HC2.out, if_neg (fun h => h7 h.1)] at hn
          cases hn
      go_enter Tryd.func48, Tryd.ntmps48
      go_wp2_with fail
      refine bodyPost_ret (results_tmp2 rfl _ _ _) rfl ?_
      exact ⟨FIN.out, hb _⟩

/-- A row of truths: a block of its own. -/
def BRow (w : World) (g : Nat) (bs : List Bool) : Prop := w.heap[g]? = some (.cells (bs.map Value.bool).toArray 4 (0, 0))
theorem BRow.get {w : World} {g : Nat} {bs : List Bool} (h : BRow w g bs) (i : Nat) (hi : i < bs.length) : w.cell? ⟨g, i, none⟩ = some (.bool (bs.getD i false)) := by
  rw [row_cell h]
  simp [List.getD_eq_getElem?_getD, hi]
theorem BRow.free {w : World} {g : Nat} {bs : List Bool} (h : BRow w g bs) (i : Nat) : w.frozen? ⟨g, i, none⟩ = false := row_free h i
theorem BRow.set {w : World} {g : Nat} {bs : List Bool} (h : BRow w g bs) (i : Nat) (b : Bool) : BRow (w.setCell ⟨g, i, none⟩ (.bool b)) g (bs.set i b) := by
  have := row_set h i (.bool b)
  unfold BRow
  rw [this]
  simp [List.map_set]
theorem BRow.lt {w : World} {g : Nat} {bs : List Bool} (h : BRow w g bs) : g < w.heap.size := (Array.getElem?_eq_some_iff.1 h).1
theorem BRow.bel {w w' : World} {g B : Nat} {bs : List Bool} (h : BRow w g bs) (hb : Below B w w') (hg : g < B) : BRow w' g bs := (hb.block g hg).trans h

set_option maxHeartbeats 1000000 in
theorem rightWord_any (g len cap : Nat) (hs : List Bool) (x : Wrd) (w : World) (hr : BRow w g hs) (hlen : len = hs.length) (hl : len ≤ 1048576) :
    Calls Tryd.prog 47 #[.slice (some ⟨g, 0, none⟩) len cap, vW x] w fun e w' => e = .returned (.bool (rgt hs x)) ∧ Below w.heap.size w w' := by
  have HR : Hid (rgt hs x = if x.K = 1 then decide (-1000000 ≤ x.N) && decide (x.N ≤ 1000000) else if x.K = 2 then decide (0 ≤ x.N) && decide (x.N ≤ 1) else if x.K = 3 then decide (x.N = 0) else if x.K = 4 then (decide (0 ≤ x.N) && decide (x.N < hs.length)) && hs.getD x.N.toNat false else false) := rfl
  rw [← hlen] at HR
  have HL : Hid (len = hs.length) := hlen
  have hb : ∀ c : Array Value, Below w.heap.size w (w.alloc (.cells c 34)) := fun c => (Below.refl _ _).alloc (Nat.le_refl _) _
  obtain ⟨ans, hans⟩ : ∃ b, rgt hs x = b := ⟨_, rfl⟩
  rw [hans] at HR ⊢
  clear hans hlen
  by_cases h1 : x.K = 1
  · have HE : Hid (ans = (decide (-1000000 ≤ x.N) && decide (x.N ≤ 1000000))) := by show _ = _; rw [HR.out, if_pos h1]
    clear HR
    by_cases ha : -1000000 ≤ x.N
    · by_cases hb2 : x.N ≤ 1000000
      · have HF : Hid (ans = true) := by show _ = _; rw [HE.out]; simp [ha, hb2]
        go_enter Tryd.func47, Tryd.ntmps47
        go_wp2_with fail
        go_ret
        exact ⟨ret_bool (by rw [HF.out]), hb _⟩
      · have HF : Hid (ans = false) := by show _ = _; rw [HE.out]; simp [ha, hb2]
        go_enter Tryd.func47, Tryd.ntmps47
        go_wp2_with fail
        go_ret
        exact ⟨ret_bool (by rw [HF.out]), hb _⟩
    · have HF : Hid (ans = false) := by show _ = _; rw [HE.out]; simp [ha]
      go_enter Tryd.func47, Tryd.ntmps47
      go_wp2_with fail
      go_ret
      exact ⟨ret_bool (by rw [HF.out]), hb _⟩
  · by_cases h2 : x.K = 2
    · have HE : Hid (ans = (decide (0 ≤ x.N) && decide (x.N ≤ 1))) := by show _ = _; rw [HR.out, if_neg h1, if_pos h2]
      clear HR
      by_cases h0 : x.N = 0
      · have HF : Hid (ans = true) := by show _ = _; rw [HE.out]; simp [h0]
        go_enter Tryd.func47, Tryd.ntmps47
        go_wp2_with fail
        go_ret
        exact ⟨ret_bool (by rw [HF.out]), hb _⟩
      · by_cases h01 : x.N = 1
        · have HF : Hid (ans = true) := by show _ = _; rw [HE.out]; simp [h01]
          go_enter Tryd.func47, Tryd.ntmps47
          go_wp2_with fail
          go_ret
          exact ⟨ret_bool (by rw [HF.out]), hb _⟩
        · have HF : Hid (ans = false) := by show _ = _; rw [HE.out]; simp; omega
          have hz0 : (x.N == 0) = false := beq_eq_false_iff_ne.2 h0
          have hz1 : (x.N == 1) = false := beq_eq_false_iff_ne.2 h01
          go_enter Tryd.func47, Tryd.ntmps47
          go_wp2_with fail
          go_ret
          exact ⟨ret_bool (by rw [HF.out]), hb _⟩
    · by_cases h3 : x.K = 3
      · have HE : Hid (ans = decide (x.N = 0)) := by show _ = _; rw [HR.out, if_neg h1, if_neg h2, if_pos h3]
        clear HR
        by_cases h0 : x.N = 0
        · have HF : Hid (ans = true) := by show _ = _; rw [HE.out]; simp [h0]
          go_enter Tryd.func47, Tryd.ntmps47
          go_wp2_with fail
          go_ret
          exact ⟨ret_bool (by rw [HF.out]), hb _⟩
        · have HF : Hid (ans = false) := by show _ = _; rw [HE.out]; simp [h0]
          go_enter Tryd.func47, Tryd.ntmps47
          go_wp2_with fail
          go_ret
          exact ⟨ret_bool (by rw [HF.out]; simpa using h0), hb _⟩
      · by_cases h4 : x.K = 4
        · have HE : Hid (ans = ((decide (0 ≤ x.N) && decide (x.N < len)) && hs.getD x.N.toNat false)) := by show _ = _; rw [HR.out, if_neg h1, if_neg h2, if_neg h3, if_pos h4]
          clear HR
          by_cases h0 : 0 ≤ x.N
          · by_cases hlt : x.N < len
            · obtain ⟨i, hi⟩ : ∃ i : Nat, x.N = i := ⟨x.N.toNat, by omega⟩
              obtain ⟨xK, xN⟩ := x
              simp only at hi h0 hlt h1 h2 h3 h4
              subst hi h4
              have hil : i < hs.length := by have := HL.out; omega
              have hil2 : i < len := by omega
              have hc := hr.get i hil
              have hgl := hr.lt
              have HF : Hid (ans = hs.getD i false) := by show _ = _; rw [HE.out]; simp only [Int.toNat_natCast]; simp [hil2]
              generalize hs.getD i false = v at hc HF
              clear hil h0 hlt
              go_enter Tryd.func47, Tryd.ntmps47
              go_wp2_with fail
              go_ret
              exact ⟨ret_bool (by rw [HF.out]), hb _⟩
            · have HF : Hid (ans = false) := by show _ = _; rw [HE.out]; simp [hlt]
              go_enter Tryd.func47, Tryd.ntmps47
              go_wp2_with fail
              go_ret
              exact ⟨ret_bool (by rw [HF.out]), hb _⟩
          · have HF : Hid (ans = false) := by show _ = _; rw [HE.out]; simp [h0]
            go_enter Tryd.func47, Tryd.ntmps47
            go_wp2_with fail
            go_ret
            exact ⟨ret_bool (by rw [HF.out]), hb _⟩
        · have HF : Hid (ans = false) := by show _ = _; rw [HR.out, if_neg h1, if_neg h2, if_neg h3, if_neg h4]
          go_enter Tryd.func47, Tryd.ntmps47
          go_wp2_with fail
          go_ret
          exact ⟨ret_bool (by rw [HF.out]), hb _⟩

end Go.Proofs.YtapamdjoipofmaaDoor
