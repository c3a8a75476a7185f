/-
  The model's 'l2Int': a number as text; 'l2Word'.
-/
import Derived.Test.YthmmapahobkhnaaPmZ12
import Derived.Test.YthmmapahobkhnaaPmLt
import Derived.Test.YthmmapahobkhnaaPmZ9
import Derived.Deep.RegionLaw
import Derived.Test.YthmmapahobkhnaaPmZ1
import Derived.Test.YthmmapahobkhnaaPmZ5
namespace Go.Proofs.Ythmmapahobkhnaa
open Go.RowKit
set_option linter.unusedVariables false
set_option linter.unusedSimpArgs false

theorem lw_1 (w : World) : Calls Try.prog 32 #[.int .i64 1] w fun e w' => e = .returned (.string ⟨(wordM 1).toArray⟩) ∧ Below w.heap.size w w' := by
  go_enter Try.func32, Try.ntmps32
  go_wp2_with fail
  go_ret
  exact ⟨rfl, (Below.refl _ _).alloc (Nat.le_refl _) _⟩
theorem lw_2 (w : World) : Calls Try.prog 32 #[.int .i64 2] w fun e w' => e = .returned (.string ⟨(wordM 2).toArray⟩) ∧ Below w.heap.size w w' := by
  go_enter Try.func32, Try.ntmps32
  go_wp2_with fail
  go_ret
  exact ⟨rfl, (Below.refl _ _).alloc (Nat.le_refl _) _⟩
theorem lw_3 (w : World) : Calls Try.prog 32 #[.int .i64 3] w fun e w' => e = .returned (.string ⟨(wordM 3).toArray⟩) ∧ Below w.heap.size w w' := by
  go_enter Try.func32, Try.ntmps32
  go_wp2_with fail
  go_ret
  exact ⟨rfl, (Below.refl _ _).alloc (Nat.le_refl _) _⟩
theorem lw_4 (w : World) : Calls Try.prog 32 #[.int .i64 4] w fun e w' => e = .returned (.string ⟨(wordM 4).toArray⟩) ∧ Below w.heap.size w w' := by
  go_enter Try.func32, Try.ntmps32
  go_wp2_with fail
  go_ret
  exact ⟨rfl, (Below.refl _ _).alloc (Nat.le_refl _) _⟩
theorem lw_5 (w : World) : Calls Try.prog 32 #[.int .i64 5] w fun e w' => e = .returned (.string ⟨(wordM 5).toArray⟩) ∧ Below w.heap.size w w' := by
  go_enter Try.func32, Try.ntmps32
  go_wp2_with fail
  go_ret
  exact ⟨rfl, (Below.refl _ _).alloc (Nat.le_refl _) _⟩
theorem lw_6 (w : World) : Calls Try.prog 32 #[.int .i64 6] w fun e w' => e = .returned (.string ⟨(wordM 6).toArray⟩) ∧ Below w.heap.size w w' := by
  go_enter Try.func32, Try.ntmps32
  go_wp2_with fail
  go_ret
  exact ⟨rfl, (Below.refl _ _).alloc (Nat.le_refl _) _⟩
theorem lw_7 (w : World) : Calls Try.prog 32 #[.int .i64 7] w fun e w' => e = .returned (.string ⟨(wordM 7).toArray⟩) ∧ Below w.heap.size w w' := by
  go_enter Try.func32, Try.ntmps32
  go_wp2_with fail
  go_ret
  exact ⟨rfl, (Below.refl _ _).alloc (Nat.le_refl _) _⟩
theorem lw_8 (w : World) : Calls Try.prog 32 #[.int .i64 8] w fun e w' => e = .returned (.string ⟨(wordM 8).toArray⟩) ∧ Below w.heap.size w w' := by
  go_enter Try.func32, Try.ntmps32
  go_wp2_with fail
  go_ret
  exact ⟨rfl, (Below.refl _ _).alloc (Nat.le_refl _) _⟩
theorem lw_9 (w : World) : Calls Try.prog 32 #[.int .i64 9] w fun e w' => e = .returned (.string ⟨(wordM 9).toArray⟩) ∧ Below w.heap.size w w' := by
  go_enter Try.func32, Try.ntmps32
  go_wp2_with fail
  go_ret
  exact ⟨rfl, (Below.refl _ _).alloc (Nat.le_refl _) _⟩
theorem lw_10 (w : World) : Calls Try.prog 32 #[.int .i64 10] w fun e w' => e = .returned (.string ⟨(wordM 10).toArray⟩) ∧ Below w.heap.size w w' := by
  go_enter Try.func32, Try.ntmps32
  go_wp2_with fail
  go_ret
  exact ⟨rfl, (Below.refl _ _).alloc (Nat.le_refl _) _⟩
theorem lw_11 (w : World) : Calls Try.prog 32 #[.int .i64 11] w fun e w' => e = .returned (.string ⟨(wordM 11).toArray⟩) ∧ Below w.heap.size w w' := by
  go_enter Try.func32, Try.ntmps32
  go_wp2_with fail
  go_ret
  exact ⟨rfl, (Below.refl _ _).alloc (Nat.le_refl _) _⟩
theorem lw_12 (w : World) : Calls Try.prog 32 #[.int .i64 12] w fun e w' => e = .returned (.string ⟨(wordM 12).toArray⟩) ∧ Below w.heap.size w w' := by
  go_enter Try.func32, Try.ntmps32
  go_wp2_with fail
  go_ret
  exact ⟨rfl, (Below.refl _ _).alloc (Nat.le_refl _) _⟩
theorem lw_13 (w : World) : Calls Try.prog 32 #[.int .i64 13] w fun e w' => e = .returned (.string ⟨(wordM 13).toArray⟩) ∧ Below w.heap.size w w' := by
  go_enter Try.func32, Try.ntmps32
  go_wp2_with fail
  go_ret
  exact ⟨rfl, (Below.refl _ _).alloc (Nat.le_refl _) _⟩
theorem lw_14 (w : World) : Calls Try.prog 32 #[.int .i64 14] w fun e w' => e = .returned (.string ⟨(wordM 14).toArray⟩) ∧ Below w.heap.size w w' := by
  go_enter Try.func32, Try.ntmps32
  go_wp2_with fail
  go_ret
  exact ⟨rfl, (Below.refl _ _).alloc (Nat.le_refl _) _⟩
theorem lw_15 (w : World) : Calls Try.prog 32 #[.int .i64 15] w fun e w' => e = .returned (.string ⟨(wordM 15).toArray⟩) ∧ Below w.heap.size w w' := by
  go_enter Try.func32, Try.ntmps32
  go_wp2_with fail
  go_ret
  exact ⟨rfl, (Below.refl _ _).alloc (Nat.le_refl _) _⟩
theorem lw_16 (w : World) : Calls Try.prog 32 #[.int .i64 16] w fun e w' => e = .returned (.string ⟨(wordM 16).toArray⟩) ∧ Below w.heap.size w w' := by
  go_enter Try.func32, Try.ntmps32
  go_wp2_with fail
  go_ret
  exact ⟨rfl, (Below.refl _ _).alloc (Nat.le_refl _) _⟩
theorem lw_17 (w : World) : Calls Try.prog 32 #[.int .i64 17] w fun e w' => e = .returned (.string ⟨(wordM 17).toArray⟩) ∧ Below w.heap.size w w' := by
  go_enter Try.func32, Try.ntmps32
  go_wp2_with fail
  go_ret
  exact ⟨rfl, (Below.refl _ _).alloc (Nat.le_refl _) _⟩

end Go.Proofs.Ythmmapahobkhnaa

/-
  The model's 'l1In'.
-/
namespace Go.Proofs.Ythmmapahobkhnaa
open Go.RowKit
set_option linter.unusedVariables false
set_option linter.unusedSimpArgs false

theorem l1In3_any (x lo hi : Int) (b : Bool) (hb : b = (decide (lo ≤ x) && decide (x ≤ hi))) (w : World) : Calls Try.prog 41 #[.int .i64 x, .int .i64 lo, .int .i64 hi] w fun e w' => e = .returned (.bool b) ∧ w' = w := by
  by_cases h1 : lo ≤ x
  · by_cases h2 : x ≤ hi
    · have HB : Hid (b = true) := by show _ = _; rw [hb]; simp [h1, h2]
      clear hb
      go_enter Try.func41, Try.ntmps41
      go_wp2_with fail
      go_ret
      exact ⟨ret_bool (by rw [HB.out]), rfl⟩
    · have HB : Hid (b = false) := by show _ = _; rw [hb]; simp [h2]
      clear hb
      go_enter Try.func41, Try.ntmps41
      go_wp2_with fail
      go_ret
      exact ⟨ret_bool (by rw [HB.out]), rfl⟩
  · have HB : Hid (b = false) := by show _ = _; rw [hb]; simp [h1]
    clear hb
    go_enter Try.func41, Try.ntmps41
    go_wp2_with fail
    go_ret
    exact ⟨ret_bool (by rw [HB.out]), rfl⟩

end Go.Proofs.Ythmmapahobkhnaa

/-
  The model's reader of terms: one token, words and their kinds, signs of ops, digits.
-/
namespace Go.Proofs.Ythmmapahobkhnaa
open Go.RowKit Go.PlainAid
set_option linter.unusedVariables false
set_option linter.unusedSimpArgs false

set_option maxRecDepth 100000 in
set_option maxHeartbeats 2000000 in
theorem snext_bad (p : Nat) (ao : Option Addr) (len cap a L B : Nat) (T : List (List UInt8)) (w : World) (h : Rdr L B w p ao len cap a true T) :
    Calls Try.prog 25 #[.pointer (some ⟨p, 0, none⟩)] w fun e w' => e = .returned (.string ⟨#[]⟩) ∧ w.grownBy w' (some p) ∧ Rdr L B w' p ao len cap a true T := by
  obtain ⟨f0, f1, f2⟩ := box_cells h.row
  have f3 := row_free h.row
  have hl := h.sm
  have hle := h.le
  by_cases ha : len ≤ a
  · have hge : (len : Int) ≤ (a : Int) := by omega
    go_enter Try.func25, Try.ntmps25
    go_wp2_with fail
    go_quiet (fail)
    go_wp2_with fail
    go_ret
    have h2 : Rdr L B (w.drewN nq) p ao len cap a true T := ⟨h.row, h.toks, h.le, h.sm, h.lo⟩
    have hg : w.grownBy (w.drewN nq) (some p) := ⟨rfl, rfl, rfl, Nat.le_refl _, fun _ _ _ => rfl⟩
    exact ⟨rfl, grown_set hg, h2.setB true⟩
  · have hge : ¬ (len : Int) ≤ (a : Int) := by omega
    go_enter Try.func25, Try.ntmps25
    go_wp2_with fail
    go_quiet (fail)
    go_wp2_with fail
    go_ret
    have h2 : Rdr L B (w.drewN nq) p ao len cap a true T := ⟨h.row, h.toks, h.le, h.sm, h.lo⟩
    have hg : w.grownBy (w.drewN nq) (some p) := ⟨rfl, rfl, rfl, Nat.le_refl _, fun _ _ _ => rfl⟩
    exact ⟨rfl, grown_set hg, h2.setB true⟩

theorem snext_any (p : Nat) (ao : Option Addr) (len cap a L B : Nat) (bad : Bool) (T : List (List UInt8)) (w : World) (hT : ∀ x ∈ T, x.length ≤ 1048577) (h : Rdr L B w p ao len cap a bad T) :
    Calls Try.prog 25 #[.pointer (some ⟨p, 0, none⟩)] w fun e w' => ∃ x a' bad', e = .returned (tk x) ∧ w.grownBy w' (some p) ∧ Rdr L B w' p ao len cap a' bad' T ∧ RdO tokR T a bad x a' bad' ∧ x.length ≤ 1048577 := by
  cases bad with
  | true =>
    refine (snext_bad p ao len cap a L B T w h).mono ?_
    rintro e w' ⟨rfl, hg, hR⟩
    exact ⟨[], _, _, rfl, hg, hR, ⟨fun _ => rfl, fun hb => by cases hb⟩, by simp⟩
  | false =>
    by_cases ha : a < len
    · have haT : a < T.length := by have := h.toks.1; omega
      refine (next_tok p ao len cap a L B T w h ha haT).mono ?_
      rintro e w' ⟨rfl, hg, hR⟩
      refine ⟨_, _, _, rfl, hg, hR, ⟨fun hb => hb, fun hb => ?_⟩, hT _ (List.getElem_mem haT)⟩
      rw [List.drop_eq_getElem_cons haT]
      exact ⟨hb, rfl, rfl⟩
    · obtain rfl : a = len := by have := h.le; omega
      refine (next_end p ao a cap L B T w h).mono ?_
      rintro e w' ⟨rfl, hg, hR⟩
      refine ⟨[], _, _, rfl, hg, hR, ⟨fun _ => rfl, fun hb => ?_⟩, by simp⟩
      rw [List.drop_eq_nil_of_le (by have := h.toks.1; omega)]
      rfl

theorem lw_any (k : Nat) (h1 : 1 ≤ k) (h2 : k ≤ 17) (w : World) : Calls Try.prog 32 #[.int .i64 k] w fun e w' => e = .returned (.string ⟨(wordM k).toArray⟩) ∧ Below w.heap.size w w' := by
  have : k = 1 ∨ k = 2 ∨ k = 3 ∨ k = 4 ∨ k = 5 ∨ k = 6 ∨ k = 7 ∨ k = 8 ∨ k = 9 ∨ k = 10 ∨ k = 11 ∨ k = 12 ∨ k = 13 ∨ k = 14 ∨ k = 15 ∨ k = 16 ∨ k = 17 := by omega
  rcases this with rfl | rfl | rfl | rfl | rfl | rfl | rfl | rfl | rfl | rfl | rfl | rfl | rfl | rfl | rfl | rfl | rfl
  · exact lw_1 w
  · exact lw_2 w
  · exact lw_3 w
  · exact lw_4 w
  · exact lw_5 w
  · exact lw_6 w
  · exact lw_7 w
  · exact lw_8 w
  · exact lw_9 w
  · exact lw_10 w
  · exact lw_11 w
  · exact lw_12 w
  · exact lw_13 w
  · exact lw_14 w
  · exact lw_15 w
  · exact lw_16 w
  · exact lw_17 w

theorem kindW_wordM (k : Nat) (h1 : 1 ≤ k) (h2 : k ≤ 17) : kindW (wordM k) = k := by
  have : k = 1 ∨ k = 2 ∨ k = 3 ∨ k = 4 ∨ k = 5 ∨ k = 6 ∨ k = 7 ∨ k = 8 ∨ k = 9 ∨ k = 10 ∨ k = 11 ∨ k = 12 ∨ k = 13 ∨ k = 14 ∨ k = 15 ∨ k = 16 ∨ k = 17 := by omega
  rcases this with rfl | rfl | rfl | rfl | rfl | rfl | rfl | rfl | rfl | rfl | rfl | rfl | rfl | rfl | rfl | rfl | rfl <;> rfl
theorem kindW_none {x : List UInt8} (hu : x ≠ [117]) (h : ∀ q : Nat, 1 ≤ q → q ≤ 17 → wordM q ≠ x) : kindW x = 0 := by
  by_cases hx : kindW x = 0
  · exact hx
  · obtain ⟨h1, h2, h3⟩ := kindW_some hx
    rcases h3 with h3 | h3
    · refine (h (kindW x).toNat (by omega) (by omega) ?_).elim
      rw [show (((kindW x).toNat : Nat) : Int) = kindW x by omega]
      exact h3.symm
    · exact (hu h3).elim

set_option maxRecDepth 100000 in
set_option maxHeartbeats 2000000 in
theorem l2Kind_any (x : List UInt8) (w : World) : Calls Try.prog 26 #[.string ⟨x.toArray⟩] w fun e w' => e = .returned (.int .i64 (kindW x)) ∧ Below w.heap.size w w' := by
  by_cases hu : x = [117]
  · subst hu
    go_enter Try.func26, Try.ntmps26
    go_wp2_with fail
    go_ret
    exact ⟨rfl, Below.refl _ _⟩
  · have hub : (x == [117]) = false := by rw [beq_eq_false_iff_ne]; exact hu
    have HU : Hid (x ≠ [117]) := hu
    clear hu
    go_enter Try.func26, Try.ntmps26
    go_wp2_with fail
    go_loopw [3] (fun i wr => ∃ k : Nat, 1 ≤ k ∧ k ≤ 18 ∧ i = .int .i64 k ∧ Hid (∀ q : Nat, 1 ≤ q → q < k → wordM q ≠ x) ∧ Below w.heap.size w wr) (fun i _ => 18 - (intOf i).toNat)
    case atStart => exact ⟨1, by omega, by omega, rfl, fun q h1 h2 => by omega, Below.refl _ _⟩
    case round =>
      obtain ⟨k, hk1, hk2, rfl, HQ, hb⟩ := hrel
      by_cases hlt : k ≤ 17
      · go_wp2_with fail
        refine (lw_any k hk1 hlt _).mono ?_
        rintro e w1 ⟨rfl, hb1⟩
        have hbw : Below w.heap.size w w1 := hb.trans (hb1.mono hb.size)
        by_cases he : wordM k = x
        · have HK : Hid (kindW x = k) := by show _ = _; rw [← he]; exact kindW_wordM k hk1 hlt
          have heb : (wordM k == x) = true := by rw [beq_iff_eq]; exact he
          clear he
          go_wp2_with fail
          go_ret
          exact ⟨ret_int HK.out.symm, hbw⟩
        · have HQ2 : Hid (∀ q : Nat, 1 ≤ q → q < k + 1 → wordM q ≠ x) := fun q h1 h2 => by
            by_cases e : q = k
            · subst e; exact he
            · exact HQ.out q h1 (by omega)
          have heb : (wordM k == x) = false := by rw [beq_eq_false_iff_ne]; exact he
          clear he
          go_wp2_with fail
          go_roundw
          case rel => exact ⟨k + 1, by omega, by omega, by go_num, HQ2, hbw⟩
          case measure => simp [intOf]; omega
      · have HK : Hid (kindW x = 0) := kindW_none HU.out fun q h1 h2 => HQ.out q h1 (by omega)
        go_wp2_with fail
        go_ret
        exact ⟨ret_int HK.out.symm, hb⟩

end Go.Proofs.Ythmmapahobkhnaa
