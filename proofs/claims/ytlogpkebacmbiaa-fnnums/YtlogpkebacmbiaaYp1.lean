/-
  The program's PutNum: the bytes that it is given, and behind them those of the number.
-/
import Derived.Test.YtlogpkebacmbiaaYn0
import Derived.Test.YtlogpkebacmbiaaLwM
namespace Go.Proofs.Ytlogpkebacmbiaa
open Go.RowKit
set_option linter.unusedVariables false
set_option linter.unusedSimpArgs false

theorem zig_eq (n : Int) : (zig n : Int) = if cla n < 0 then -2 * cla n - 1 else 2 * cla n := by
  by_cases h : cla n < 0
  · rw [if_pos h, zig_neg h]
  · rw [if_neg h, zig_pos h]

set_option maxRecDepth 100000 in
set_option maxHeartbeats 400000 in
theorem unsigned_any (n : Int) (h1 : -9223372036854775808 ≤ n) (h2 : n ≤ 9223372036854775807) (w : World) :
    Calls Try.prog 26 #[.int .i64 n] w fun e w' => e = .returned (.int .i64 (zig n)) ∧ w' = w := by
  rw [zig_eq]
  unfold cla
  go_enter Try.func26, Try.ntmps26
  go_wp2_with fail
  all_goals
    go_ret
    refine ⟨ret_int ?_, rfl⟩
    repeat' split
    all_goals omega

set_option maxRecDepth 100000 in
set_option maxHeartbeats 400000 in
theorem clone_any {L B : Nat} (ao : Option Addr) (len cap : Nat) (l : List Int) (w : World) (hB : B ≤ w.heap.size) (hs : Bs L B w ao len l) (hl : len ≤ 1048576) :
    Calls Try.prog 17 #[.slice ao len cap] w fun e w' => ∃ a' c', e = .returned (.slice a' len c') ∧ Byts w.heap.size w' (.slice a' len c') l ∧ Below w.heap.size w w' := by
  cases ao with
  | none =>
    have hlen : len = 0 := by
      rcases Nat.eq_zero_or_pos len with h | h
      · exact h
      · obtain ⟨b, o, e, _⟩ := hs.2.2 0 (by have := hs.1; omega)
        cases e
    subst hlen
    have hln : l = [] := List.length_eq_zero_iff.1 hs.1.symm
    subst hln
    go_enter Try.func17, Try.ntmps17
    go_wp2_with fail
    rw [Lib.run_eql_slice_nil _ _ _ _ _ _ _ _ Try.underlying22]
    simp only [Result.andThen, Option.isNone]
    rw [Oper.upon_value]
    go_wp2_with fail
    go_ret
    exact ⟨_, _, rfl, byts_nil _ _, Below.refl _ _⟩
  | some a =>
    obtain ⟨X, hX⟩ : ∃ X, X = w.alloc (.cells #[] 5) := ⟨_, rfl⟩
    have hXs : X.heap.size = w.heap.size + 1 := by rw [hX]; simp
    have hXb : Below w.heap.size w X := by rw [hX]; exact (Below.refl _ _).alloc (Nat.le_refl _) _
    have x1 : X.heap[w.heap.size]? = some (.cells #[] 5 (0, 0)) := by rw [hX]; exact heap_new rfl
    have hN0 : Byts w.heap.size X (.slice (some ⟨w.heap.size, 0, none⟩) 0 0) [] := byts_none x1 (Nat.le_refl _)
    obtain ⟨a2, c2, w2, HR, HN2, hg2⟩ := byts_app hN0 (by omega) cap (hs.below hXb hB) (by simp; omega)
    simp only [List.nil_append, List.length_nil, Nat.zero_add] at HN2 HR
    have HB2 : Hid (Below w.heap.size w w2) := ⟨hg2.os.trans hXb.os, hg2.tape.trans hXb.tape, hg2.output.trans hXb.output, by have := hg2.size; omega, fun q hq => (hg2.block q (by omega) (fun e => by have := (byts_own hN0 e.symm).1; omega)).trans (hXb.block q hq)⟩
    rw [hX] at HR
    have HR' : Hid (_ = _) := HR
    clear hX hg2 hXb x1 hN0 hs hXs HR
    go_enter Try.func17, Try.ntmps17
    go_wp2_with fail
    rw [Lib.run_eql_slice_nil _ _ _ _ _ _ _ _ Try.underlying22]
    simp only [Result.andThen, Option.isNone]
    rw [Oper.upon_value]
    go_wp2_with (at_builtin; refine list_run HR'.out (by rfl) _ _ (by rfl) (by rfl) (by rfl) (by rfl) ?_)
    go_ret
    exact ⟨_, _, rfl, HN2, HB2.out⟩

set_option maxRecDepth 100000 in
set_option maxHeartbeats 1000000 in
theorem putNums_one {base : Nat} (a0 : Option Addr) (len c0 : Nat) (P : List Int) (n : Int) (b : Nat) (w : World) (hb : base ≤ w.heap.size) (hN : Byts base w (.slice a0 len c0) P) (hl : len ≤ 1048576)
    (hbb : b < w.heap.size) (hc : w.cell? ⟨b, 0, none⟩ = some (.int .i64 n)) (h1 : -9223372036854775808 ≤ n) (h2 : n ≤ 9223372036854775807) :
    Calls Try.prog 16 #[.slice a0 len c0, .slice (some ⟨b, 0, none⟩) 1 1] w fun e w' => ∃ a' n' c', e = .returned (.slice a' n' c') ∧ Byts base w' (.slice a' n' c') (P ++ put n) ∧ Below base w w' := by
  have HL : Hid (len = P.length) := by obtain ⟨_, _, e⟩ := byts_form hN; injection e
  go_enter Try.func16, Try.ntmps16
  go_wp2_with fail
  refine wp_loop_rounds 2 ?_
  rw [rounds_succ]
  go_wp2_with fail
  refine (unsigned_any n h1 h2 _).mono ?_
  rintro e w1 ⟨rfl, hw1⟩
  subst hw1
  go_wp2_with fail
  go_loopw [0, 7] (fun v mm wr => ∃ (m k : Nat) (a' : Option Addr) (c' : Nat) (R : List Int), mm = .int .i64 m ∧ Grp n R m ∧ Hid (k = (P ++ R).length) ∧ k ≤ 1048580 ∧ v = .slice a' k c' ∧ Byts base wr (.slice a' k c') (P ++ R) ∧ Below base w1 wr) (fun _ mm _ => (intOf mm).toNat)
  case atStart => exact ⟨_, len, _, _, [], rfl, Grp.start n, by show _ = _; rw [List.append_nil]; exact HL.out, by omega, rfl, by rw [List.append_nil]; exact hN, Below.refl _ _⟩
  case round =>
    obtain ⟨m, k, a', c', R, rfl, hG, HK, hk, rfl, hT, hbr⟩ := hrel
    have hszr := hbr.size
    have hml := hG.le
    by_cases hm : 128 ≤ m
    · obtain ⟨g2, cp, w2, HR, HN2, hb2⟩ := byts_push hT (by omega) (by have := HK.out; omega) ((m % 128 + 128 : Nat) : Int)
      have HR' : Hid (_ = _) := HR
      rw [← HK.out] at HR'
      have HG : Hid (Grp n (R ++ [((m % 128 + 128 : Nat) : Int)]) (m / 128)) := hG.next hm
      have HK2 : Hid (k + 1 = (P ++ (R ++ [((m % 128 + 128 : Nat) : Int)])).length) := by show _ = _; have := HK.out; rw [← List.append_assoc, List.length_append, List.length_singleton]; omega
      have HN' : Hid (Byts base w2 (.slice (some ⟨g2, 0, none⟩) (k + 1) cp) (P ++ (R ++ [((m % 128 + 128 : Nat) : Int)]))) := by show Byts _ _ _ _; rw [HK.out, ← List.append_assoc]; exact HN2
      have hk2 : k + 1 ≤ 1048580 := by
        have e1 := (hG.next hm).len
        have e2 := HK2.out
        have e3 := HL.out
        simp only [List.length_append, List.length_singleton] at e1 e2
        omega
      have hbr2 : Below base w1 w2 := hbr.trans hb2
      clear HR HN2 hb2 hT hG
      go_wp2_with (at_builtin; refine list_run HR'.out (by rfl) _ _ (by rfl) (by rfl) (by rfl) (by rfl) ?_)
      go_roundw
      case rel => exact ⟨m / 128, k + 1, _, _, _, by simp, HG.out, HK2, hk2, rfl, HN'.out, hbr2⟩
      case measure => simp [intOf]; omega
    · obtain ⟨g2, cp, w2, HR, HN2, hb2⟩ := byts_push hT (by omega) (by have := HK.out; omega) (m : Int)
      have HR' : Hid (_ = _) := HR
      rw [← HK.out] at HR'
      have HF : Hid (R ++ [(m : Int)] = put n) := hG.fin (by omega)
      have HN' : Hid (Byts base w2 (.slice (some ⟨g2, 0, none⟩) (k + 1) cp) (P ++ put n)) := by show Byts _ _ _ _; rw [HK.out, ← HF.out, ← List.append_assoc]; exact HN2
      have hbr2 : Below base w1 w2 := hbr.trans hb2
      clear HR HN2 hb2 hT hG
      go_wp2_with (at_builtin; refine list_run HR'.out (by rfl) _ _ (by rfl) (by rfl) (by rfl) (by rfl) ?_)
      rw [rounds_succ]
      go_wp2_with fail
      go_ret
      exact ⟨_, _, _, rfl, HN'.out, hbr2⟩

set_option maxRecDepth 100000 in
set_option maxHeartbeats 1000000 in
/-- The program's PutNum. -/
theorem putNum_any {L B : Nat} (ao : Option Addr) (len cap : Nat) (l : List Int) (n : Int) (w : World) (hB : B ≤ w.heap.size) (hs : Bs L B w ao len l) (hl : len ≤ 1048576) (h1 : -9223372036854775808 ≤ n) (h2 : n ≤ 9223372036854775807) :
    Calls Try.prog 8 #[.slice ao len cap, .int .i64 n] w fun e w' => ∃ a' n' c', e = .returned (.slice a' n' c') ∧ Byts w.heap.size w' (.slice a' n' c') (l ++ put n) ∧ Below w.heap.size w w' := by
  go_enter Try.func8, Try.ntmps8
  go_wp2_with fail
  refine (clone_any ao len cap l w hB hs hl).mono ?_
  rintro e w1 ⟨a1, c1, rfl, hN1, hb1⟩
  go_wp2_with fail
  have hz := hb1.size
  obtain ⟨X, hX⟩ : ∃ X, X = w1.alloc (.cells #[.int .i64 n] 3) := ⟨_, rfl⟩
  have hXb : Below w1.heap.size w1 X := by rw [hX]; exact (Below.refl _ _).alloc (Nat.le_refl _) _
  have hXs : X.heap.size = w1.heap.size + 1 := by rw [hX]; simp
  have hXc : X.cell? ⟨w1.heap.size, 0, none⟩ = some (.int .i64 n) := by rw [hX]; exact row_cell (heap_new rfl) 0
  rw [← hX]
  refine (putNums_one (base := w.heap.size) a1 len c1 l n w1.heap.size X (by omega) (byts_bel hN1 hXb) hl (by omega) hXc h1 h2).mono ?_
  rintro e w2 ⟨a2, n2, c2, rfl, hN2, hb2⟩
  go_wp2_with fail
  go_ret
  exact ⟨_, _, _, rfl, hN2, (hb1.trans (hXb.mono hz)).trans hb2⟩

end Go.Proofs.Ytlogpkebacmbiaa
