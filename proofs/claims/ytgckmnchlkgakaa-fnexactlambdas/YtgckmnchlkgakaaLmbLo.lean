/-
  What the model's 'l2Of', 'l2Number' come to.
-/
import Derived.Test.YtgckmnchlkgakaaLmbLs
namespace Go.Proofs.Ytgckmnchlkgakaa
open Go.RowKit Go.PlainAid
set_option linter.unusedVariables false
set_option linter.unusedSimpArgs false

def ofP (k : Int) : Int := if kOk k then shP k else -1
def ofN (k : Int) : Int := if k = 1 ∨ k = 2 ∨ k = 6 ∨ k = 7 ∨ k = 15 then 1 else 0
def ofS (k : Int) : Bool := decide (k = 3 ∨ k = 4 ∨ k = 6 ∨ k = 7 ∨ k = 14 ∨ k = 17)
def ofZ (k : Int) : Bool := decide (k = 14)

set_option maxHeartbeats 1000000 in
theorem l2Of_any (k : Int) (w : World) : Calls Try.prog 82 #[.int .i64 k] w fun e w' => e = .returned (.agg #[.int .i64 (ofP k), .int .i64 (ofN k), .bool (ofS k), .bool (ofZ k), .bool (shT k)]) ∧ Below w.heap.size w w' := by
  by_cases h1 : k = 1
  · subst h1; go_enter Try.func82, Try.ntmps82; go_wp2; refine bodyPost_ret (v := .agg #[.int .i64 0, .int .i64 1, .bool false, .bool false, .bool false]) (by simp [results, Try.results82, go_sem]) rfl ⟨rfl, ?_⟩; exact (Below.refl _ _).alloc (Nat.le_refl _) _
  by_cases h2 : k = 2
  · subst h2; go_enter Try.func82, Try.ntmps82; go_wp2; refine bodyPost_ret (v := .agg #[.int .i64 0, .int .i64 1, .bool false, .bool false, .bool false]) (by simp [results, Try.results82, go_sem]) rfl ⟨rfl, ?_⟩; exact (Below.refl _ _).alloc (Nat.le_refl _) _
  by_cases h3 : k = 3
  · subst h3; go_enter Try.func82, Try.ntmps82; go_wp2; refine bodyPost_ret (v := .agg #[.int .i64 0, .int .i64 0, .bool true, .bool false, .bool false]) (by simp [results, Try.results82, go_sem]) rfl ⟨rfl, ?_⟩; exact (Below.refl _ _).alloc (Nat.le_refl _) _
  by_cases h4 : k = 4
  · subst h4; go_enter Try.func82, Try.ntmps82; go_wp2; refine bodyPost_ret (v := .agg #[.int .i64 1, .int .i64 0, .bool true, .bool false, .bool true]) (by simp [results, Try.results82, go_sem]) rfl ⟨rfl, ?_⟩; exact (Below.refl _ _).alloc (Nat.le_refl _) _
  by_cases h5 : k = 5
  · subst h5; go_enter Try.func82, Try.ntmps82; go_wp2; refine bodyPost_ret (v := .agg #[.int .i64 2, .int .i64 0, .bool false, .bool false, .bool false]) (by simp [results, Try.results82, go_sem]) rfl ⟨rfl, ?_⟩; exact (Below.refl _ _).alloc (Nat.le_refl _) _
  by_cases h6 : k = 6
  · subst h6; go_enter Try.func82, Try.ntmps82; go_wp2; refine bodyPost_ret (v := .agg #[.int .i64 2, .int .i64 1, .bool true, .bool false, .bool false]) (by simp [results, Try.results82, go_sem]) rfl ⟨rfl, ?_⟩; exact (Below.refl _ _).alloc (Nat.le_refl _) _
  by_cases h7 : k = 7
  · subst h7; go_enter Try.func82, Try.ntmps82; go_wp2; refine bodyPost_ret (v := .agg #[.int .i64 2, .int .i64 1, .bool true, .bool false, .bool true]) (by simp [results, Try.results82, go_sem]) rfl ⟨rfl, ?_⟩; exact (Below.refl _ _).alloc (Nat.le_refl _) _
  by_cases h8 : k = 8
  · subst h8; go_enter Try.func82, Try.ntmps82; go_wp2; refine bodyPost_ret (v := .agg #[.int .i64 3, .int .i64 0, .bool false, .bool false, .bool false]) (by simp [results, Try.results82, go_sem]) rfl ⟨rfl, ?_⟩; exact (Below.refl _ _).alloc (Nat.le_refl _) _
  by_cases h9 : k = 9
  · subst h9; go_enter Try.func82, Try.ntmps82; go_wp2; refine bodyPost_ret (v := .agg #[.int .i64 2, .int .i64 0, .bool false, .bool false, .bool false]) (by simp [results, Try.results82, go_sem]) rfl ⟨rfl, ?_⟩; exact (Below.refl _ _).alloc (Nat.le_refl _) _
  by_cases h10 : k = 10
  · subst h10; go_enter Try.func82, Try.ntmps82; go_wp2; refine bodyPost_ret (v := .agg #[.int .i64 1, .int .i64 0, .bool false, .bool false, .bool false]) (by simp [results, Try.results82, go_sem]) rfl ⟨rfl, ?_⟩; exact (Below.refl _ _).alloc (Nat.le_refl _) _
  by_cases h11 : k = 11
  · subst h11; go_enter Try.func82, Try.ntmps82; go_wp2; refine bodyPost_ret (v := .agg #[.int .i64 1, .int .i64 0, .bool false, .bool false, .bool false]) (by simp [results, Try.results82, go_sem]) rfl ⟨rfl, ?_⟩; exact (Below.refl _ _).alloc (Nat.le_refl _) _
  by_cases h12 : k = 12
  · subst h12; go_enter Try.func82, Try.ntmps82; go_wp2; refine bodyPost_ret (v := .agg #[.int .i64 0, .int .i64 0, .bool false, .bool false, .bool true]) (by simp [results, Try.results82, go_sem]) rfl ⟨rfl, ?_⟩; exact (Below.refl _ _).alloc (Nat.le_refl _) _
  by_cases h13 : k = 13
  · subst h13; go_enter Try.func82, Try.ntmps82; go_wp2; refine bodyPost_ret (v := .agg #[.int .i64 2, .int .i64 0, .bool false, .bool false, .bool false]) (by simp [results, Try.results82, go_sem]) rfl ⟨rfl, ?_⟩; exact (Below.refl _ _).alloc (Nat.le_refl _) _
  by_cases h14 : k = 14
  · subst h14; go_enter Try.func82, Try.ntmps82; go_wp2; refine bodyPost_ret (v := .agg #[.int .i64 3, .int .i64 0, .bool true, .bool true, .bool false]) (by simp [results, Try.results82, go_sem]) rfl ⟨rfl, ?_⟩; exact (Below.refl _ _).alloc (Nat.le_refl _) _
  by_cases h15 : k = 15
  · subst h15; go_enter Try.func82, Try.ntmps82; go_wp2; refine bodyPost_ret (v := .agg #[.int .i64 2, .int .i64 1, .bool false, .bool false, .bool false]) (by simp [results, Try.results82, go_sem]) rfl ⟨rfl, ?_⟩; exact (Below.refl _ _).alloc (Nat.le_refl _) _
  by_cases h16 : k = 16
  · subst h16; go_enter Try.func82, Try.ntmps82; go_wp2; refine bodyPost_ret (v := .agg #[.int .i64 1, .int .i64 0, .bool false, .bool false, .bool true]) (by simp [results, Try.results82, go_sem]) rfl ⟨rfl, ?_⟩; exact (Below.refl _ _).alloc (Nat.le_refl _) _
  by_cases h17 : k = 17
  · subst h17; go_enter Try.func82, Try.ntmps82; go_wp2; refine bodyPost_ret (v := .agg #[.int .i64 2, .int .i64 0, .bool true, .bool false, .bool false]) (by simp [results, Try.results82, go_sem]) rfl ⟨rfl, ?_⟩; exact (Below.refl _ _).alloc (Nat.le_refl _) _
  have e1 : ofP k = -1 := by unfold ofP kOk; rw [decide_eq_false (by omega)]; rfl
  have e2 : ofN k = 0 := by unfold ofN; rw [if_neg (by omega)]
  have e3 : ofS k = false := by unfold ofS; rw [decide_eq_false (by omega)]
  have e4 : ofZ k = false := by unfold ofZ; rw [decide_eq_false (by omega)]
  have e5 : shT k = false := by unfold shT; rw [decide_eq_false (by omega)]
  rw [e1, e2, e3, e4, e5]
  have b1 : (k == 1) = false := beq_eq_false_iff_ne.2 h1
  have b2 : (k == 2) = false := beq_eq_false_iff_ne.2 h2
  have b3 : (k == 3) = false := beq_eq_false_iff_ne.2 h3
  have b4 : (k == 4) = false := beq_eq_false_iff_ne.2 h4
  have b5 : (k == 5) = false := beq_eq_false_iff_ne.2 h5
  have b6 : (k == 6) = false := beq_eq_false_iff_ne.2 h6
  have b7 : (k == 7) = false := beq_eq_false_iff_ne.2 h7
  have b8 : (k == 8) = false := beq_eq_false_iff_ne.2 h8
  have b9 : (k == 9) = false := beq_eq_false_iff_ne.2 h9
  have b10 : (k == 10) = false := beq_eq_false_iff_ne.2 h10
  have b11 : (k == 11) = false := beq_eq_false_iff_ne.2 h11
  have b12 : (k == 12) = false := beq_eq_false_iff_ne.2 h12
  have b13 : (k == 13) = false := beq_eq_false_iff_ne.2 h13
  have b14 : (k == 14) = false := beq_eq_false_iff_ne.2 h14
  have b15 : (k == 15) = false := beq_eq_false_iff_ne.2 h15
  have b16 : (k == 16) = false := beq_eq_false_iff_ne.2 h16
  have b17 : (k == 17) = false := beq_eq_false_iff_ne.2 h17
  clear e1 e2 e3 e4 e5 h1 h2 h3 h4 h5 h6 h7 h8 h9 h10 h11 h12 h13 h14 h15 h16 h17
  go_enter Try.func82, Try.ntmps82; go_wp2; refine bodyPost_ret (v := .agg #[.int .i64 (-1), .int .i64 0, .bool false, .bool false, .bool false]) (by simp [results, Try.results82, go_sem]) rfl ⟨rfl, ?_⟩; exact (Below.refl _ _).alloc (Nat.le_refl _) _

def numB (k n : Int) : Bool := inB n (shL k) (shM k)
set_option maxHeartbeats 1000000 in
theorem l2Number_any (k n : Int) (v2 v3 v4 v5 v6 v7 v8 : Value) (w : World) : Calls Try.prog 83 #[.agg #[.int .i64 k, .int .i64 n, v2, v3, v4, v5, v6, v7, v8]] w fun e w' => e = .returned (.bool (numB k n)) ∧ Below w.heap.size w w' := by
  have hb0 : Below w.heap.size w (w.alloc (.cells #[.int .i64 k, .int .i64 n, v2, v3, v4, v5, v6, v7, v8] 36)) := (Below.refl _ _).alloc (Nat.le_refl _) _
  by_cases h1 : k = 1
  · subst h1
    go_enter Try.func83, Try.ntmps83
    go_wp2_with fail
    refine (l1In_gen _ _ _ _).mono ?_
    rintro e w' ⟨rfl, rfl⟩
    go_wp2_with fail
    go_ret
    exact ⟨rfl, hb0⟩
  by_cases h2 : k = 2
  · subst h2
    go_enter Try.func83, Try.ntmps83
    go_wp2_with fail
    refine (l1In_gen _ _ _ _).mono ?_
    rintro e w' ⟨rfl, rfl⟩
    go_wp2_with fail
    go_ret
    exact ⟨rfl, hb0⟩
  by_cases h6 : k = 6
  · subst h6
    go_enter Try.func83, Try.ntmps83
    go_wp2_with fail
    refine (l1In_gen _ _ _ _).mono ?_
    rintro e w' ⟨rfl, rfl⟩
    go_wp2_with fail
    go_ret
    exact ⟨rfl, hb0⟩
  by_cases h7 : k = 7
  · subst h7
    go_enter Try.func83, Try.ntmps83
    go_wp2_with fail
    refine (l1In_gen _ _ _ _).mono ?_
    rintro e w' ⟨rfl, rfl⟩
    go_wp2_with fail
    go_ret
    exact ⟨rfl, hb0⟩
  by_cases h15 : k = 15
  · subst h15
    go_enter Try.func83, Try.ntmps83
    go_wp2_with fail
    refine (l1In_gen _ _ _ _).mono ?_
    rintro e w' ⟨rfl, rfl⟩
    go_wp2_with fail
    go_ret
    exact ⟨rfl, hb0⟩
  have HE : Hid (numB k n = (n == 0)) := by
    show _ = _
    have e1 : shL k = 0 := by unfold shL; rw [if_neg h1, if_neg h15]
    have e2 : shM k = 0 := by unfold shM; rw [if_neg h1, if_neg h2, if_neg (by omega), if_neg h15]
    unfold numB inB; rw [e1, e2, Bool.eq_iff_iff]; simp; omega
  have b1 : (k == 1) = false := beq_eq_false_iff_ne.2 h1
  have b2 : (k == 2) = false := beq_eq_false_iff_ne.2 h2
  have b6 : (k == 6) = false := beq_eq_false_iff_ne.2 h6
  have b7 : (k == 7) = false := beq_eq_false_iff_ne.2 h7
  have b15 : (k == 15) = false := beq_eq_false_iff_ne.2 h15
  clear h1 h2 h6 h7 h15
  go_enter Try.func83, Try.ntmps83
  go_wp2_with fail
  go_ret
  exact ⟨ret_bool HE.out.symm, hb0⟩

end Go.Proofs.Ytgckmnchlkgakaa
