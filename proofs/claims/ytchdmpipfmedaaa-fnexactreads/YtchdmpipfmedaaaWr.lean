/-
  Which fields an instruction has: 'fieldsOf' of the program, 'l9Uses' of the model; 'Writes' of both.
-/
import Derived.Test.YtchdmpipfmedaaaInS
namespace Go.Proofs.Ytchdmpipfmedaaa
open Go.RowKit
set_option linter.unusedVariables false
set_option linter.unusedSimpArgs false

def uD (k : Int) : Bool := k == 1 || k == 2 || k == 3 || k == 4 || k == 5 || k == 6 || k == 7 || k == 8 || k == 9 || k == 10 || k == 14 || k == 17
def uX (k : Int) : Bool := k == 4 || k == 5 || k == 6 || k == 7 || k == 9 || k == 10 || k == 11 || k == 12 || k == 14 || k == 15 || k == 16
def uY (k : Int) : Bool := k == 5 || k == 6 || k == 7 || k == 14
def uT (k : Int) : Bool := k == 11 || k == 12 || k == 13 || k == 17
def uOk (k : Int) : Bool := decide (1 ≤ k) && decide (k ≤ 18)

theorem uD_else {k : Int} (h : uOk k = false) : uD k = false ∧ uX k = false ∧ uY k = false ∧ uT k = false := by
  simp only [uOk, Bool.and_eq_false_iff, decide_eq_false_iff_not] at h
  refine ⟨?_, ?_, ?_, ?_⟩ <;> (simp only [uD, uX, uY, uT, Bool.or_eq_false_iff, beq_eq_false_iff_ne]; omega)

set_option maxHeartbeats 2000000 in
theorem fieldsOf_any (k : Int) (w : World) : Calls Try.prog 42 #[.int .i64 k] w fun e w' => e = .returned (.tuple #[.agg #[.bool (uD k), .bool (uX k), .bool (uY k), .bool (uT k)], .bool (uOk k)]) ∧ Below w.heap.size w w' := by
  by_cases h1 : k = 1
  · subst h1; go_enter Try.func42, Try.ntmps42; go_wp2; refine bodyPost_ret (v := .tuple #[.agg #[.bool true, .bool false, .bool false, .bool false], .bool true]) (by simp [results, Try.results42, go_sem]) rfl ⟨rfl, ?_⟩; first | exact (Below.refl _ _).alloc (Nat.le_refl _) _ | exact ((Below.refl _ _).alloc (Nat.le_refl _) _).alloc (by simp) _
  by_cases h2 : k = 2
  · subst h2; go_enter Try.func42, Try.ntmps42; go_wp2; refine bodyPost_ret (v := .tuple #[.agg #[.bool true, .bool false, .bool false, .bool false], .bool true]) (by simp [results, Try.results42, go_sem]) rfl ⟨rfl, ?_⟩; first | exact (Below.refl _ _).alloc (Nat.le_refl _) _ | exact ((Below.refl _ _).alloc (Nat.le_refl _) _).alloc (by simp) _
  by_cases h3 : k = 3
  · subst h3; go_enter Try.func42, Try.ntmps42; go_wp2; refine bodyPost_ret (v := .tuple #[.agg #[.bool true, .bool false, .bool false, .bool false], .bool true]) (by simp [results, Try.results42, go_sem]) rfl ⟨rfl, ?_⟩; first | exact (Below.refl _ _).alloc (Nat.le_refl _) _ | exact ((Below.refl _ _).alloc (Nat.le_refl _) _).alloc (by simp) _
  by_cases h4 : k = 4
  · subst h4; go_enter Try.func42, Try.ntmps42; go_wp2; refine bodyPost_ret (v := .tuple #[.agg #[.bool true, .bool true, .bool false, .bool false], .bool true]) (by simp [results, Try.results42, go_sem]) rfl ⟨rfl, ?_⟩; first | exact (Below.refl _ _).alloc (Nat.le_refl _) _ | exact ((Below.refl _ _).alloc (Nat.le_refl _) _).alloc (by simp) _
  by_cases h5 : k = 5
  · subst h5; go_enter Try.func42, Try.ntmps42; go_wp2; refine bodyPost_ret (v := .tuple #[.agg #[.bool true, .bool true, .bool true, .bool false], .bool true]) (by simp [results, Try.results42, go_sem]) rfl ⟨rfl, ?_⟩; first | exact (Below.refl _ _).alloc (Nat.le_refl _) _ | exact ((Below.refl _ _).alloc (Nat.le_refl _) _).alloc (by simp) _
  by_cases h6 : k = 6
  · subst h6; go_enter Try.func42, Try.ntmps42; go_wp2; refine bodyPost_ret (v := .tuple #[.agg #[.bool true, .bool true, .bool true, .bool false], .bool true]) (by simp [results, Try.results42, go_sem]) rfl ⟨rfl, ?_⟩; first | exact (Below.refl _ _).alloc (Nat.le_refl _) _ | exact ((Below.refl _ _).alloc (Nat.le_refl _) _).alloc (by simp) _
  by_cases h7 : k = 7
  · subst h7; go_enter Try.func42, Try.ntmps42; go_wp2; refine bodyPost_ret (v := .tuple #[.agg #[.bool true, .bool true, .bool true, .bool false], .bool true]) (by simp [results, Try.results42, go_sem]) rfl ⟨rfl, ?_⟩; first | exact (Below.refl _ _).alloc (Nat.le_refl _) _ | exact ((Below.refl _ _).alloc (Nat.le_refl _) _).alloc (by simp) _
  by_cases h8 : k = 8
  · subst h8; go_enter Try.func42, Try.ntmps42; go_wp2; refine bodyPost_ret (v := .tuple #[.agg #[.bool true, .bool false, .bool false, .bool false], .bool true]) (by simp [results, Try.results42, go_sem]) rfl ⟨rfl, ?_⟩; first | exact (Below.refl _ _).alloc (Nat.le_refl _) _ | exact ((Below.refl _ _).alloc (Nat.le_refl _) _).alloc (by simp) _
  by_cases h9 : k = 9
  · subst h9; go_enter Try.func42, Try.ntmps42; go_wp2; refine bodyPost_ret (v := .tuple #[.agg #[.bool true, .bool true, .bool false, .bool false], .bool true]) (by simp [results, Try.results42, go_sem]) rfl ⟨rfl, ?_⟩; first | exact (Below.refl _ _).alloc (Nat.le_refl _) _ | exact ((Below.refl _ _).alloc (Nat.le_refl _) _).alloc (by simp) _
  by_cases h10 : k = 10
  · subst h10; go_enter Try.func42, Try.ntmps42; go_wp2; refine bodyPost_ret (v := .tuple #[.agg #[.bool true, .bool true, .bool false, .bool false], .bool true]) (by simp [results, Try.results42, go_sem]) rfl ⟨rfl, ?_⟩; first | exact (Below.refl _ _).alloc (Nat.le_refl _) _ | exact ((Below.refl _ _).alloc (Nat.le_refl _) _).alloc (by simp) _
  by_cases h11 : k = 11
  · subst h11; go_enter Try.func42, Try.ntmps42; go_wp2; refine bodyPost_ret (v := .tuple #[.agg #[.bool false, .bool true, .bool false, .bool true], .bool true]) (by simp [results, Try.results42, go_sem]) rfl ⟨rfl, ?_⟩; first | exact (Below.refl _ _).alloc (Nat.le_refl _) _ | exact ((Below.refl _ _).alloc (Nat.le_refl _) _).alloc (by simp) _
  by_cases h12 : k = 12
  · subst h12; go_enter Try.func42, Try.ntmps42; go_wp2; refine bodyPost_ret (v := .tuple #[.agg #[.bool false, .bool true, .bool false, .bool true], .bool true]) (by simp [results, Try.results42, go_sem]) rfl ⟨rfl, ?_⟩; first | exact (Below.refl _ _).alloc (Nat.le_refl _) _ | exact ((Below.refl _ _).alloc (Nat.le_refl _) _).alloc (by simp) _
  by_cases h13 : k = 13
  · subst h13; go_enter Try.func42, Try.ntmps42; go_wp2; refine bodyPost_ret (v := .tuple #[.agg #[.bool false, .bool false, .bool false, .bool true], .bool true]) (by simp [results, Try.results42, go_sem]) rfl ⟨rfl, ?_⟩; first | exact (Below.refl _ _).alloc (Nat.le_refl _) _ | exact ((Below.refl _ _).alloc (Nat.le_refl _) _).alloc (by simp) _
  by_cases h14 : k = 14
  · subst h14; go_enter Try.func42, Try.ntmps42; go_wp2; refine bodyPost_ret (v := .tuple #[.agg #[.bool true, .bool true, .bool true, .bool false], .bool true]) (by simp [results, Try.results42, go_sem]) rfl ⟨rfl, ?_⟩; first | exact (Below.refl _ _).alloc (Nat.le_refl _) _ | exact ((Below.refl _ _).alloc (Nat.le_refl _) _).alloc (by simp) _
  by_cases h15 : k = 15
  · subst h15; go_enter Try.func42, Try.ntmps42; go_wp2; refine bodyPost_ret (v := .tuple #[.agg #[.bool false, .bool true, .bool false, .bool false], .bool true]) (by simp [results, Try.results42, go_sem]) rfl ⟨rfl, ?_⟩; first | exact (Below.refl _ _).alloc (Nat.le_refl _) _ | exact ((Below.refl _ _).alloc (Nat.le_refl _) _).alloc (by simp) _
  by_cases h16 : k = 16
  · subst h16; go_enter Try.func42, Try.ntmps42; go_wp2; refine bodyPost_ret (v := .tuple #[.agg #[.bool false, .bool true, .bool false, .bool false], .bool true]) (by simp [results, Try.results42, go_sem]) rfl ⟨rfl, ?_⟩; first | exact (Below.refl _ _).alloc (Nat.le_refl _) _ | exact ((Below.refl _ _).alloc (Nat.le_refl _) _).alloc (by simp) _
  by_cases h17 : k = 17
  · subst h17; go_enter Try.func42, Try.ntmps42; go_wp2; refine bodyPost_ret (v := .tuple #[.agg #[.bool true, .bool false, .bool false, .bool true], .bool true]) (by simp [results, Try.results42, go_sem]) rfl ⟨rfl, ?_⟩; first | exact (Below.refl _ _).alloc (Nat.le_refl _) _ | exact ((Below.refl _ _).alloc (Nat.le_refl _) _).alloc (by simp) _
  by_cases h18 : k = 18
  · subst h18; go_enter Try.func42, Try.ntmps42; go_wp2; refine bodyPost_ret (v := .tuple #[.agg #[.bool false, .bool false, .bool false, .bool false], .bool true]) (by simp [results, Try.results42, go_sem]) rfl ⟨rfl, ?_⟩; first | exact (Below.refl _ _).alloc (Nat.le_refl _) _ | exact ((Below.refl _ _).alloc (Nat.le_refl _) _).alloc (by simp) _
  have e0 : uOk k = false := by simp only [uOk, Bool.and_eq_false_iff, decide_eq_false_iff_not]; omega
  obtain ⟨e1, e2, e3, e4⟩ := uD_else e0
  rw [e1, e2, e3, e4]
  rw [e0]
  have b1 : (k == 1) = false := beq_eq_false_iff_ne.2 h1
  have b2 : (k == 2) = false := beq_eq_false_iff_ne.2 h2
  have b3 : (k == 3) = false := beq_eq_false_iff_ne.2 h3
  have b4 : (k == 4) = false := beq_eq_false_iff_ne.2 h4
  have b5 : (k == 5) = false := beq_eq_false_iff_ne.2 h5
  have b6 : (k == 6) = false := beq_eq_false_iff_ne.2 h6
  have b7 : (k == 7) = false := beq_eq_false_iff_ne.2 h7
  have b8 : (k == 8) = false := beq_eq_false_iff_ne.2 h8
  have b9 : (k == 9) = false := beq_eq_false_iff_ne.2 h9
  have b10 : (k == 10) = false := beq_eq_false_iff_ne.2 h10
  have b11 : (k == 11) = false := beq_eq_false_iff_ne.2 h11
  have b12 : (k == 12) = false := beq_eq_false_iff_ne.2 h12
  have b13 : (k == 13) = false := beq_eq_false_iff_ne.2 h13
  have b14 : (k == 14) = false := beq_eq_false_iff_ne.2 h14
  have b15 : (k == 15) = false := beq_eq_false_iff_ne.2 h15
  have b16 : (k == 16) = false := beq_eq_false_iff_ne.2 h16
  have b17 : (k == 17) = false := beq_eq_false_iff_ne.2 h17
  have b18 : (k == 18) = false := beq_eq_false_iff_ne.2 h18
  go_enter Try.func42, Try.ntmps42; go_wp2; refine bodyPost_ret (v := .tuple #[.agg #[.bool false, .bool false, .bool false, .bool false], .bool false]) (by simp [results, Try.results42, go_sem]) rfl ⟨rfl, ?_⟩; first | exact (Below.refl _ _).alloc (Nat.le_refl _) _ | exact ((Below.refl _ _).alloc (Nat.le_refl _) _).alloc (by simp) _

set_option maxHeartbeats 2000000 in
theorem l9Uses_any (k : Int) (w : World) : Calls Try.prog 40 #[.int .i64 k] w fun e w' => e = .returned (.agg #[.bool (uD k), .bool (uX k), .bool (uY k), .bool (uT k)]) ∧ Below w.heap.size w w' := by
  by_cases h1 : k = 1
  · subst h1; go_enter Try.func40, Try.ntmps40; go_wp2; refine bodyPost_ret (v := .agg #[.bool true, .bool false, .bool false, .bool false]) (by simp [results, Try.results40, go_sem]) rfl ⟨rfl, ?_⟩; first | exact (Below.refl _ _).alloc (Nat.le_refl _) _ | exact ((Below.refl _ _).alloc (Nat.le_refl _) _).alloc (by simp) _
  by_cases h2 : k = 2
  · subst h2; go_enter Try.func40, Try.ntmps40; go_wp2; refine bodyPost_ret (v := .agg #[.bool true, .bool false, .bool false, .bool false]) (by simp [results, Try.results40, go_sem]) rfl ⟨rfl, ?_⟩; first | exact (Below.refl _ _).alloc (Nat.le_refl _) _ | exact ((Below.refl _ _).alloc (Nat.le_refl _) _).alloc (by simp) _
  by_cases h3 : k = 3
  · subst h3; go_enter Try.func40, Try.ntmps40; go_wp2; refine bodyPost_ret (v := .agg #[.bool true, .bool false, .bool false, .bool false]) (by simp [results, Try.results40, go_sem]) rfl ⟨rfl, ?_⟩; first | exact (Below.refl _ _).alloc (Nat.le_refl _) _ | exact ((Below.refl _ _).alloc (Nat.le_refl _) _).alloc (by simp) _
  by_cases h4 : k = 4
  · subst h4; go_enter Try.func40, Try.ntmps40; go_wp2; refine bodyPost_ret (v := .agg #[.bool true, .bool true, .bool false, .bool false]) (by simp [results, Try.results40, go_sem]) rfl ⟨rfl, ?_⟩; first | exact (Below.refl _ _).alloc (Nat.le_refl _) _ | exact ((Below.refl _ _).alloc (Nat.le_refl _) _).alloc (by simp) _
  by_cases h5 : k = 5
  · subst h5; go_enter Try.func40, Try.ntmps40; go_wp2; refine bodyPost_ret (v := .agg #[.bool true, .bool true, .bool true, .bool false]) (by simp [results, Try.results40, go_sem]) rfl ⟨rfl, ?_⟩; first | exact (Below.refl _ _).alloc (Nat.le_refl _) _ | exact ((Below.refl _ _).alloc (Nat.le_refl _) _).alloc (by simp) _
  by_cases h6 : k = 6
  · subst h6; go_enter Try.func40, Try.ntmps40; go_wp2; refine bodyPost_ret (v := .agg #[.bool true, .bool true, .bool true, .bool false]) (by simp [results, Try.results40, go_sem]) rfl ⟨rfl, ?_⟩; first | exact (Below.refl _ _).alloc (Nat.le_refl _) _ | exact ((Below.refl _ _).alloc (Nat.le_refl _) _).alloc (by simp) _
  by_cases h7 : k = 7
  · subst h7; go_enter Try.func40, Try.ntmps40; go_wp2; refine bodyPost_ret (v := .agg #[.bool true, .bool true, .bool true, .bool false]) (by simp [results, Try.results40, go_sem]) rfl ⟨rfl, ?_⟩; first | exact (Below.refl _ _).alloc (Nat.le_refl _) _ | exact ((Below.refl _ _).alloc (Nat.le_refl _) _).alloc (by simp) _
  by_cases h8 : k = 8
  · subst h8; go_enter Try.func40, Try.ntmps40; go_wp2; refine bodyPost_ret (v := .agg #[.bool true, .bool false, .bool false, .bool false]) (by simp [results, Try.results40, go_sem]) rfl ⟨rfl, ?_⟩; first | exact (Below.refl _ _).alloc (Nat.le_refl _) _ | exact ((Below.refl _ _).alloc (Nat.le_refl _) _).alloc (by simp) _
  by_cases h9 : k = 9
  · subst h9; go_enter Try.func40, Try.ntmps40; go_wp2; refine bodyPost_ret (v := .agg #[.bool true, .bool true, .bool false, .bool false]) (by simp [results, Try.results40, go_sem]) rfl ⟨rfl, ?_⟩; first | exact (Below.refl _ _).alloc (Nat.le_refl _) _ | exact ((Below.refl _ _).alloc (Nat.le_refl _) _).alloc (by simp) _
  by_cases h10 : k = 10
  · subst h10; go_enter Try.func40, Try.ntmps40; go_wp2; refine bodyPost_ret (v := .agg #[.bool true, .bool true, .bool false, .bool false]) (by simp [results, Try.results40, go_sem]) rfl ⟨rfl, ?_⟩; first | exact (Below.refl _ _).alloc (Nat.le_refl _) _ | exact ((Below.refl _ _).alloc (Nat.le_refl _) _).alloc (by simp) _
  by_cases h11 : k = 11
  · subst h11; go_enter Try.func40, Try.ntmps40; go_wp2; refine bodyPost_ret (v := .agg #[.bool false, .bool true, .bool false, .bool true]) (by simp [results, Try.results40, go_sem]) rfl ⟨rfl, ?_⟩; first | exact (Below.refl _ _).alloc (Nat.le_refl _) _ | exact ((Below.refl _ _).alloc (Nat.le_refl _) _).alloc (by simp) _
  by_cases h12 : k = 12
  · subst h12; go_enter Try.func40, Try.ntmps40; go_wp2; refine bodyPost_ret (v := .agg #[.bool false, .bool true, .bool false, .bool true]) (by simp [results, Try.results40, go_sem]) rfl ⟨rfl, ?_⟩; first | exact (Below.refl _ _).alloc (Nat.le_refl _) _ | exact ((Below.refl _ _).alloc (Nat.le_refl _) _).alloc (by simp) _
  by_cases h13 : k = 13
  · subst h13; go_enter Try.func40, Try.ntmps40; go_wp2; refine bodyPost_ret (v := .agg #[.bool false, .bool false, .bool false, .bool true]) (by simp [results, Try.results40, go_sem]) rfl ⟨rfl, ?_⟩; first | exact (Below.refl _ _).alloc (Nat.le_refl _) _ | exact ((Below.refl _ _).alloc (Nat.le_refl _) _).alloc (by simp) _
  by_cases h14 : k = 14
  · subst h14; go_enter Try.func40, Try.ntmps40; go_wp2; refine bodyPost_ret (v := .agg #[.bool true, .bool true, .bool true, .bool false]) (by simp [results, Try.results40, go_sem]) rfl ⟨rfl, ?_⟩; first | exact (Below.refl _ _).alloc (Nat.le_refl _) _ | exact ((Below.refl _ _).alloc (Nat.le_refl _) _).alloc (by simp) _
  by_cases h15 : k = 15
  · subst h15; go_enter Try.func40, Try.ntmps40; go_wp2; refine bodyPost_ret (v := .agg #[.bool false, .bool true, .bool false, .bool false]) (by simp [results, Try.results40, go_sem]) rfl ⟨rfl, ?_⟩; first | exact (Below.refl _ _).alloc (Nat.le_refl _) _ | exact ((Below.refl _ _).alloc (Nat.le_refl _) _).alloc (by simp) _
  by_cases h16 : k = 16
  · subst h16; go_enter Try.func40, Try.ntmps40; go_wp2; refine bodyPost_ret (v := .agg #[.bool false, .bool true, .bool false, .bool false]) (by simp [results, Try.results40, go_sem]) rfl ⟨rfl, ?_⟩; first | exact (Below.refl _ _).alloc (Nat.le_refl _) _ | exact ((Below.refl _ _).alloc (Nat.le_refl _) _).alloc (by simp) _
  by_cases h17 : k = 17
  · subst h17; go_enter Try.func40, Try.ntmps40; go_wp2; refine bodyPost_ret (v := .agg #[.bool true, .bool false, .bool false, .bool true]) (by simp [results, Try.results40, go_sem]) rfl ⟨rfl, ?_⟩; first | exact (Below.refl _ _).alloc (Nat.le_refl _) _ | exact ((Below.refl _ _).alloc (Nat.le_refl _) _).alloc (by simp) _
  by_cases h18 : k = 18
  · subst h18; go_enter Try.func40, Try.ntmps40; go_wp2; refine bodyPost_ret (v := .agg #[.bool false, .bool false, .bool false, .bool false]) (by simp [results, Try.results40, go_sem]) rfl ⟨rfl, ?_⟩; first | exact (Below.refl _ _).alloc (Nat.le_refl _) _ | exact ((Below.refl _ _).alloc (Nat.le_refl _) _).alloc (by simp) _
  have e0 : uOk k = false := by simp only [uOk, Bool.and_eq_false_iff, decide_eq_false_iff_not]; omega
  obtain ⟨e1, e2, e3, e4⟩ := uD_else e0
  rw [e1, e2, e3, e4]
  have b1 : (k == 1) = false := beq_eq_false_iff_ne.2 h1
  have b2 : (k == 2) = false := beq_eq_false_iff_ne.2 h2
  have b3 : (k == 3) = false := beq_eq_false_iff_ne.2 h3
  have b4 : (k == 4) = false := beq_eq_false_iff_ne.2 h4
  have b5 : (k == 5) = false := beq_eq_false_iff_ne.2 h5
  have b6 : (k == 6) = false := beq_eq_false_iff_ne.2 h6
  have b7 : (k == 7) = false := beq_eq_false_iff_ne.2 h7
  have b8 : (k == 8) = false := beq_eq_false_iff_ne.2 h8
  have b9 : (k == 9) = false := beq_eq_false_iff_ne.2 h9
  have b10 : (k == 10) = false := beq_eq_false_iff_ne.2 h10
  have b11 : (k == 11) = false := beq_eq_false_iff_ne.2 h11
  have b12 : (k == 12) = false := beq_eq_false_iff_ne.2 h12
  have b13 : (k == 13) = false := beq_eq_false_iff_ne.2 h13
  have b14 : (k == 14) = false := beq_eq_false_iff_ne.2 h14
  have b15 : (k == 15) = false := beq_eq_false_iff_ne.2 h15
  have b16 : (k == 16) = false := beq_eq_false_iff_ne.2 h16
  have b17 : (k == 17) = false := beq_eq_false_iff_ne.2 h17
  have b18 : (k == 18) = false := beq_eq_false_iff_ne.2 h18
  go_enter Try.func40, Try.ntmps40; go_wp2; refine bodyPost_ret (v := .agg #[.bool false, .bool false, .bool false, .bool false]) (by simp [results, Try.results40, go_sem]) rfl ⟨rfl, ?_⟩; first | exact (Below.refl _ _).alloc (Nat.le_refl _) _ | exact ((Below.refl _ _).alloc (Nat.le_refl _) _).alloc (by simp) _

end Go.Proofs.Ytchdmpipfmedaaa
