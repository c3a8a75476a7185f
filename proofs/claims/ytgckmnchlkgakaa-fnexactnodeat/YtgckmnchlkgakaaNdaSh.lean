/-
  What the program's 'shapeOf' comes to.
-/
import Derived.Test.YtgckmnchlkgakaaNdaTn
namespace Go.Proofs.Ytgckmnchlkgakaa
open Go.RowKit Go.PlainAid
set_option linter.unusedVariables false
set_option linter.unusedSimpArgs false

set_option maxHeartbeats 1000000 in
theorem shapeOf_any (k : Int) (w : World) : Calls Try.prog 97 #[.int .i64 k] w fun e w' => e = .returned (.tuple #[.agg #[.int .i64 (shN k), .int .i64 (shL k), .int .i64 (shM k), .bool (shT k), .int .i64 (shS k), .int .i64 (shP k)], .bool (kOk k)]) ∧ Below w.heap.size w w' := by
  by_cases h1 : k = 1
  · subst h1; go_enter Try.func97, Try.ntmps97; go_wp2; refine bodyPost_ret (v := .tuple #[.agg #[.int .i64 0, .int .i64 (-1000000), .int .i64 1000000, .bool false, .int .i64 0, .int .i64 0], .bool true]) (by simp [results, Try.results97, go_sem]) rfl ⟨rfl, ?_⟩; exact (Below.refl _ _).alloc (Nat.le_refl _) _
  by_cases h2 : k = 2
  · subst h2; go_enter Try.func97, Try.ntmps97; go_wp2; refine bodyPost_ret (v := .tuple #[.agg #[.int .i64 0, .int .i64 (0), .int .i64 1, .bool false, .int .i64 0, .int .i64 0], .bool true]) (by simp [results, Try.results97, go_sem]) rfl ⟨rfl, ?_⟩; exact (Below.refl _ _).alloc (Nat.le_refl _) _
  by_cases h3 : k = 3
  · subst h3; go_enter Try.func97, Try.ntmps97; go_wp2; refine bodyPost_ret (v := .tuple #[.agg #[.int .i64 1, .int .i64 (0), .int .i64 0, .bool false, .int .i64 2, .int .i64 0], .bool true]) (by simp [results, Try.results97, go_sem]) rfl ⟨rfl, ?_⟩; exact (Below.refl _ _).alloc (Nat.le_refl _) _
  by_cases h4 : k = 4
  · subst h4; go_enter Try.func97, Try.ntmps97; go_wp2; refine bodyPost_ret (v := .tuple #[.agg #[.int .i64 1, .int .i64 (0), .int .i64 0, .bool true, .int .i64 0, .int .i64 1], .bool true]) (by simp [results, Try.results97, go_sem]) rfl ⟨rfl, ?_⟩; exact (Below.refl _ _).alloc (Nat.le_refl _) _
  by_cases h5 : k = 5
  · subst h5; go_enter Try.func97, Try.ntmps97; go_wp2; refine bodyPost_ret (v := .tuple #[.agg #[.int .i64 0, .int .i64 (0), .int .i64 0, .bool false, .int .i64 0, .int .i64 2], .bool true]) (by simp [results, Try.results97, go_sem]) rfl ⟨rfl, ?_⟩; exact (Below.refl _ _).alloc (Nat.le_refl _) _
  by_cases h6 : k = 6
  · subst h6; go_enter Try.func97, Try.ntmps97; go_wp2; refine bodyPost_ret (v := .tuple #[.agg #[.int .i64 1, .int .i64 (0), .int .i64 2, .bool false, .int .i64 0, .int .i64 2], .bool true]) (by simp [results, Try.results97, go_sem]) rfl ⟨rfl, ?_⟩; exact (Below.refl _ _).alloc (Nat.le_refl _) _
  by_cases h7 : k = 7
  · subst h7; go_enter Try.func97, Try.ntmps97; go_wp2; refine bodyPost_ret (v := .tuple #[.agg #[.int .i64 1, .int .i64 (0), .int .i64 2, .bool true, .int .i64 0, .int .i64 2], .bool true]) (by simp [results, Try.results97, go_sem]) rfl ⟨rfl, ?_⟩; exact (Below.refl _ _).alloc (Nat.le_refl _) _
  by_cases h8 : k = 8
  · subst h8; go_enter Try.func97, Try.ntmps97; go_wp2; refine bodyPost_ret (v := .tuple #[.agg #[.int .i64 0, .int .i64 (0), .int .i64 0, .bool false, .int .i64 0, .int .i64 3], .bool true]) (by simp [results, Try.results97, go_sem]) rfl ⟨rfl, ?_⟩; exact (Below.refl _ _).alloc (Nat.le_refl _) _
  by_cases h9 : k = 9
  · subst h9; go_enter Try.func97, Try.ntmps97; go_wp2; refine bodyPost_ret (v := .tuple #[.agg #[.int .i64 0, .int .i64 (0), .int .i64 0, .bool false, .int .i64 0, .int .i64 2], .bool true]) (by simp [results, Try.results97, go_sem]) rfl ⟨rfl, ?_⟩; exact (Below.refl _ _).alloc (Nat.le_refl _) _
  by_cases h10 : k = 10
  · subst h10; go_enter Try.func97, Try.ntmps97; go_wp2; refine bodyPost_ret (v := .tuple #[.agg #[.int .i64 0, .int .i64 (0), .int .i64 0, .bool false, .int .i64 0, .int .i64 1], .bool true]) (by simp [results, Try.results97, go_sem]) rfl ⟨rfl, ?_⟩; exact (Below.refl _ _).alloc (Nat.le_refl _) _
  by_cases h11 : k = 11
  · subst h11; go_enter Try.func97, Try.ntmps97; go_wp2; refine bodyPost_ret (v := .tuple #[.agg #[.int .i64 0, .int .i64 (0), .int .i64 0, .bool false, .int .i64 0, .int .i64 1], .bool true]) (by simp [results, Try.results97, go_sem]) rfl ⟨rfl, ?_⟩; exact (Below.refl _ _).alloc (Nat.le_refl _) _
  by_cases h12 : k = 12
  · subst h12; go_enter Try.func97, Try.ntmps97; go_wp2; refine bodyPost_ret (v := .tuple #[.agg #[.int .i64 0, .int .i64 (0), .int .i64 0, .bool true, .int .i64 0, .int .i64 0], .bool true]) (by simp [results, Try.results97, go_sem]) rfl ⟨rfl, ?_⟩; exact (Below.refl _ _).alloc (Nat.le_refl _) _
  by_cases h13 : k = 13
  · subst h13; go_enter Try.func97, Try.ntmps97; go_wp2; refine bodyPost_ret (v := .tuple #[.agg #[.int .i64 0, .int .i64 (0), .int .i64 0, .bool false, .int .i64 0, .int .i64 2], .bool true]) (by simp [results, Try.results97, go_sem]) rfl ⟨rfl, ?_⟩; exact (Below.refl _ _).alloc (Nat.le_refl _) _
  by_cases h14 : k = 14
  · subst h14; go_enter Try.func97, Try.ntmps97; go_wp2; refine bodyPost_ret (v := .tuple #[.agg #[.int .i64 2, .int .i64 (0), .int .i64 0, .bool false, .int .i64 0, .int .i64 3], .bool true]) (by simp [results, Try.results97, go_sem]) rfl ⟨rfl, ?_⟩; exact (Below.refl _ _).alloc (Nat.le_refl _) _
  by_cases h15 : k = 15
  · subst h15; go_enter Try.func97, Try.ntmps97; go_wp2; refine bodyPost_ret (v := .tuple #[.agg #[.int .i64 0, .int .i64 (1), .int .i64 5, .bool false, .int .i64 0, .int .i64 2], .bool true]) (by simp [results, Try.results97, go_sem]) rfl ⟨rfl, ?_⟩; exact (Below.refl _ _).alloc (Nat.le_refl _) _
  by_cases h16 : k = 16
  · subst h16; go_enter Try.func97, Try.ntmps97; go_wp2; refine bodyPost_ret (v := .tuple #[.agg #[.int .i64 0, .int .i64 (0), .int .i64 0, .bool true, .int .i64 0, .int .i64 1], .bool true]) (by simp [results, Try.results97, go_sem]) rfl ⟨rfl, ?_⟩; exact (Below.refl _ _).alloc (Nat.le_refl _) _
  by_cases h17 : k = 17
  · subst h17; go_enter Try.func97, Try.ntmps97; go_wp2; refine bodyPost_ret (v := .tuple #[.agg #[.int .i64 1, .int .i64 (0), .int .i64 0, .bool false, .int .i64 0, .int .i64 2], .bool true]) (by simp [results, Try.results97, go_sem]) rfl ⟨rfl, ?_⟩; exact (Below.refl _ _).alloc (Nat.le_refl _) _
  have e1 : shN k = 0 := by unfold shN; simp [h3, h4, h6, h7, h17, h14]
  have e2 : shL k = 0 := by unfold shL; simp [h1, h15]
  have e3 : shM k = 0 := by unfold shM; simp [h1, h2, h6, h7, h15]
  have e4 : shT k = false := by unfold shT; simp [h4, h7, h12, h16]
  have e5 : shS k = 0 := by unfold shS; simp [h3]
  have e6 : shP k = 0 := by unfold shP; simp [h4, h10, h11, h16, h5, h6, h7, h9, h13, h15, h17, h8, h14]
  have e7 : kOk k = false := by unfold kOk; simp; omega
  rw [e1, e2, e3, e4, e5, e6, e7]
  have b1 : (k == 1) = false := beq_eq_false_iff_ne.2 h1
  have b2 : (k == 2) = false := beq_eq_false_iff_ne.2 h2
  have b3 : (k == 3) = false := beq_eq_false_iff_ne.2 h3
  have b4 : (k == 4) = false := beq_eq_false_iff_ne.2 h4
  have b5 : (k == 5) = false := beq_eq_false_iff_ne.2 h5
  have b6 : (k == 6) = false := beq_eq_false_iff_ne.2 h6
  have b7 : (k == 7) = false := beq_eq_false_iff_ne.2 h7
  have b8 : (k == 8) = false := beq_eq_false_iff_ne.2 h8
  have b9 : (k == 9) = false := beq_eq_false_iff_ne.2 h9
  have b10 : (k == 10) = false := beq_eq_false_iff_ne.2 h10
  have b11 : (k == 11) = false := beq_eq_false_iff_ne.2 h11
  have b12 : (k == 12) = false := beq_eq_false_iff_ne.2 h12
  have b13 : (k == 13) = false := beq_eq_false_iff_ne.2 h13
  have b14 : (k == 14) = false := beq_eq_false_iff_ne.2 h14
  have b15 : (k == 15) = false := beq_eq_false_iff_ne.2 h15
  have b16 : (k == 16) = false := beq_eq_false_iff_ne.2 h16
  have b17 : (k == 17) = false := beq_eq_false_iff_ne.2 h17
  clear e1 e2 e3 e4 e5 e6 e7 h1 h2 h3 h4 h5 h6 h7 h8 h9 h10 h11 h12 h13 h14 h15 h16 h17
  go_enter Try.func97, Try.ntmps97; go_wp2; refine bodyPost_ret (v := .tuple #[.agg #[.int .i64 0, .int .i64 0, .int .i64 0, .bool false, .int .i64 0, .int .i64 0], .bool false]) (by simp [results, Try.results97, go_sem]) rfl ⟨rfl, ?_⟩; exact (Below.refl _ _).alloc (Nat.le_refl _) _

end Go.Proofs.Ytgckmnchlkgakaa
