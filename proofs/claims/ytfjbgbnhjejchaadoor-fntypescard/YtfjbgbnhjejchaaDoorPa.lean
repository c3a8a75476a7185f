/-
  Types out of tokens, in plain words; what the program's 'tyOfToken' comes to.
-/
import Derived.Test.YtfjbgbnhjejchaaDoorSpt
import Derived.Test.YtfjbgbnhjejchaaDoorNw
namespace Go.Proofs.YtfjbgbnhjejchaaDoor
open Go.RowKit
set_option linter.unusedVariables false
set_option linter.unusedSimpArgs false

/-- The kind and the number that a token names. -/
def tokTy (l : List UInt8) : Option (Int × Int) :=
  if l = [105] then some (1, 0) else if l = [98] then some (2, 0) else if l = [118, 48] then some (3, 0) else if l = [118, 49] then some (3, 1) else if l = [102] then some (4, 0) else if l = [112] then some (5, 0) else if l = [108] then some (6, 0) else none

def prsN (f : List (List UInt8) → Option (Tr × Nat)) : Nat → List (List UInt8) → Option (List Tr × Nat)
  | 0, _ => some ([], 0)
  | m + 1, T => match f T with
    | none => none
    | some (t, u) => match prsN f m (T.drop u) with
      | none => none
      | some (ts, u2) => some (t :: ts, u + u2)

/-- The type that the tokens begin with, and how many it takes. -/
def prs : Nat → List (List UInt8) → Option (Tr × Nat)
  | 0, _ => none
  | _ + 1, [] => none
  | l + 1, t :: T => match tokTy t with
    | none => none
    | some (k, n) => match prsN (prs l) (parts k).toNat T with
      | none => none
      | some (ps, u) => some (⟨k, n, ps⟩, u + 1)

set_option maxRecDepth 100000 in
set_option maxHeartbeats 2000000 in
theorem tyOfToken_any (l : List UInt8) (w : World) :
    Calls Tryd.prog 44 #[tk l] w fun e w' => e = .returned (.tuple #[.agg #[.int .i64 ((tokTy l).getD (0, 0)).1, .int .i64 ((tokTy l).getD (0, 0)).2, .slice none 0 0], .bool (tokTy l).isSome]) ∧ Below w.heap.size w w' := by
  unfold tk
  by_cases h1 : l = [105]
  · subst h1
    go_enter Tryd.func44, Tryd.ntmps44
    go_wp2
    refine bodyPost_ret (v := .tuple #[.agg #[.int .i64 1, .int .i64 0, .slice none 0 0], .bool true]) (by simp [results, Tryd.results44, go_sem]) rfl ⟨rfl, ?_⟩
    exact (Below.refl _ _).alloc (Nat.le_refl _) _
  by_cases h2 : l = [98]
  · subst h2
    go_enter Tryd.func44, Tryd.ntmps44
    go_wp2
    refine bodyPost_ret (v := .tuple #[.agg #[.int .i64 2, .int .i64 0, .slice none 0 0], .bool true]) (by simp [results, Tryd.results44, go_sem]) rfl ⟨rfl, ?_⟩
    exact (Below.refl _ _).alloc (Nat.le_refl _) _
  by_cases h3 : l = [118, 48]
  · subst h3
    go_enter Tryd.func44, Tryd.ntmps44
    go_wp2
    refine bodyPost_ret (v := .tuple #[.agg #[.int .i64 3, .int .i64 0, .slice none 0 0], .bool true]) (by simp [results, Tryd.results44, go_sem]) rfl ⟨rfl, ?_⟩
    exact (Below.refl _ _).alloc (Nat.le_refl _) _
  by_cases h4 : l = [118, 49]
  · subst h4
    go_enter Tryd.func44, Tryd.ntmps44
    go_wp2
    refine bodyPost_ret (v := .tuple #[.agg #[.int .i64 3, .int .i64 1, .slice none 0 0], .bool true]) (by simp [results, Tryd.results44, go_sem]) rfl ⟨rfl, ?_⟩
    exact (Below.refl _ _).alloc (Nat.le_refl _) _
  by_cases h5 : l = [102]
  · subst h5
    go_enter Tryd.func44, Tryd.ntmps44
    go_wp2
    refine bodyPost_ret (v := .tuple #[.agg #[.int .i64 4, .int .i64 0, .slice none 0 0], .bool true]) (by simp [results, Tryd.results44, go_sem]) rfl ⟨rfl, ?_⟩
    exact (Below.refl _ _).alloc (Nat.le_refl _) _
  by_cases h6 : l = [112]
  · subst h6
    go_enter Tryd.func44, Tryd.ntmps44
    go_wp2
    refine bodyPost_ret (v := .tuple #[.agg #[.int .i64 5, .int .i64 0, .slice none 0 0], .bool true]) (by simp [results, Tryd.results44, go_sem]) rfl ⟨rfl, ?_⟩
    exact (Below.refl _ _).alloc (Nat.le_refl _) _
  by_cases h7 : l = [108]
  · subst h7
    go_enter Tryd.func44, Tryd.ntmps44
    go_wp2
    refine bodyPost_ret (v := .tuple #[.agg #[.int .i64 6, .int .i64 0, .slice none 0 0], .bool true]) (by simp [results, Tryd.results44, go_sem]) rfl ⟨rfl, ?_⟩
    exact (Below.refl _ _).alloc (Nat.le_refl _) _
  have b1 : (l == [105]) = false := by rw [beq_eq_false_iff_ne]; exact h1
  have b2 : (l == [98]) = false := by rw [beq_eq_false_iff_ne]; exact h2
  have b3 : (l == [118, 48]) = false := by rw [beq_eq_false_iff_ne]; exact h3
  have b4 : (l == [118, 49]) = false := by rw [beq_eq_false_iff_ne]; exact h4
  have b5 : (l == [102]) = false := by rw [beq_eq_false_iff_ne]; exact h5
  have b6 : (l == [112]) = false := by rw [beq_eq_false_iff_ne]; exact h6
  have b7 : (l == [108]) = false := by rw [beq_eq_false_iff_ne]; exact h7
  have HT : Hid (tokTy l = none) := by show _ = _; simp [tokTy, h1, h2, h3, h4, h5, h6, h7]
  clear h1 h2 h3 h4 h5 h6 h7
  go_enter Tryd.func44, Tryd.ntmps44
  go_wp2
  rw [HT.out]
  refine bodyPost_ret (v := .tuple #[.agg #[.int .i64 0, .int .i64 0, .slice none 0 0], .bool false]) (by simp [results, Tryd.results44, go_sem]) rfl ⟨rfl, ?_⟩
  exact (Below.refl _ _).alloc (Nat.le_refl _) _

end Go.Proofs.YtfjbgbnhjejchaaDoor
