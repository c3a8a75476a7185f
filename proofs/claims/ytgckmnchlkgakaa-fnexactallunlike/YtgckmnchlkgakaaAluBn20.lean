/-
  The model's 'l6Own', 'l6Binders', 'Binders'. (Written by mkbn2.py.)
-/
import Derived.Test.YtgckmnchlkgakaaAluBw
import Derived.Test.YtgckmnchlkgakaaAluLf20
import Derived.Test.YtgckmnchlkgakaaAluLkM
namespace Go.Proofs.Ytgckmnchlkgakaa
open Go.RowKit
set_option linter.unusedVariables false
set_option linter.unusedSimpArgs false

set_option maxRecDepth 100000 in
set_option maxHeartbeats 2000000 in
theorem l6Own_any (t : Tm) (a1 : Option Addr) (l1 c1 : Nat) (a2 : Option Addr) (l2 c2 : Nat) (a3 : Option Addr) (l3 c3 : Nat) (N : List (List UInt8)) (hN : ownB t = N) (w : World) :
    Calls Try.prog 59 #[.agg #[.int .i64 t.K, .int .i64 t.N, .string t.S, .string t.Z, .int .i64 t.T.K, .int .i64 t.T.N, .slice a1 l1 c1, .slice a2 l2 c2, .slice a3 l3 c3]] w fun e w' => LitE w w' e N := by
  by_cases h4 : t.K = 4
  · obtain rfl : [bs t.S] = N := by rw [← hN]; simp [ownB, h4]
    clear hN
    go_enter Try.func59, Try.ntmps59
    go_wp2_with fail
    go_ret
    exact (lit_1 _ _ _)
  by_cases h6 : t.K = 6
  · obtain rfl : [bs t.S] = N := by rw [← hN]; simp [ownB, h6]
    clear hN
    go_enter Try.func59, Try.ntmps59
    go_wp2_with fail
    go_ret
    exact (lit_1 _ _ _)
  by_cases h7 : t.K = 7
  · obtain rfl : [bs t.S] = N := by rw [← hN]; simp [ownB, h7]
    clear hN
    go_enter Try.func59, Try.ntmps59
    go_wp2_with fail
    go_ret
    exact (lit_1 _ _ _)
  by_cases h17 : t.K = 17
  · obtain rfl : [bs t.S] = N := by rw [← hN]; simp [ownB, h17]
    clear hN
    go_enter Try.func59, Try.ntmps59
    go_wp2_with fail
    go_ret
    exact (lit_1 _ _ _)
  by_cases h14 : t.K = 14
  · obtain rfl : [bs t.S, bs t.Z] = N := by rw [← hN]; simp [ownB, h14]
    clear hN
    go_enter Try.func59, Try.ntmps59
    go_wp2_with fail
    go_ret
    exact (lit_2 _ _ _ _)
  obtain rfl : [] = N := by rw [← hN]; simp [ownB, h4, h7, h6, h17, h14]
  clear hN
  have b4 : (t.K == 4) = false := by simp [h4]
  have b7 : (t.K == 7) = false := by simp [h7]
  have b6 : (t.K == 6) = false := by simp [h6]
  have b17 : (t.K == 17) = false := by simp [h17]
  have b14 : (t.K == 14) = false := by simp [h14]
  clear h4 h7 h6 h17 h14
  go_enter Try.func59, Try.ntmps59
  go_wp2_with fail
  go_ret
  exact (lit_0 _ _)

end Go.Proofs.Ytgckmnchlkgakaa
