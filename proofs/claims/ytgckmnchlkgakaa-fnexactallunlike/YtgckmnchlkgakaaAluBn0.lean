/-
  'namesIn', 'namesBy' of the program: the names that a term binds. (Written by mkbn1.py.)
-/
import Derived.Test.YtgckmnchlkgakaaAluBn00
import Derived.Test.YtgckmnchlkgakaaAluBw
import Derived.Test.YtgckmnchlkgakaaAluLf10
namespace Go.Proofs.Ytgckmnchlkgakaa
open Go.RowKit
set_option linter.unusedVariables false
set_option linter.unusedSimpArgs false

set_option maxRecDepth 100000 in
set_option maxHeartbeats 400000 in
theorem namesBy_any (t : Tm) (hn : nodeM t = true) (a1 : Option Addr) (l1 c1 : Nat) (a2 : Option Addr) (l2 c2 : Nat) (a3 : Option Addr) (l3 c3 : Nat) (hl : l3 = t.A.length) (N : List (List UInt8)) (hN : ownB t = N) (w : World) :
    Calls Try.prog 37 #[.agg #[.int .i64 t.K, .int .i64 t.N, .string t.S, .string t.Z, .int .i64 t.T.K, .int .i64 t.T.N, .slice a1 l1 c1, .slice a2 l2 c2, .slice a3 l3 c3]] w fun e w' => NmE w w' e N := by
  have hl3 : l3 ≤ 3 := by have := nodeM_len hn; omega
  have HN : Hid (nmI t.K (bs t.S) (bs t.Z) ((l3 : Int) - 1) = N) := by show _ = _; rw [hl, nmI_own hn, hN]
  clear hN hl
  go_enter Try.func37, Try.ntmps37
  go_wp2_with fail
  refine (namesIn_any t _ _ _ _ _ _ _ _ _ _ _).mono ?_
  rintro e w1 ⟨xo, c, rfl, hb, hx⟩
  rw [HN.out] at hx ⊢
  go_wp2_with fail
  go_ret
  refine ⟨xo, c, rfl, ((Below.refl _ _).alloc (Nat.le_refl _) _).trans (hb.mono (by simp)), fun h => ?_⟩
  obtain ⟨sb, h1, h2, h3⟩ := hx h
  exact ⟨sb, h1, by simp at h2; omega, h3⟩

end Go.Proofs.Ytgckmnchlkgakaa
