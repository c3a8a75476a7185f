/-
  The model's 'l6All', 'l6Lambdas', 'Lambdas'.
-/
import Derived.Test.YtgckmnchlkgakaaLmbLm21
import Derived.Test.YtgckmnchlkgakaaLmbLm0
import Derived.Test.YtgckmnchlkgakaaLmbTro
import Derived.Test.YtgckmnchlkgakaaLmbLf00
import Derived.Test.YtgckmnchlkgakaaLmbGa00
import Derived.Test.YtgckmnchlkgakaaLmbFo0
import Derived.Deep.RegionHeld3
import Derived.Deep.RegionLaw
import Derived.Sort.AtCall
import Derived.LoopN
import Derived.Test.YtgckmnchlkgakaaLmbLkM
namespace Go.Proofs.Ytgckmnchlkgakaa
open Go.RowKit
set_option linter.unusedVariables false
set_option linter.unusedSimpArgs false

set_option maxRecDepth 100000 in
set_option maxHeartbeats 1000000 in
theorem sLambdas_any (D d L B : Nat) (t : Tm) (a1 : Option Addr) (l1 c1 : Nat) (a2 : Option Addr) (l2 c2 : Nat) (a3 : Option Addr) (l3 c3 : Nat) (w : World) (hB : B ≤ w.heap.size) (hf : Fm L B w D d t a1 l1 a2 l2 a3 l3) :
    Calls Try.prog 19 #[.agg #[.int .i64 t.K, .int .i64 t.N, .string t.S, .string t.Z, .int .i64 t.T.K, .int .i64 t.T.N, .slice a1 l1 c1, .slice a2 l2 c2, .slice a3 l3 c3]] w fun e w' => e = .returned (.int .i64 ((lamT t).length : Int)) ∧ Below w.heap.size w w' := by
  have hbel : Below w.heap.size w (w.alloc (.cells #[.int .i64 t.K, .int .i64 t.N, .string t.S, .string t.Z, .int .i64 t.T.K, .int .i64 t.T.N, .slice a1 l1 c1, .slice a2 l2 c2, .slice a3 l3 c3] 36)) := (Below.refl _ _).alloc (Nat.le_refl _) _
  have hf1 := Fm.below hbel hB hf
  have hll := lamT_len t
  go_enter Try.func19, Try.ntmps19
  go_wp2_with fail
  refine (l6Lambdas_any D d L B t _ _ _ _ _ _ _ _ _ _ (by simp; omega) hf1).mono ?_
  rintro e w1 ⟨v, rfl, hb1, hT⟩
  obtain ⟨ao, cp, rfl⟩ := trow_form hT
  go_wp2_with fail
  go_ret
  exact ⟨rfl, hbel.trans (hb1.mono (by simp))⟩

end Go.Proofs.Ytgckmnchlkgakaa
