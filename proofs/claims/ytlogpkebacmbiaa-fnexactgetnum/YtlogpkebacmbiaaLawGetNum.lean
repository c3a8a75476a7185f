/-
  The law FnExactGetNum's walk: whatever bytes lie in memory and whatever the place, true.
-/
import Derived.Test.YtlogpkebacmbiaaYs2
import Derived.Test.YtlogpkebacmbiaaLawPutNum
namespace Go.Proofs.Ytlogpkebacmbiaa
open Go.RowKit
set_option linter.unusedVariables false
set_option linter.unusedSimpArgs false

set_option maxRecDepth 100000 in
set_option maxHeartbeats 1000000 in
theorem law_getNum (L B : Nat) (ao : Option Addr) (len cap : Nat) (l : List Int) (n : Int) (w : World) (hB : B ≤ w.heap.size) (hs : Bs L B w ao len l) (h1 : -9223372036854775808 ≤ n) (h2 : n ≤ 9223372036854775807) (hok : ∀ x ∈ l, 0 ≤ x ∧ x ≤ 255) :
    Calls Try.prog 4 #[.slice ao len cap, .int .i64 n] w fun e w' => e = .returned (.bool true) ∧ Below w.heap.size w w' := by
  have hmx := hs.2.1
  by_cases hc : len ≤ 1048576
  · have hL1 : l.length = len := hs.1.symm
    obtain ⟨r1, r2, r3, hr⟩ : ∃ r1 r2 r3, getN (grpAt l n) n = (r1, r2, r3) := ⟨_, _, _, rfl⟩
    have HR : Hid (getV (getN (grpAt l n) n) = .tuple #[.int .i64 r1, .int .i64 r2, .bool r3]) := by show _ = _; rw [hr]; rfl
    clear hr
    go_enter Try.func4, Try.ntmps4
    go_wp2_with fail
    refine (toByteS_own L B ao len cap l w hB hs hc).mono ?_
    rintro e w1 ⟨g1, rfl, hb1, hO1⟩
    have hz1 := hb1.size
    go_wp2_with fail
    refine (sGetNum_any _ len len l n w1 (Nat.le_refl _) (byts_bs hO1 (by omega)) hok (by omega) h1 h2).mono ?_
    rintro e w1' ⟨rfl, hw⟩
    subst hw
    rw [HR.out]
    clear hO1
    go_wp2_with fail
    refine (toByteS_own L B ao len cap l w1' (by omega) (hs.below hb1 hB) hc).mono ?_
    rintro e w3 ⟨g3, rfl, hb3, hO3⟩
    have hz3 := hb3.size
    have hb3w : Below w.heap.size w w3 := hb1.trans (hb3.mono (by omega))
    go_wp2_with fail
    refine (getNum_any _ len len l n w3 (Nat.le_refl _) (byts_bs hO3 (by omega)) hok (by omega) (Nat.le_refl _) h1 h2).mono ?_
    rintro e w3' ⟨rfl, hw⟩
    subst hw
    rw [HR.out]
    cases r3
    all_goals
      go_wp2_with fail
      refine (toByteS_own L B ao len cap l w3' (by omega) (hs.below hb3w hB) hc).mono ?_
      rintro e w4 ⟨g4, rfl, hb4, hO4⟩
      have hz4 := hb4.size
      have hO34 := byts_bel hO3 hb4
      have hb4w : Below w.heap.size w w4 := hb3w.trans (hb4.mono (by omega))
      go_wp2_with fail
      refine (eqSameB _ w4 hO34 hO4 (by omega)).mono ?_
      rintro e w5 ⟨rfl, hb5⟩
      go_wp2_with fail
      go_ret
      exact ⟨rfl, hb4w.trans (hb5.mono (by omega))⟩
  · go_enter Try.func4, Try.ntmps4
    go_wp2_with fail
    go_ret
    exact ⟨rfl, Below.refl _ _⟩

end Go.Proofs.Ytlogpkebacmbiaa
