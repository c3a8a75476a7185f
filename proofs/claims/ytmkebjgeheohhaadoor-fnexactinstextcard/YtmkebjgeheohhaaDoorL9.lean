/-
  The model's 'l9Int': any number as text, the least one, too.
-/
import Derived.Test.YtmkebjgeheohhaaDoorLi0
namespace Go.Proofs.YtmkebjgeheohhaaDoor
open Go.RowKit
set_option linter.unusedVariables false
set_option linter.unusedSimpArgs false

theorem li_wide (n : Int) (h0 : -1000000 ≤ n) (h1 : n ≤ 9223372036854775807) (w : World) : Calls Tryd.prog 35 #[.int .i64 n] w fun e w' => e = .returned (.string ⟨(Lib.itoa n).toArray⟩) ∧ Below w.heap.size w w' := by
  by_cases hn : n < 0
  · obtain ⟨u, rfl⟩ : ∃ u : Nat, n = -(u : Int) := ⟨n.natAbs, by omega⟩
    rw [Lib.itoa_neg u (by omega)]
    exact li_neg u (by omega) (by omega) w
  · obtain ⟨u, rfl⟩ : ∃ u : Nat, n = (u : Int) := ⟨n.toNat, by omega⟩
    rw [Lib.itoa_nonneg]
    exact li_nat u (by omega) w

theorem l9_small (n : Int) (h0 : -10 < n) (h1 : n ≤ 9223372036854775807) (w : World) : Calls Tryd.prog 19 #[.int .i64 n] w fun e w' => e = .returned (.string ⟨(Lib.itoa n).toArray⟩) ∧ Below w.heap.size w w' := by
  go_enter Tryd.func19, Tryd.ntmps19
  go_wp2_with fail
  refine (li_wide n (by omega) h1 _).mono ?_
  rintro e w1 ⟨rfl, hb1⟩
  go_wp2_with fail
  go_ret
  exact ⟨rfl, hb1⟩

theorem l9_big (q r : Nat) (hr : r < 10) (hq : 1 ≤ q) (h6 : 10 * q + r ≤ 9223372036854775808) (u : Nat) (hu : u = 10 * q + r) (IH : ∀ w, Calls Tryd.prog 19 #[.int .i64 (-(q : Int))] w fun e w' => e = .returned (.string ⟨(Lib.itoa (-(q : Int))).toArray⟩) ∧ Below w.heap.size w w') (w : World) :
    Calls Tryd.prog 19 #[.int .i64 (-(u : Int))] w fun e w' => e = .returned (.string ⟨(Lib.itoa (-(u : Int))).toArray⟩) ∧ Below w.heap.size w w' := by
  have h10 : ¬ -10 < (-(u : Int)) := by omega
  have HD : Hid (Lib.itoa (-(u : Int)) = Lib.itoa (-(q : Int)) ++ Lib.itoa (r : Int)) := by
    show _ = _
    rw [Lib.itoa_neg u (by omega), Lib.itoa_neg q hq, Lib.itoa_nonneg, Lib.decDigits, dif_neg (by omega), show u / 10 = q by omega, show u % 10 = r by omega, Lib.decDigits_one hr]
    rfl
  have wq : wrap64 (-((u : Int) / 10)) = -(q : Int) := by
    rw [show (-((u : Int) / 10)) = -(q : Int) by omega]; unfold wrap64; omega
  have wr : (-(u : Int)).tmod 10 = -(r : Int) := by rw [Int.neg_tmod, Int.tmod_eq_emod_of_nonneg (by omega)]; omega
  have wr2 : IntKind.i64.wrap (r : Int) = (r : Int) := by rw [IntKind.wrap_i64]; omega
  have hln : ¬ 9223372036854775807 < (Lib.itoa (-(q : Int))).length + (Lib.itoa (r : Int)).length := by
    have h1 := Lib.itoa_length_le (-(q : Int)) (by omega) (by omega)
    have h2 := Lib.itoa_length_le (r : Int) (by omega) (by omega)
    omega
  have hr' : Hid (r < 10) := hr
  clear hu hq h6 hr
  go_enter Tryd.func19, Tryd.ntmps19
  go_wp2_with fail
  refine (IH _).mono ?_
  rintro e w1 ⟨rfl, hb1⟩
  go_wp2_with fail
  refine (li_wide (r : Int) (by omega) (by have := hr'.out; omega) _).mono ?_
  rintro e w2 ⟨rfl, hb2⟩
  go_wp2_with fail
  go_ret
  exact ⟨by rw [HD.out, ← str_add]; rfl, hb1.trans (hb2.mono hb1.size)⟩

theorem l9_neg (u : Nat) (h : u ≤ 9223372036854775808) (w : World) : Calls Tryd.prog 19 #[.int .i64 (-(u : Int))] w fun e w' => e = .returned (.string ⟨(Lib.itoa (-(u : Int))).toArray⟩) ∧ Below w.heap.size w w' := by
  induction u using Nat.strongRecOn generalizing w with
  | _ u ih =>
    by_cases hu : u < 10
    · exact l9_small _ (by omega) (by omega) w
    · exact l9_big (u / 10) (u % 10) (by omega) (by omega) (by omega) u (by omega) (fun W => ih (u / 10) (by omega) (by omega) W) w

theorem l9_any (n : Int) (h0 : -9223372036854775808 ≤ n) (h1 : n ≤ 9223372036854775807) (w : World) : Calls Tryd.prog 19 #[.int .i64 n] w fun e w' => e = .returned (.string ⟨(Lib.itoa n).toArray⟩) ∧ Below w.heap.size w w' := by
  by_cases hn : -10 < n
  · exact l9_small n hn h1 w
  · obtain ⟨u, rfl⟩ : ∃ u : Nat, n = -(u : Int) := ⟨n.natAbs, by omega⟩
    exact l9_neg u (by omega) w

end Go.Proofs.YtmkebjgeheohhaaDoor
