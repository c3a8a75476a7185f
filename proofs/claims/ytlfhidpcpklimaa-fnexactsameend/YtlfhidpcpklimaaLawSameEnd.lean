/-
  The law of 'SameEnd', walked: both sides compare three fields and ask for one number.
-/
import Derived.Test.YtlfhidpcpklimaaRows
import Derived.WalkKit
import Derived.WalkSpells
import Derived.WalkLawsBesides
import Derived.PlainAid
import Derived.Deep.RegionHeld3
import Derived.Sort.AtCall
namespace Go.Proofs.Ytlfhidpcpklimaa
open Go.RowKit
set_option linter.unusedVariables false
set_option linter.unusedSimpArgs false

/-- Two ends are the same, or one of them is 3. -/
def sameE (e n : Int) (s : ByteArray) (e' n' : Int) (s' : ByteArray) : Bool := (decide (e = e') && decide (n = n') && decide (s.toList = s'.toList)) || decide (e = 3) || decide (e' = 3)

theorem ret_bool' {a b : Bool} (h : a = b) : Ending.returned (.bool a) = .returned (.bool b) := by rw [h]

theorem szOutcome_any (e n : Int) (s : ByteArray) (left : Int) (w : World) : Calls Try.prog 4 #[.agg #[.int .i64 e, .int .i64 n, .string s], .int .i64 left] w fun r w' => (∃ k, r = .returned (.int .i64 k)) ∧ Below w.heap.size w w' := by
  go_enter Try.func4, Try.ntmps4
  go_wp2_with fail
  all_goals go_ret
  all_goals exact ⟨⟨_, rfl⟩, (Below.refl _ _).alloc (Nat.le_refl _) _⟩

theorem toOutcome_any (e n : Int) (s : ByteArray) (w : World) : Calls Try.prog 6 #[.agg #[.int .i64 e, .int .i64 n, .string s]] w fun r w' => r = .returned (.agg #[.int .i64 e, .int .i64 n, .string s]) ∧ Below w.heap.size w w' := by
  go_enter Try.func6, Try.ntmps6
  go_wp2_with fail
  refine bodyPost_ret (v := .agg #[.int .i64 e, .int .i64 n, .string s]) (by simp [results, Try.results6, go_sem]) rfl ?_
  exact ⟨rfl, (((Below.refl _ _).alloc (Nat.le_refl _) _).alloc (by simp) _).alloc (by simp; omega) _⟩

theorem sSameEnd_any (e n : Int) (s : ByteArray) (e' n' : Int) (s' : ByteArray) (w : World) : Calls Try.prog 5 #[.agg #[.int .i64 e, .int .i64 n, .string s], .agg #[.int .i64 e', .int .i64 n', .string s']] w fun r w' => r = .returned (.bool (sameE e n s e' n' s')) ∧ Below w.heap.size w w' := by
  go_enter Try.func5, Try.ntmps5
  go_wp2_with fail
  all_goals go_ret
  all_goals exact ⟨ret_bool' (by rw [Bool.eq_iff_iff]; simp_all [sameE]), ((Below.refl _ _).alloc (Nat.le_refl _) _).alloc (by simp) _⟩

theorem iSameEnd_any (e n : Int) (s : ByteArray) (e' n' : Int) (s' : ByteArray) (w : World) : Calls Try.prog 7 #[.agg #[.int .i64 e, .int .i64 n, .string s], .agg #[.int .i64 e', .int .i64 n', .string s']] w fun r w' => r = .returned (.bool (sameE e n s e' n' s')) ∧ Below w.heap.size w w' := by
  go_enter Try.func7, Try.ntmps7
  go_wp2_with fail
  all_goals go_ret
  all_goals exact ⟨ret_bool' (by rw [Bool.eq_iff_iff]; simp_all [sameE]), ((Below.refl _ _).alloc (Nat.le_refl _) _).alloc (by simp) _⟩

theorem three_cells {w : World} {b : Nat} {a0 a1 a2 : Value} {t : TypeId} {fr : Nat × Nat} (h : w.heap[b]? = some (.cells #[a0, a1, a2] t fr)) : w.cell? ⟨b, 0, none⟩ = some a0 ∧ w.cell? ⟨b, 1, none⟩ = some a1 ∧ w.cell? ⟨b, 2, none⟩ = some a2 :=
  ⟨by simp [World.cell?, h], by simp [World.cell?, h], by simp [World.cell?, h]⟩
theorem cell_kept {W w1 : World} {b : Nat} (hb : Below W.heap.size W w1) (h : b < W.heap.size) (o : Nat) : w1.cell? ⟨b, o, none⟩ = W.cell? ⟨b, o, none⟩ := hb.cell (p := ⟨b, o, none⟩) h
theorem heap_fresh {w : World} {o : Obj} {n : Nat} (h : n = w.heap.size) : (w.alloc o).heap[n]? = some o := by subst h; exact heap_alloc_new w o

set_option maxHeartbeats 1000000 in
theorem law_sameEnd (e n : Int) (s : ByteArray) (e' n' : Int) (s' : ByteArray) (w : World) : Calls Try.prog 3 #[.agg #[.int .i64 e, .int .i64 n, .string s], .agg #[.int .i64 e', .int .i64 n', .string s']] w fun r w' => r = .returned (.bool true) ∧ Below w.heap.size w w' := by
  obtain ⟨X, hX⟩ : ∃ X, X = ((w.alloc (.cells #[.int .i64 e, .int .i64 n, .string s] 23)).alloc (.cells #[.int .i64 e', .int .i64 n', .string s'] 23)) := ⟨_, rfl⟩
  have hXb : Below w.heap.size w X := by rw [hX]; exact ((Below.refl _ _).alloc (Nat.le_refl _) _).alloc (by simp) _
  have hXs : X.heap.size = w.heap.size + 2 := by rw [hX]; simp
  have hX0 : X.heap[w.heap.size]? = some (.cells #[.int .i64 e, .int .i64 n, .string s] 23 (0, 0)) := by rw [hX, Below.heap_alloc _ _ _ (by simp)]; exact heap_fresh rfl
  have hX1 : X.heap[w.heap.size + 1]? = some (.cells #[.int .i64 e', .int .i64 n', .string s'] 23 (0, 0)) := by rw [hX]; exact heap_fresh (by simp)
  have HX : Hid (X = _) := hX
  clear hX
  go_enter Try.func3, Try.ntmps3
  go_wp2_with (go_at_call 4; fail)
  rw [← HX.out]
  refine (szOutcome_any _ _ _ _ _).mono ?_
  rintro r w1 ⟨⟨j, rfl⟩, hb1⟩
  have hz1 := hb1.size
  have hbw1 : Below w.heap.size w w1 := hXb.trans (hb1.mono (by omega))
  have y0 := (hb1.block _ (by omega)).trans hX0
  have y1 := (hb1.block _ (by omega)).trans hX1
  by_cases hj : j < 0
  · go_wp2_with fail
    go_ret
    exact ⟨rfl, hbw1⟩
  obtain ⟨f0, f1, f2⟩ := three_cells y0
  obtain ⟨g0, g1, g2⟩ := three_cells y1
  go_wp2_with fail
  refine (szOutcome_any _ _ _ _ _).mono ?_
  rintro r w2 ⟨⟨j2, rfl⟩, hb2⟩
  have hz2 := hb2.size
  have hbw2 : Below w.heap.size w w2 := hbw1.trans (hb2.mono (by omega))
  by_cases hj2 : j2 < 0
  · go_wp2_with fail
    go_ret
    exact ⟨rfl, hbw2⟩
  have hl2 : w.heap.size < w2.heap.size := by omega
  have hl2' : w.heap.size + 1 < w2.heap.size := by omega
  replace y0 := (hb2.block _ (by omega)).trans y0
  replace y1 := (hb2.block _ (by omega)).trans y1
  clear f0 f1 f2 g0 g1 g2 hX0 hX1
  obtain ⟨f0, f1, f2⟩ := three_cells y0
  obtain ⟨g0, g1, g2⟩ := three_cells y1
  have SK : ∀ W : World, Below w2.heap.size w2 W → W.cell? ⟨w.heap.size, 0, none⟩ = some (.int .i64 e) ∧ W.cell? ⟨w.heap.size, 1, none⟩ = some (.int .i64 n) ∧ W.cell? ⟨w.heap.size, 2, none⟩ = some (.string s) ∧ W.cell? ⟨w.heap.size + 1, 0, none⟩ = some (.int .i64 e') ∧ W.cell? ⟨w.heap.size + 1, 1, none⟩ = some (.int .i64 n') ∧ W.cell? ⟨w.heap.size + 1, 2, none⟩ = some (.string s') :=
    fun W hW => ⟨(cell_kept hW hl2 0).trans f0, (cell_kept hW hl2 1).trans f1, (cell_kept hW hl2 2).trans f2, (cell_kept hW hl2' 0).trans g0, (cell_kept hW hl2' 1).trans g1, (cell_kept hW hl2' 2).trans g2⟩
  have SKH : Hid (∀ W : World, _) := SK
  clear SK
  go_wp2_with fail
  go_region_held3 (fun W => W.cell? ⟨w.heap.size, 0, none⟩ = some (.int .i64 e) ∧ W.cell? ⟨w.heap.size, 1, none⟩ = some (.int .i64 n) ∧ W.cell? ⟨w.heap.size, 2, none⟩ = some (.string s) ∧ W.cell? ⟨w.heap.size + 1, 0, none⟩ = some (.int .i64 e') ∧ W.cell? ⟨w.heap.size + 1, 1, none⟩ = some (.int .i64 n') ∧ W.cell? ⟨w.heap.size + 1, 2, none⟩ = some (.string s'))
    (first | (refine ⟨?_, ?_, ?_, ?_, ?_, ?_⟩; exact f0; exact f1; exact f2; exact g0; exact g1; exact g2) | exact SKH.out _ hbC | exact SKH.out _ hbB | exact SKH.out _ hbA)
    (first
      | (go_at_call_has 6 n; refine (toOutcome_any _ n _ _).mono ?_; rintro r wa ⟨rfl, hba⟩; have hbA : Below w2.heap.size w2 wa := (by first | exact (Below.refl _ _).drew.trans hba | exact hbB.trans (hba.mono hbB.size)))
      | (go_at_call_has 6 n'; refine (toOutcome_any _ n' _ _).mono ?_; rintro r wb ⟨rfl, hbb⟩; have hbB : Below w2.heap.size w2 wb := (by first | exact (Below.refl _ _).drew.trans hbb | exact hbA.trans (hbb.mono hbA.size)))
      | (go_at_call 5; refine (sSameEnd_any e n s e' n' s' _).mono ?_; rintro r w5 ⟨rfl, hb5⟩; have hbC : Below w2.heap.size w2 w5 := (by first | exact hbB.trans (hb5.mono hbB.size) | exact hbA.trans (hb5.mono hbA.size))))
  all_goals
    have hz5 := hbC.size
    have hbw5 : Below w.heap.size w w5 := hbw2.trans (hbC.mono (by omega))
    have v0 := (hbC.block _ hl2).trans y0
    have v1 := (hbC.block _ hl2').trans y1
    clear f0 f1 f2 g0 g1 g2 hba hbb hbA hbB hb5 SKH
    have hk5 : w.heap.size < w5.heap.size := by omega
    have hk5' : w.heap.size + 1 < w5.heap.size := by omega
    obtain ⟨f0, f1, f2⟩ := three_cells v0
    obtain ⟨g0, g1, g2⟩ := three_cells v1
    have SK : ∀ W : World, Below w5.heap.size w5 W → W.cell? ⟨w.heap.size, 0, none⟩ = some (.int .i64 e) ∧ W.cell? ⟨w.heap.size, 1, none⟩ = some (.int .i64 n) ∧ W.cell? ⟨w.heap.size, 2, none⟩ = some (.string s) ∧ W.cell? ⟨w.heap.size + 1, 0, none⟩ = some (.int .i64 e') ∧ W.cell? ⟨w.heap.size + 1, 1, none⟩ = some (.int .i64 n') ∧ W.cell? ⟨w.heap.size + 1, 2, none⟩ = some (.string s') :=
      fun W hW => ⟨(cell_kept hW hk5 0).trans f0, (cell_kept hW hk5 1).trans f1, (cell_kept hW hk5 2).trans f2, (cell_kept hW hk5' 0).trans g0, (cell_kept hW hk5' 1).trans g1, (cell_kept hW hk5' 2).trans g2⟩
    have SKH : Hid (∀ W : World, _) := SK
    clear SK hbC
    go_wp2_with fail
    go_region_held3 (fun W => W.cell? ⟨w.heap.size, 0, none⟩ = some (.int .i64 e) ∧ W.cell? ⟨w.heap.size, 1, none⟩ = some (.int .i64 n) ∧ W.cell? ⟨w.heap.size, 2, none⟩ = some (.string s) ∧ W.cell? ⟨w.heap.size + 1, 0, none⟩ = some (.int .i64 e') ∧ W.cell? ⟨w.heap.size + 1, 1, none⟩ = some (.int .i64 n') ∧ W.cell? ⟨w.heap.size + 1, 2, none⟩ = some (.string s'))
      (first | (refine ⟨?_, ?_, ?_, ?_, ?_, ?_⟩; exact f0; exact f1; exact f2; exact g0; exact g1; exact g2) | exact SKH.out _ hbC | exact SKH.out _ hbB | exact SKH.out _ hbA)
      (first
        | (go_at_call_has 6 n; refine (toOutcome_any _ n _ _).mono ?_; rintro r wc ⟨rfl, hba⟩; have hbA : Below w5.heap.size w5 wc := (by first | exact (Below.refl _ _).drew.trans hba | exact hbB.trans (hba.mono hbB.size)))
        | (go_at_call_has 6 n'; refine (toOutcome_any _ n' _ _).mono ?_; rintro r wd ⟨rfl, hbb⟩; have hbB : Below w5.heap.size w5 wd := (by first | exact (Below.refl _ _).drew.trans hbb | exact hbA.trans (hbb.mono hbA.size)))
        | (go_at_call 7; refine (iSameEnd_any e n s e' n' s' _).mono ?_; rintro r w8 ⟨rfl, hb8⟩; have hbC : Below w5.heap.size w5 w8 := (by first | exact hbB.trans (hb8.mono hbB.size) | exact hbA.trans (hb8.mono hbA.size))))
    all_goals
      go_wp2_with fail
      go_ret
      exact ⟨rfl, hbw5.trans (hbC.mono (by omega))⟩

end Go.Proofs.Ytlfhidpcpklimaa
