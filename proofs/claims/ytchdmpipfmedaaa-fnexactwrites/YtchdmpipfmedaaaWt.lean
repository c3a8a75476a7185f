/-
  'Writes' of the program and of the model.
-/
import Derived.Test.YtchdmpipfmedaaaIx
namespace Go.Proofs.Ytchdmpipfmedaaa
open Go.RowKit
set_option linter.unusedVariables false
set_option linter.unusedSimpArgs false

/-- The register that is written. -/
def wrI (i : Insn) : Int := if uD i.Op && !(i.Op == 17) then i.D else -1

set_option maxHeartbeats 400000 in
theorem writes_any (i : Insn) (ao : Option Addr) (len cap : Nat) (w : World) :
    Calls Try.prog 25 #[vI i ao len cap] w fun e w' => e = .returned (.int .i64 (wrI i)) ∧ Below w.heap.size w w' := by
  obtain ⟨X, hX⟩ : ∃ X, X = w.alloc (.cells #[.int .i64 i.Op, .int .i64 i.D, .int .i64 i.X, .int .i64 i.Y, .int .i64 i.N, .slice ao len cap, .int .i64 i.To] 41) := ⟨_, rfl⟩
  have hXs : X.heap.size = w.heap.size + 1 := by rw [hX]; simp
  have hXb : Below w.heap.size w X := by rw [hX]; exact (Below.refl _ _).alloc (Nat.le_refl _) _
  have hX1 : X.heap[w.heap.size]? = some (.cells #[.int .i64 i.Op, .int .i64 i.D, .int .i64 i.X, .int .i64 i.Y, .int .i64 i.N, .slice ao len cap, .int .i64 i.To] 41 (0, 0)) := by rw [hX]; exact heap_new rfl
  have HX : Hid (X = _) := hX
  clear hX
  go_enter Try.func25, Try.ntmps25
  go_wp2_with fail
  rw [← HX.out]
  refine (fieldsOf_any _ _).mono ?_
  rintro e w1 ⟨rfl, hb1⟩
  have hz1 := hb1.size
  obtain ⟨f0, f1, f2, f3, f4, f5, f6⟩ := cells7 ((hb1.block _ (by omega)).trans hX1)
  have hlt : w.heap.size < w1.heap.size := by omega
  have hw1 : Below w.heap.size w w1 := hXb.trans (hb1.mono (by omega))
  cases hd : uD i.Op with
  | false =>
    have HW : Hid (wrI i = -1) := by show _ = _; simp [wrI, hd]
    go_wp2_with fail
    go_ret
    exact ⟨ret_int HW.out.symm, hw1.alloc (Nat.le_of_lt hlt) _⟩
  | true =>
    cases h17 : i.Op == 17 with
    | true =>
      have HW : Hid (wrI i = -1) := by show _ = _; simp only [wrI, hd, h17]; rfl
      go_wp2_with fail
      go_ret
      exact ⟨ret_int HW.out.symm, hw1.alloc (Nat.le_of_lt hlt) _⟩
    | false =>
      have HW : Hid (wrI i = i.D) := by show _ = _; simp only [wrI, hd, h17]; rfl
      go_wp2_with fail
      go_ret
      exact ⟨ret_int HW.out.symm, hw1.alloc (Nat.le_of_lt hlt) _⟩

set_option maxRecDepth 100000 in
set_option maxHeartbeats 400000 in
theorem sWrites_any (i : Insn) (ao : Option Addr) (len cap : Nat) (w : World) :
    Calls Try.prog 24 #[vI i ao len cap] w fun e w' => e = .returned (.int .i64 (wrI i)) ∧ Below w.heap.size w w' := by
  obtain ⟨X, hX⟩ : ∃ X, X = w.alloc (.cells #[.int .i64 i.Op, .int .i64 i.D, .int .i64 i.X, .int .i64 i.Y, .int .i64 i.N, .slice ao len cap, .int .i64 i.To] 41) := ⟨_, rfl⟩
  have hXs : X.heap.size = w.heap.size + 1 := by rw [hX]; simp
  have hXb : Below w.heap.size w X := by rw [hX]; exact (Below.refl _ _).alloc (Nat.le_refl _) _
  have hX1 : X.heap[w.heap.size]? = some (.cells #[.int .i64 i.Op, .int .i64 i.D, .int .i64 i.X, .int .i64 i.Y, .int .i64 i.N, .slice ao len cap, .int .i64 i.To] 41 (0, 0)) := by rw [hX]; exact heap_new rfl
  have HX : Hid (X = _) := hX
  clear hX
  cases h17 : i.Op == 17 with
  | true =>
    have HW : Hid (wrI i = -1) := by show _ = _; simp [wrI, h17]
    go_enter Try.func24, Try.ntmps24
    go_wp2_with fail
    go_ret
    exact ⟨ret_int HW.out.symm, by rw [← HX.out]; exact hXb⟩
  | false =>
    go_enter Try.func24, Try.ntmps24
    go_wp2_with fail
    rw [← HX.out]
    refine (l9Uses_any _ _).mono ?_
    rintro e w1 ⟨rfl, hb1⟩
    have hz1 := hb1.size
    obtain ⟨f0, f1, f2, f3, f4, f5, f6⟩ := cells7 ((hb1.block _ (by omega)).trans hX1)
    have hw1 : Below w.heap.size w w1 := hXb.trans (hb1.mono (by omega))
    have hix := index4_0 (uD i.Op) (uX i.Op) (uY i.Op) (uT i.Op) w1
    cases hd : uD i.Op with
    | false =>
      have HW : Hid (wrI i = -1) := by show _ = _; simp [wrI, hd]
      rw [hd] at hix
      go_wp2_with fail
      go_ret
      exact ⟨ret_int HW.out.symm, hw1⟩
    | true =>
      have HW : Hid (wrI i = i.D) := by show _ = _; simp only [wrI, hd, h17]; rfl
      rw [hd] at hix
      go_wp2_with fail
      go_ret
      exact ⟨ret_int HW.out.symm, hw1⟩

end Go.Proofs.Ytchdmpipfmedaaa
