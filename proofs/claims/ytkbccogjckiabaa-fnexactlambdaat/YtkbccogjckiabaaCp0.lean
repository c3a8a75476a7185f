/-
  What the program's 'mapTys' comes to: a new row, each element what the function that was handed in makes of the old one; and 'copyTy'.
-/
import Derived.Test.YtkbccogjckiabaaOw
import Derived.Deep.RegionHeld3
namespace Go.Proofs.Ytkbccogjckiabaa
open Go.RowKit
set_option linter.unusedVariables false
set_option linter.unusedSimpArgs false

theorem Try.infoTy3 : (Try.prog.info? 32).map (fun i => (i.zero, i.size, i.bytes)) = some (some (.agg #[.int .i64 0, .int .i64 0, .slice none 0 0]), 3, 40) := by kernel_rfl

theorem make_ty (len : Nat) (hl : len ≤ 1048576) : ∃ C : Array Value, C.size = len * 3 ∧ ∀ w : World, (Instr.makeSlice 30 (.int .i64 (len : Int)) (.int .i64 (len : Int))).run Try.prog w = .ok (.slice (some ⟨w.heap.size, 0, none⟩) len len) (w.alloc (.cells C 32)) := by
  obtain ⟨i0, hi, hz0, hz1, hz2⟩ := info_parts Try.infoTy3
  refine ⟨madeCells (Value.cells (.agg #[.int .i64 0, .int .i64 0, .slice none 0 0])) (len * 3), size_madeCells _ _, fun w => ?_⟩
  have := run_make (P := Try.prog) (w := w) 30 32 i0 _ Try.underlying30 hi hz0 .i64 .i64 (len : Int) (len : Int) (by omega) (by omega) (by rw [hz2]; omega) (by omega)
  rw [hz1] at this
  simpa using this

theorem Hs.up {L B : Nat} {w : World} {d : Nat} {ao : Option Addr} {len : Nat} {ts : List Tr} (h : Hs L B w 0 ao len ts) : Hs L B w (d + 1) ao len ts := by
  obtain ⟨rfl, rfl⟩ := h
  exact ⟨rfl, by omega, fun i hi => by simp at hi⟩

/-- The row of a struct that was made for a result, told anew behind three stores. -/
theorem res_cells {w : World} {g : Nat} {cs : Array Value} {t : TypeId} {a b c : Value} (h : w.heap[g]? = some (.cells cs t (0, 0))) (hc : cs.size = 3) :
    (set3 w g 0 a b c).cell? ⟨g, 0, none⟩ = some a ∧ (set3 w g 0 a b c).cell? ⟨g, 1, none⟩ = some b ∧ (set3 w g 0 a b c).cell? ⟨g, 2, none⟩ = some c := by
  have := set3_cells (o := 0) (a := a) (b := b) (c := c) h (by omega)
  simpa using this

theorem OwR.len0 {L B : Nat} {w : World} {d : Nat} {ao : Option Addr} {len : Nat} (h : OwR L B w d ao len []) : len = 0 := by
  obtain ⟨bs, h1, _⟩ := h
  cases d with
  | zero => exact h1.1
  | succ d =>
    rcases h1 with h1 | ⟨_, _, _, _, hl, _⟩
    · exact h1.1
    · simpa using hl

end Go.Proofs.Ytkbccogjckiabaa
