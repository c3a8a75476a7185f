/-
  'copyTerm' of the program: the same term in memory of its own.
-/
import Derived.Test.YtgckmnchlkgakaaLmaApM
import Derived.Test.YtgckmnchlkgakaaLmaOw
import Derived.Deep.RegionHeld3
namespace Go.Proofs.Ytgckmnchlkgakaa
open Go.RowKit
set_option linter.unusedVariables false
set_option linter.unusedSimpArgs false

theorem OwR.one {L B L' B' : Nat} {w w' : World} {d d' : Nat} {ao : Option Addr} {len : Nat} {ts : List Tr} (h : OwR L B w d ao len ts) (hd : d ≤ d') (hb : ∀ k, L ≤ k → k < B → w'.heap[k]? = w.heap[k]?) (hL : L' ≤ L) (hB : B ≤ B') : OwR L' B' w' d' ao len ts := (h.deeper hd).keep hb hL hB

theorem pos_d {L B : Nat} {w : World} {D d : Nat} {ao : Option Addr} {len : Nat} {ts : List Tm} (h : Hm L B w D d ao len ts) {j : Nat} (hj : j < ts.length) : d - 1 < d := by
  cases d with
  | zero => obtain ⟨_, rfl⟩ := h; simp at hj
  | succ d => omega

/-- The row behind the field A, whole: it owns its memory. -/
theorem apm_whole {L B base : Nat} {w wr : World} {D D' d : Nat} {ao : Option Addr} {len : Nat} {v : Value} {ts : List Tm} (h : ApRelM base wr D' (d - 1) v len ts) (hm : Hm L B w D d ao len ts) : ∃ a c, v = .slice a len c ∧ OwMR base wr.heap.size wr D' d a len ts := by
  obtain ⟨h1, h2⟩ := hm.len
  obtain ⟨a, c, e, ho⟩ := apm_done h h1 h2
  refine ⟨a, c, e, ?_⟩
  cases d with
  | zero =>
    obtain ⟨h3, h4⟩ := hm
    subst h3
    subst h4
    exact OwMR.nil _ _ _ _ _ _
  | succ d => exact ho

end Go.Proofs.Ytgckmnchlkgakaa

/-
  What the program's 'mapTys' comes to: a new row, each element what the function that was handed in makes of the old one; and 'copyTy'.
-/
namespace Go.Proofs.Ytgckmnchlkgakaa
open Go.RowKit
set_option linter.unusedVariables false
set_option linter.unusedSimpArgs false

theorem Try.infoTy3 : (Try.prog.info? 33).map (fun i => (i.zero, i.size, i.bytes)) = some (some (.agg #[.int .i64 0, .int .i64 0, .slice none 0 0]), 3, 40) := by kernel_rfl

theorem make_ty (len : Nat) (hl : len ≤ 1048576) : ∃ C : Array Value, C.size = len * 3 ∧ ∀ w : World, (Instr.makeSlice 31 (.int .i64 (len : Int)) (.int .i64 (len : Int))).run Try.prog w = .ok (.slice (some ⟨w.heap.size, 0, none⟩) len len) (w.alloc (.cells C 33)) := by
  obtain ⟨i0, hi, hz0, hz1, hz2⟩ := info_parts Try.infoTy3
  refine ⟨madeCells (Value.cells (.agg #[.int .i64 0, .int .i64 0, .slice none 0 0])) (len * 3), size_madeCells _ _, fun w => ?_⟩
  have := run_make (P := Try.prog) (w := w) 31 33 i0 _ Try.underlying31 hi hz0 .i64 .i64 (len : Int) (len : Int) (by omega) (by omega) (by rw [hz2]; omega) (by omega)
  rw [hz1] at this
  simpa using this

theorem Hs.up {L B : Nat} {w : World} {d : Nat} {ao : Option Addr} {len : Nat} {ts : List Tr} (h : Hs L B w 0 ao len ts) : Hs L B w (d + 1) ao len ts := by
  obtain ⟨rfl, rfl⟩ := h
  exact ⟨rfl, by omega, fun i hi => by simp at hi⟩

theorem OwR.len0 {L B : Nat} {w : World} {d : Nat} {ao : Option Addr} {len : Nat} (h : OwR L B w d ao len []) : len = 0 := by
  obtain ⟨bs, h1, _⟩ := h
  cases d with
  | zero => exact h1.1
  | succ d =>
    rcases h1 with h1 | ⟨_, _, _, _, hl, _⟩
    · exact h1.1
    · simpa using hl

end Go.Proofs.Ytgckmnchlkgakaa
