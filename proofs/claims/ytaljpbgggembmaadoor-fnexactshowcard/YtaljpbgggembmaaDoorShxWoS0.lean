/-
  What 'szWordS', 'toWordS', 'eqWordS', 'markWordS', 'heldWordS' and those of a word and of a heap come to.
-/
import Derived.Test.YtaljpbgggembmaaDoorShxWo
import Derived.Deep.QuietTactic
import Derived.BigQuiet
import Derived.Deep.RegionWith
namespace Go.Proofs.YtaljpbgggembmaaDoor
open Go.RowKit
set_option linter.unusedVariables false
set_option linter.unusedSimpArgs false

theorem cells2 {w : World} {b : Nat} {x0 x1 : Value} {t : TypeId} {fr : Nat × Nat} (h : w.heap[b]? = some (.cells #[x0, x1] t fr)) :
    w.cell? ⟨b, 0, none⟩ = some x0 ∧ w.cell? ⟨b, 1, none⟩ = some x1 := ⟨row_cell h 0, row_cell h 1⟩

/-- A word of a row at its place. -/
def EW (l : List Wrd) (W : World) (b o i : Nat) : Prop := ∀ h : i < l.length, Two W b o l[i]
theorem EW_stays (l : List Wrd) (b : Nat) : Stays 2 (EW l) b := by
  intro W W' i h h1 _ _ hi
  exact (h hi).cells h1

theorem tor_wors {w wr : World} {len : Nat} {l : List Wrd} (hl : len = l.length) (hm : len ≤ 1048576) (hR : ToR 2 33 (EW l) w wr len len) : Wors w.heap.size wr (.slice (some ⟨w.heap.size, 0, none⟩) len len) l := by
  obtain ⟨cs, hr, hcs⟩ := hR.row
  refine ⟨by rw [fl_len], Or.inr ⟨w.heap.size, len, cs, by rw [hl], Nat.le_refl _, hr, by omega, by unfold maxLen; omega, by omega, ?_⟩⟩
  apply fl_ext
  · rw [List.length_take]; simp only [Array.length_toList]; omega
  · intro i hi
    have h2 := hR.els i (by omega) hi
    rw [List.getElem?_take, if_pos (by omega), List.getElem?_take, if_pos (by omega), Array.getElem?_toList, Array.getElem?_toList, ← row_cell hr, ← row_cell hr]
    exact ⟨h2.c0, h2.c1⟩

end Go.Proofs.YtaljpbgggembmaaDoor
