/-
  A sorted row without two alike is not made shorter by 'Compact'. No program.
-/
import Derived.Test.YtgckmnchlkgakaaAluBw
import Derived.Lib.SlicesCompact
namespace Go.Proofs.Ytgckmnchlkgakaa
open Go.RowKit
set_option linter.unusedVariables false
set_option linter.unusedSimpArgs false

theorem compact_len_iff (zs : List (List UInt8)) : (Lib.compact zs).length = zs.length ↔ ∀ j, j < zs.length → Lib.keeps zs.toArray j = true := by
  constructor
  · intro h j hj
    unfold Lib.compact Lib.compactUpTo at h
    rw [List.length_map] at h
    have h2 : ((List.range zs.length).filter (Lib.keeps zs.toArray)).length = (List.range zs.length).length := by rw [h, List.length_range]
    rw [List.length_filter_eq_length_iff] at h2
    exact h2 j (List.mem_range.2 hj)
  · intro h
    rw [Lib.compact_all zs h]

theorem compact_le (zs : List (List UInt8)) : (Lib.compact zs).length ≤ zs.length := by
  unfold Lib.compact Lib.compactUpTo
  rw [List.length_map]
  exact Nat.le_trans (List.length_filter_le _ _) (by simp)

theorem leB_trans (a b c : List UInt8) (h1 : decide (a ≤ b) = true) (h2 : decide (b ≤ c) = true) : decide (a ≤ c) = true := by
  simp only [decide_eq_true_eq] at *
  exact List.le_trans h1 h2
theorem leB_total (a b : List UInt8) : (decide (a ≤ b) || decide (b ≤ a)) = true := by
  simp only [Bool.or_eq_true, decide_eq_true_eq]
  exact List.le_total a b

theorem keeps_iff (zs : List (List UInt8)) (hp : zs.Pairwise fun a b => decide (a ≤ b) = true) : (∀ j, j < zs.length → Lib.keeps zs.toArray j = true) ↔ zs.Nodup := by
  constructor
  · intro h
    rw [List.nodup_iff_pairwise_ne, List.pairwise_iff_getElem]
    intro i j hi hj hij e
    have h1 := h (i + 1) (by omega)
    have hp2 := List.pairwise_iff_getElem.1 hp
    have a1 : zs[i] ≤ zs[i + 1] := of_decide_eq_true (hp2 i (i + 1) hi (by omega) (by omega))
    have a2 : zs[i + 1] ≤ zs[j] := by
      by_cases e2 : i + 1 = j
      · subst e2; exact List.le_refl _
      · exact of_decide_eq_true (hp2 (i + 1) j (by omega) hj (by omega))
    rw [← e] at a2
    have a3 := List.le_antisymm a1 a2
    unfold Lib.keeps at h1
    simp only [decide_eq_true_eq] at h1
    rcases h1 with h1 | h1
    · omega
    · apply h1
      have b1 : i + 1 < zs.toArray.size := by simp; omega
      have b2 : i < zs.toArray.size := by simp; omega
      rw [Nat.add_sub_cancel, getElem!_pos zs.toArray (i + 1) b1, getElem!_pos zs.toArray i b2]
      simp [a3]
  · intro h j hj
    unfold Lib.keeps
    rw [decide_eq_true_eq]
    by_cases h0 : j = 0
    · exact Or.inl h0
    · right
      have b1 : j < zs.toArray.size := by simp; omega
      have b2 : j - 1 < zs.toArray.size := by simp; omega
      rw [getElem!_pos zs.toArray j b1, getElem!_pos zs.toArray (j - 1) b2]
      rw [List.nodup_iff_pairwise_ne, List.pairwise_iff_getElem] at h
      intro e
      exact h (j - 1) j (by omega) hj (by omega) (by simpa using e.symm)

theorem sorted_compact (B : List (List UInt8)) : ((Lib.compact (B.mergeSort fun x y => decide (x ≤ y))).length = B.length) ↔ B.Nodup := by
  have h1 := List.pairwise_mergeSort (le := fun x y : List UInt8 => decide (x ≤ y)) leB_trans leB_total B
  have h2 : (B.mergeSort fun x y => decide (x ≤ y)).length = B.length := List.length_mergeSort B
  rw [← h2, compact_len_iff, keeps_iff _ h1]
  exact (List.mergeSort_perm B _).nodup_iff

/-- Whether a term is right, and no two binders have one name. -/
def auM (t : Tm) : Bool := okM t && decide (bndT t).Nodup

end Go.Proofs.Ytgckmnchlkgakaa
