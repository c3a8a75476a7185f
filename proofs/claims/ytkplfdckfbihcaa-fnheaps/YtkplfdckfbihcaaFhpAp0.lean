/-
  What 'Alloc' answers, as plain values. No walk, no statement.
-/
import Derived.Test.YtkplfdckfbihcaaFhpHo0
namespace Go.Proofs.Ytkplfdckfbihcaa
open Go.RowKit
set_option linter.unusedVariables false
set_option linter.unusedSimpArgs false

/-- Whether an object can be laid. -/
def alB (s : Int) (l : List Wrd) (x : Wrd) (f : List Wrd) : Bool := okH s l && (decide (cntH x = some f.length) && (f.all (rgt (heads l)) && decide ((l.length : Int) + 1 + f.length ≤ s)))
def alP (q : Bool) (l : List Wrd) (x : Wrd) (f : List Wrd) : List Wrd := if q then l ++ [x] ++ f else l
def alW (q : Bool) (l : List Wrd) : Wrd := if q then ⟨4, (l.length : Int)⟩ else ⟨0, 0⟩
/-- What 'Alloc' comes to. -/
def AlEnd (base : Nat) (s : Int) (l : List Wrd) (x : Wrd) (f : List Wrd) (q : Bool) (e : Ending) (w : World) : Prop :=
  ∃ ao n cap, e = .returned (.tuple #[vH s ao n cap, vW (alW q l), .bool q]) ∧ n = (alP q l x f).length ∧ Wors base w (.slice ao n cap) (alP q l x f)

theorem alB_no1 {s : Int} {l : List Wrd} {x : Wrd} {f : List Wrd} (h : okH s l = false) : alB s l x f = false := by unfold alB; rw [h]; rfl
theorem alB_no2 {s : Int} {l : List Wrd} {x : Wrd} {f : List Wrd} (h : ¬ cntH x = some f.length) : alB s l x f = false := by unfold alB; simp [h]
theorem alB_no3 {s : Int} {l : List Wrd} {x : Wrd} {f : List Wrd} (h : f.all (rgt (heads l)) = false) : alB s l x f = false := by unfold alB; rw [h]; simp
theorem alB_no4 {s : Int} {l : List Wrd} {x : Wrd} {f : List Wrd} (h : ¬ (l.length : Int) + 1 + f.length ≤ s) : alB s l x f = false := by unfold alB; simp [h]
theorem alB_yes {s : Int} {l : List Wrd} {x : Wrd} {f : List Wrd} (h1 : okH s l = true) (h2 : cntH x = some f.length) (h3 : f.all (rgt (heads l)) = true) (h4 : (l.length : Int) + 1 + f.length ≤ s) : alB s l x f = true := by unfold alB; rw [h1, h3]; simp [h2, h4]

/-- Two blocks of two cells are laid. -/
theorem lay_four {W w : World} {R S n : Nat} {t t' : TypeId} {u0 u1 v0 v1 : Value} (hne : R ≠ S) (h : W.heap[R]? = some (.cells #[u0, u1] t (0, 0))) (h' : W.heap[S]? = some (.cells #[v0, v1] t' (0, 0))) (hn : n ≤ R) (hn' : n ≤ S) (hB : Below n w W) (a0 a1 b0 b1 : Value) :
    ∀ Z, (Z = (((W.setCell ⟨R, 0, none⟩ a0).setCell ⟨R, 1, none⟩ a1).setCell ⟨S, 0, none⟩ b0).setCell ⟨S, 1, none⟩ b1 ∨ Z = (((W.setCell ⟨S, 0, none⟩ b0).setCell ⟨S, 1, none⟩ b1).setCell ⟨R, 0, none⟩ a0).setCell ⟨R, 1, none⟩ a1) →
      Z.heap[R]? = some (.cells #[a0, a1] t (0, 0)) ∧ Z.heap[S]? = some (.cells #[b0, b1] t' (0, 0)) ∧ Below n w Z ∧ (∀ k, k ≠ R → k ≠ S → Z.heap[k]? = W.heap[k]?) ∧ Z.heap.size = W.heap.size := by
  intro Z hZ
  rcases hZ with rfl | rfl
  · refine ⟨?_, ?_, (((hB.setCell (p := ⟨R, 0, none⟩) hn _).setCell (p := ⟨R, 1, none⟩) hn _).setCell (p := ⟨S, 0, none⟩) hn' _).setCell (p := ⟨S, 1, none⟩) hn' _, fun k hk hk' => (row_other _ _ _ hk').trans ((row_other _ _ _ hk').trans ((row_other _ _ _ hk).trans (row_other _ _ _ hk))), by simp⟩
    · refine (row_other _ _ _ hne).trans ((row_other _ _ _ hne).trans ?_)
      have := row_set (row_set h 0 a0) 1 a1
      rw [this]
      simp
    · have h2 : ((W.setCell ⟨R, 0, none⟩ a0).setCell ⟨R, 1, none⟩ a1).heap[S]? = _ := ((row_other _ _ _ hne.symm).trans (row_other _ _ _ hne.symm)).trans h'
      have := row_set (row_set h2 0 b0) 1 b1
      rw [this]
      simp
  · refine ⟨?_, ?_, (((hB.setCell (p := ⟨S, 0, none⟩) hn' _).setCell (p := ⟨S, 1, none⟩) hn' _).setCell (p := ⟨R, 0, none⟩) hn _).setCell (p := ⟨R, 1, none⟩) hn _, fun k hk hk' => (row_other _ _ _ hk).trans ((row_other _ _ _ hk).trans ((row_other _ _ _ hk').trans (row_other _ _ _ hk'))), by simp⟩
    · have h2 : ((W.setCell ⟨S, 0, none⟩ b0).setCell ⟨S, 1, none⟩ b1).heap[R]? = _ := ((row_other _ _ _ hne).trans (row_other _ _ _ hne)).trans h
      have := row_set (row_set h2 0 a0) 1 a1
      rw [this]
      simp
    · refine (row_other _ _ _ hne.symm).trans ((row_other _ _ _ hne.symm).trans ?_)
      have := row_set (row_set h' 0 b0) 1 b1
      rw [this]
      simp

end Go.Proofs.Ytkplfdckfbihcaa
