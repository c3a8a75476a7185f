/-
  Rows of structs: several stores into a row, and a new row that is laid element by element. No walk, no statement.
-/
import Derived.Test.YtlogpkebacmbiaaTr
namespace Go.Proofs.Ytlogpkebacmbiaa
open Go.RowKit
set_option linter.unusedVariables false
set_option linter.unusedSimpArgs false

/-- Values stored into a block, one behind the other. -/
def setL (w : World) (g o : Nat) : List Value → World
  | [] => w
  | v :: vs => setL (w.setCell ⟨g, o, none⟩ v) g (o + 1) vs

theorem setL_other {g k : Nat} (hk : k ≠ g) : ∀ (vs : List Value) (w : World) (o : Nat), (setL w g o vs).heap[k]? = w.heap[k]?
  | [], w, o => rfl
  | v :: vs, w, o => by rw [setL, setL_other hk vs]; exact row_other _ _ _ hk
theorem setL_size {g : Nat} : ∀ (vs : List Value) (w : World) (o : Nat), (setL w g o vs).heap.size = w.heap.size
  | [], w, o => rfl
  | v :: vs, w, o => by rw [setL, setL_size vs]; simp
theorem setL_below {B : Nat} {x : World} {g : Nat} (hg : B ≤ g) : ∀ (vs : List Value) (w : World) (o : Nat), Below B x w → Below B x (setL w g o vs)
  | [], w, o, h => h
  | v :: vs, w, o, h => setL_below hg vs _ _ (h.setCell (p := ⟨g, o, none⟩) hg v)
theorem setL_row {g : Nat} {t : TypeId} {fr : Nat × Nat} : ∀ (vs : List Value) (w : World) (o : Nat) (cs : Array Value), w.heap[g]? = some (.cells cs t fr) →
    ∃ cs', (setL w g o vs).heap[g]? = some (.cells cs' t fr) ∧ cs'.size = cs.size ∧ (∀ p, p < o ∨ o + vs.length ≤ p → cs'[p]? = cs[p]?) ∧ (∀ j (hj : j < vs.length), o + j < cs.size → cs'[o + j]? = some vs[j])
  | [], w, o, cs, h => ⟨cs, h, rfl, fun _ _ => rfl, fun j hj => by simp at hj⟩
  | v :: vs, w, o, cs, h => by
    obtain ⟨cs', h1, h2, h3, h4⟩ := setL_row vs (w.setCell ⟨g, o, none⟩ v) (o + 1) _ (row_set h o v)
    refine ⟨cs', h1, by rw [h2]; simp, fun p hp => ?_, fun j hj hs => ?_⟩
    · simp only [List.length_cons] at hp
      rw [h3 p (by omega), Array.getElem?_setIfInBounds, if_neg (by omega)]
    · cases j with
      | zero =>
        rw [Nat.add_zero, h3 o (by omega), Array.getElem?_setIfInBounds, if_pos rfl, if_pos (by omega)]
        rfl
      | succ j =>
        simp only [List.length_cons] at hj
        have := h4 j (by omega) (by simp; omega)
        rw [show o + (j + 1) = o + 1 + j by omega, this]
        rfl

/-- A new row of elements of n cells each, k of them laid; E says what it is that one of them lies there. -/
structure ToR (n : Nat) (τ : TypeId) (E : World → Nat → Nat → Nat → Prop) (w wr : World) (len k : Nat) : Prop where
  bel : Below w.heap.size w wr
  row : ∃ cs : Array Value, wr.heap[w.heap.size]? = some (.cells cs τ (0, 0)) ∧ cs.size = len * n
  els : ∀ i, i < k → E wr w.heap.size (i * n) i

/-- What lies in an element depends on its cells, and on what is behind its block. -/
def Stays (n : Nat) (E : World → Nat → Nat → Nat → Prop) (b : Nat) : Prop :=
  ∀ (W W' : World) (i : Nat), E W b (i * n) i → (∀ p, i * n ≤ p → p < i * n + n → W'.cell? ⟨b, p, none⟩ = W.cell? ⟨b, p, none⟩) → (∀ j, b < j → j < W.heap.size → W'.heap[j]? = W.heap[j]?) → W.heap.size ≤ W'.heap.size → E W' b (i * n) i

theorem ToR.lt {n : Nat} {τ : TypeId} {E : World → Nat → Nat → Nat → Prop} {w wr : World} {len k : Nat} (h : ToR n τ E w wr len k) : w.heap.size < wr.heap.size := by
  obtain ⟨cs, hr, _⟩ := h.row
  exact (Array.getElem?_eq_some_iff.1 hr).1

theorem ToR.row1 {n : Nat} {τ : TypeId} {E : World → Nat → Nat → Nat → Prop} {w wr w1 : World} {len k : Nat} (h : ToR n τ E w wr len k) (hb : Below wr.heap.size wr w1) : ∃ cs : Array Value, w1.heap[w.heap.size]? = some (.cells cs τ (0, 0)) ∧ cs.size = len * n := by
  obtain ⟨cs, hr, hc⟩ := h.row
  exact ⟨cs, (hb.block _ h.lt).trans hr, hc⟩

theorem ToR.cell {n : Nat} {τ : TypeId} {E : World → Nat → Nat → Nat → Prop} {w wr w1 : World} {len k : Nat} (h : ToR n τ E w wr len k) (hb : Below wr.heap.size wr w1) (hk : k < len) (j : Nat) (hj : j < n) :
    (∃ u, w1.cell? ⟨w.heap.size, k * n + j, none⟩ = some u) ∧ w1.frozen? ⟨w.heap.size, k * n + j, none⟩ = false := by
  obtain ⟨cs, hr, hc⟩ := h.row1 hb
  refine ⟨?_, row_free hr _⟩
  rw [row_cell hr]
  have : k * n + n ≤ len * n := by rw [← Nat.succ_mul]; exact Nat.mul_le_mul_right _ hk
  exact ⟨_, Array.getElem?_eq_getElem (by omega)⟩

theorem ToR.next {n : Nat} {τ : TypeId} {E : World → Nat → Nat → Nat → Prop} {w wr w1 : World} {len k : Nat} (h : ToR n τ E w wr len k) (hk : k < len) (hb : Below wr.heap.size wr w1) (vs : List Value) (hv : vs.length = n)
    (stays : Stays n E w.heap.size)
    (new : ∀ W' : World, (∀ j (hj : j < vs.length), W'.cell? ⟨w.heap.size, k * n + j, none⟩ = some vs[j]) → (∀ j, w.heap.size < j → j < w1.heap.size → W'.heap[j]? = w1.heap[j]?) → W'.heap.size = w1.heap.size → E W' w.heap.size (k * n) k) :
    ToR n τ E w (setL w1 w.heap.size (k * n) vs) len (k + 1) := by
  obtain ⟨cs, hr, hc⟩ := h.row1 hb
  have hlt := h.lt
  have hsz := hb.size
  obtain ⟨cs', q1, q2, q3, q4⟩ := setL_row vs w1 (k * n) cs hr
  have hkn : k * n + n ≤ len * n := by rw [← Nat.succ_mul]; exact Nat.mul_le_mul_right _ hk
  refine ⟨?_, ⟨cs', q1, by omega⟩, fun i hi => ?_⟩
  · exact setL_below (Nat.le_refl _) _ _ _ (h.bel.trans (hb.mono (by omega)))
  · by_cases e : i = k
    · subst e
      refine new _ (fun j hj => ?_) (fun j hj _ => setL_other (by omega) _ _ _) (setL_size _ _ _)
      rw [row_cell q1]
      exact q4 j hj (by omega)
    · have hik : i * n + n ≤ k * n := by rw [← Nat.succ_mul]; exact Nat.mul_le_mul_right _ (by omega)
      refine stays wr _ i (h.els i (by omega)) (fun p hp1 hp2 => ?_) (fun j hj hj2 => ?_) (by rw [setL_size]; exact hsz)
      · rw [row_cell q1, q3 p (Or.inl (by omega)), ← row_cell hr]
        exact bcell hb hlt p
      · rw [setL_other (by omega)]
        exact hb.block j hj2

end Go.Proofs.Ytlogpkebacmbiaa
