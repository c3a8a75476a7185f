/-
  Trees of K, N and parts, and what it is that a slice in memory holds a list of them: no walk, no statement.
-/
import Derived.Test.YtgckmnchlkgakaaRows
import Derived.WalkKit
import Derived.WalkSpells
import Derived.WalkLawsBesides
namespace Go.Proofs.Ytgckmnchlkgakaa
open Go.RowKit
set_option linter.unusedVariables false
set_option linter.unusedSimpArgs false

/-- A type as a tree. -/
structure Tr where
  K : Int
  N : Int
  A : List Tr

theorem tr_eta (t : Tr) : (⟨t.K, t.N, t.A⟩ : Tr) = t := by cases t; rfl

def cnt : Tr → Nat
  | ⟨_, _, a⟩ => 1 + (a.attach.map fun ⟨x, _⟩ => cnt x).sum

def cntS (l : List Tr) : Nat := (l.map cnt).sum
def subS (l : List Tr) : Nat := (l.map fun t => cntS t.A).sum

theorem cnt_eq (t : Tr) : cnt t = 1 + cntS t.A := by
  cases t; rw [cnt]; simp [cntS]

theorem cntS_eq (l : List Tr) : cntS l = l.length + subS l := by
  induction l with
  | nil => rfl
  | cons t l ih => simp only [cntS, subS, List.map_cons, List.sum_cons, List.length_cons] at *; rw [cnt_eq, ih]; simp only [cntS]; omega

theorem subS_take (l : List Tr) (k : Nat) (h : k < l.length) : subS (l.take (k + 1)) = subS (l.take k) + cntS l[k].A := by
  rw [List.take_succ_eq_append_getElem h]; simp only [subS, List.map_append, List.sum_append, List.map_cons, List.map_nil, List.sum_cons, List.sum_nil]; omega

theorem subS_take_le (l : List Tr) (k : Nat) : subS (l.take k) ≤ subS l := by
  have h := congrArg subS (List.take_append_drop k l)
  simp only [subS, List.map_append, List.sum_append] at *; omega

theorem cntS_get (l : List Tr) (k : Nat) (h : k < l.length) : cntS l[k].A < cntS l := by
  have h1 := subS_take l k h
  have h2 := subS_take_le l (k + 1)
  have h3 := cntS_eq l
  omega

/-- What 'sz..' answers. -/
def szL (ts : List Tr) (left : Int) : Int := if (cntS ts : Int) ≤ left then left - cntS ts else -1
theorem szL_pos {ts : List Tr} {left : Int} (h : (cntS ts : Int) ≤ left) : szL ts left = left - cntS ts := if_pos h
theorem szL_neg {ts : List Tr} {left : Int} (h : ¬ (cntS ts : Int) ≤ left) : szL ts left = -1 := if_neg h

/-- Block b holds, from cell o on, the three cells of t; 'rec' says of its parts' slice what it holds. -/
def El (w : World) (rec : Option Addr → Nat → List Tr → Prop) (b o : Nat) (t : Tr) : Prop :=
  ∃ ao len cap, w.cell? ⟨b, o, none⟩ = some (.int .i64 t.K) ∧ w.cell? ⟨b, o + 1, none⟩ = some (.int .i64 t.N) ∧ w.cell? ⟨b, o + 2, none⟩ = some (.slice ao len cap) ∧ rec ao len t.A

/-- A slice (its address, its length) holds the list ts, no deeper than d, in blocks from L on and below B. -/
def Hs (L B : Nat) (w : World) : Nat → Option Addr → Nat → List Tr → Prop
  | 0, _, len, ts => len = 0 ∧ ts = []
  | d + 1, ao, len, ts => len = ts.length ∧ len ≤ 9223372036854775807 ∧ ∀ i (_ : i < ts.length), ∃ b o, ao = some ⟨b, o, none⟩ ∧ L ≤ b ∧ b < B ∧ El w (Hs L B w d) b (o + i * 3) ts[i]

theorem El.wider {w : World} {r r' : Option Addr → Nat → List Tr → Prop} {b o : Nat} {t : Tr} (h : El w r b o t) (k : ∀ ao len ts, r ao len ts → r' ao len ts) : El w r' b o t := by
  obtain ⟨ao, len, cap, h1, h2, h3, h4⟩ := h
  exact ⟨ao, len, cap, h1, h2, h3, k _ _ _ h4⟩

theorem El.world {w w' : World} {r : Option Addr → Nat → List Tr → Prop} {b o : Nat} {t : Tr} (h : El w r b o t) (hb : w'.heap[b]? = w.heap[b]?) : El w' r b o t := by
  obtain ⟨ao, len, cap, h1, h2, h3, h4⟩ := h
  have hc : ∀ o, w'.cell? ⟨b, o, none⟩ = w.cell? ⟨b, o, none⟩ := fun o => World.cell?_of_block hb
  exact ⟨ao, len, cap, (hc _).trans h1, (hc _).trans h2, (hc _).trans h3, h4⟩

theorem Hs.len {L B : Nat} {w : World} {d : Nat} {ao : Option Addr} {len : Nat} {ts : List Tr} (h : Hs L B w d ao len ts) : len = ts.length ∧ len ≤ 9223372036854775807 := by
  cases d with
  | zero => obtain ⟨rfl, rfl⟩ := h; exact ⟨rfl, by omega⟩
  | succ d => exact ⟨h.1, h.2.1⟩

theorem Hs.get {L B : Nat} {w : World} {d : Nat} {ao : Option Addr} {len : Nat} {ts : List Tr} (h : Hs L B w d ao len ts) (i : Nat) (hi : i < ts.length) : ∃ b o, ao = some ⟨b, o, none⟩ ∧ L ≤ b ∧ b < B ∧ El w (Hs L B w (d - 1)) b (o + i * 3) ts[i] := by
  cases d with
  | zero => obtain ⟨_, rfl⟩ := h; simp at hi
  | succ d => exact h.2.2 i hi

theorem Hs.keep {L B L' B' : Nat} {w w' : World} (hb : ∀ k, L ≤ k → k < B → w'.heap[k]? = w.heap[k]?) (hL : L' ≤ L) (hB : B ≤ B') : ∀ {d : Nat} {ao : Option Addr} {len : Nat} {ts : List Tr}, Hs L B w d ao len ts → Hs L' B' w' d ao len ts := by
  intro d
  induction d with
  | zero => intro ao len ts h; exact h
  | succ d ih =>
    intro ao len ts h
    refine ⟨h.1, h.2.1, fun i hi => ?_⟩
    obtain ⟨b, o, e, h1, h2, h3⟩ := h.2.2 i hi
    exact ⟨b, o, e, by omega, by omega, (h3.world (hb b h1 h2)).wider fun _ _ _ hr => ih hr⟩

theorem Hs.below {L B : Nat} {w w' : World} (hb : Below w.heap.size w w') (hB : B ≤ w.heap.size) {d : Nat} {ao : Option Addr} {len : Nat} {ts : List Tr} (h : Hs L B w d ao len ts) : Hs L B w' d ao len ts :=
  h.keep (fun k _ hk => hb.block k (by omega)) (Nat.le_refl _) (Nat.le_refl _)

theorem Hs.drew {L B : Nat} {w : World} {d : Nat} {ao : Option Addr} {len : Nat} {ts : List Tr} (h : Hs L B w d ao len ts) : Hs L B w.drew d ao len ts := h.keep (w := w) (w' := w.drew) (fun _ _ _ => rfl) (Nat.le_refl _) (Nat.le_refl _)
theorem ret_int {k : IntKind} {a b : Int} (h : a = b) : Ending.returned (.int k a) = .returned (.int k b) := by rw [h]
theorem ret_bool {a b : Bool} (h : a = b) : Ending.returned (.bool a) = .returned (.bool b) := by rw [h]
theorem bcell {W w1 : World} {b : Nat} (hb : Below W.heap.size W w1) (h : b < W.heap.size) (o : Nat) : w1.cell? ⟨b, o, none⟩ = W.cell? ⟨b, o, none⟩ := hb.cell (p := ⟨b, o, none⟩) h

theorem heap_new {w : World} {o : Obj} {n : Nat} (h : n = w.heap.size) : (w.alloc o).heap[n]? = some o := by subst h; exact heap_alloc_new w o

/-! A row of cells, and three stores into it. -/
theorem row_cell {w : World} {g : Nat} {cs : Array Value} {t : TypeId} {fr : Nat × Nat} (h : w.heap[g]? = some (.cells cs t fr)) (o : Nat) : w.cell? ⟨g, o, none⟩ = cs[o]? := by
  simp [World.cell?, h]
theorem row_free {w : World} {g : Nat} {cs : Array Value} {t : TypeId} (h : w.heap[g]? = some (.cells cs t (0, 0))) (o : Nat) : w.frozen? ⟨g, o, none⟩ = false := by
  simp [World.frozen?, h]
theorem row_set {w : World} {g : Nat} {cs : Array Value} {t : TypeId} {fr : Nat × Nat} (h : w.heap[g]? = some (.cells cs t fr)) (o : Nat) (v : Value) : (w.setCell ⟨g, o, none⟩ v).heap[g]? = some (.cells (cs.setIfInBounds o v) t fr) := by
  simp [World.setCell, Array.getElem?_modify, h]
theorem row_other {w : World} {g : Nat} (o : Nat) (v : Value) (k : Nat) (hk : k ≠ g) : (w.setCell ⟨g, o, none⟩ v).heap[k]? = w.heap[k]? := Below.heap_setCell _ _ _ _ hk

def set3 (w : World) (g o : Nat) (a b c : Value) : World := ((w.setCell ⟨g, o, none⟩ a).setCell ⟨g, o + 1, none⟩ b).setCell ⟨g, o + 2, none⟩ c
theorem set3_other {w : World} {g o : Nat} {a b c : Value} (k : Nat) (hk : k ≠ g) : (set3 w g o a b c).heap[k]? = w.heap[k]? := by
  unfold set3; rw [row_other _ _ _ hk, row_other _ _ _ hk, row_other _ _ _ hk]
theorem set3_row {w : World} {g o : Nat} {a b c : Value} {cs : Array Value} {t : TypeId} {fr : Nat × Nat} (h : w.heap[g]? = some (.cells cs t fr)) : (set3 w g o a b c).heap[g]? = some (.cells (((cs.setIfInBounds o a).setIfInBounds (o + 1) b).setIfInBounds (o + 2) c) t fr) := by
  unfold set3; exact row_set (row_set (row_set h _ _) _ _) _ _
theorem set3_cells {w : World} {g o : Nat} {a b c : Value} {cs : Array Value} {t : TypeId} {fr : Nat × Nat} (h : w.heap[g]? = some (.cells cs t fr)) (ho : o + 2 < cs.size) :
    (set3 w g o a b c).cell? ⟨g, o, none⟩ = some a ∧ (set3 w g o a b c).cell? ⟨g, o + 1, none⟩ = some b ∧ (set3 w g o a b c).cell? ⟨g, o + 2, none⟩ = some c := by
  simp only [row_cell (set3_row h), Array.getElem?_setIfInBounds, Array.size_setIfInBounds]
  refine ⟨?_, ?_, ?_⟩ <;> simp <;> omega
theorem set3_far {w : World} {g o : Nat} {a b c : Value} {cs : Array Value} {t : TypeId} {fr : Nat × Nat} (h : w.heap[g]? = some (.cells cs t fr)) (p : Nat) (hp : p < o ∨ o + 2 < p) : (set3 w g o a b c).cell? ⟨g, p, none⟩ = w.cell? ⟨g, p, none⟩ := by
  simp only [row_cell (set3_row h), row_cell h, Array.getElem?_setIfInBounds]
  rw [if_neg (by omega), if_neg (by omega), if_neg (by omega)]
theorem set3_size (w : World) (g o : Nat) (a b c : Value) : (set3 w g o a b c).heap.size = w.heap.size := by simp [set3]
theorem set3_below {B : Nat} {x w : World} {g o : Nat} {a b c : Value} (h : Below B x w) (hg : B ≤ g) : Below B x (set3 w g o a b c) :=
  ((h.setCell (p := ⟨g, o, none⟩) hg a).setCell (p := ⟨g, o + 1, none⟩) hg b).setCell (p := ⟨g, o + 2, none⟩) hg c

/-- What 'sz..' answers. -/
def szN (n : Nat) (left : Int) : Int := if (n : Int) ≤ left then left - n else -1
theorem szN_pos {n : Nat} {left : Int} (h : (n : Int) ≤ left) : szN n left = left - n := if_pos h
theorem szN_neg {n : Nat} {left : Int} (h : ¬ (n : Int) ≤ left) : szN n left = -1 := if_neg h

end Go.Proofs.Ytgckmnchlkgakaa
