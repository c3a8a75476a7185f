/-
  A number put into an ascending list; a list sorted, with those alike struck: both as plain functions, and that they come to the same. No program.
-/
import Derived.Test.YtchdmpipfmedaaaIr
import Derived.Lib.SlicesCompact
namespace Go.Proofs.Ytchdmpipfmedaaa
open Go.RowKit
set_option linter.unusedVariables false
set_option linter.unusedSimpArgs false

def a1 (n : Int) (P : List Int) (b : Bool) (x : Int) : List Int := if !b && decide (n ≤ x) then P ++ [n] else P
def a2 (n : Int) (P : List Int) (x : Int) : List Int := if x == n then P else P ++ [x]
def addF (n : Int) : List Int → Bool → List Int → List Int
  | P, b, [] => if b then P else P ++ [n]
  | P, b, x :: xs => addF n (a2 n (a1 n P b x) x) (b || decide (n ≤ x)) xs
/-- What 'l10Add' makes of a list. -/
def addL (l : List Int) (n : Int) : List Int := addF n [] false l

theorem a1_len (n : Int) (P : List Int) (b : Bool) (x : Int) : (a1 n P b x).length ≤ P.length + 1 := by
  unfold a1; split <;> simp
theorem a2_len (n : Int) (P : List Int) (x : Int) : (a2 n P x).length ≤ P.length + 1 := by
  unfold a2; split <;> simp

def Asc (l : List Int) : Prop := l.Pairwise (· < ·)

theorem addF_put (n : Int) : ∀ (xs P : List Int), addF n P true xs = P ++ xs.filter (fun x => !(x == n))
  | [], P => by simp [addF]
  | x :: xs, P => by
    rw [addF, Bool.true_or, addF_put n xs]
    have e : a1 n P true x = P := by simp [a1]
    rw [e]
    by_cases h : x == n
    · simp [a2, h]
    · simp [a2, h]

theorem addF_open (n : Int) : ∀ (xs P : List Int), Asc xs → addF n P false xs = P ++ (xs.filter (fun x => decide (x < n)) ++ [n] ++ xs.filter (fun x => decide (n < x)))
  | [], P, _ => by simp [addF]
  | x :: xs, P, h => by
    obtain ⟨h1, h2⟩ := List.pairwise_cons.1 h
    rw [addF]
    by_cases hx : n ≤ x
    · have e : a1 n P false x = P ++ [n] := by simp [a1, hx]
      rw [e, decide_eq_true hx, Bool.or_true, addF_put]
      have f1 : (x :: xs).filter (fun x => decide (x < n)) = [] := by
        rw [List.filter_eq_nil_iff]
        intro y hy
        rcases List.mem_cons.1 hy with rfl | hy
        · simp; omega
        · have := h1 y hy; simp; omega
      have f2 : xs.filter (fun x => decide (n < x)) = xs := List.filter_eq_self.2 (fun y hy => by have := h1 y hy; simp; omega)
      have f3 : xs.filter (fun x => !(x == n)) = xs := List.filter_eq_self.2 (fun y hy => by have := h1 y hy; simp; omega)
      rw [f1, f3]
      by_cases hn : x = n
      · subst hn
        rw [List.filter_cons_of_neg (by simp), f2]
        simp [a2]
      · rw [List.filter_cons_of_pos (by simp; omega), f2]
        simp [a2, hn]
    · have e : a1 n P false x = P := by simp [a1, hx]
      rw [e, decide_eq_false hx, Bool.or_false, addF_open n xs _ h2]
      have hn : ¬ x = n := by omega
      rw [List.filter_cons_of_pos (p := fun x => decide (x < n)) (by simp; omega), List.filter_cons_of_neg (p := fun x => decide (n < x)) (by simp; omega)]
      simp [a2, hn]

theorem addL_eq (l : List Int) (n : Int) (h : Asc l) : addL l n = l.filter (fun x => decide (x < n)) ++ [n] ++ l.filter (fun x => decide (n < x)) := by
  unfold addL; rw [addF_open n l [] h]; rfl

theorem addL_asc (l : List Int) (n : Int) (h : Asc l) : Asc (addL l n) := by
  rw [addL_eq l n h]
  unfold Asc at *
  rw [List.pairwise_append, List.pairwise_append]
  refine ⟨⟨h.filter _, by simp, fun a ha b hb => ?_⟩, h.filter _, fun a ha b hb => ?_⟩
  · have := (List.mem_filter.1 ha).2
    rw [List.mem_singleton] at hb
    subst hb
    simpa using this
  · have hb2 := (List.mem_filter.1 hb).2
    simp only [decide_eq_true_eq] at hb2
    rcases List.mem_append.1 ha with ha | ha
    · have := (List.mem_filter.1 ha).2
      simp only [decide_eq_true_eq] at this
      omega
    · rw [List.mem_singleton] at ha
      omega

theorem addL_mem (l : List Int) (n : Int) (h : Asc l) (y : Int) : y ∈ addL l n ↔ y = n ∨ y ∈ l := by
  rw [addL_eq l n h]
  simp only [List.mem_append, List.mem_filter, List.mem_singleton, decide_eq_true_eq]
  constructor
  · rintro ((h | h) | h)
    · exact Or.inr h.1
    · exact Or.inl h
    · exact Or.inr h.1
  · rintro (h | h)
    · exact Or.inl (Or.inr h)
    · by_cases h1 : y < n
      · exact Or.inl (Or.inl ⟨h, h1⟩)
      · by_cases h2 : n < y
        · exact Or.inr ⟨h, h2⟩
        · exact Or.inl (Or.inr (by omega))

theorem two_filters (n : Int) : ∀ l : List Int, (l.filter (fun x => decide (x < n))).length + (l.filter (fun x => decide (n < x))).length ≤ l.length
  | [] => by simp
  | x :: l => by
    have ih := two_filters n l
    by_cases h1 : x < n
    · rw [List.filter_cons_of_pos (p := fun x => decide (x < n)) (by simp; omega), List.filter_cons_of_neg (p := fun x => decide (n < x)) (by simp; omega), List.length_cons, List.length_cons]; omega
    · by_cases h2 : n < x
      · rw [List.filter_cons_of_neg (p := fun x => decide (x < n)) (by simp; omega), List.filter_cons_of_pos (p := fun x => decide (n < x)) (by simp; omega), List.length_cons, List.length_cons]; omega
      · rw [List.filter_cons_of_neg (p := fun x => decide (x < n)) (by simp; omega), List.filter_cons_of_neg (p := fun x => decide (n < x)) (by simp; omega), List.length_cons]; omega
theorem addL_len (l : List Int) (n : Int) (h : Asc l) : (addL l n).length ≤ l.length + 1 := by
  rw [addL_eq l n h, List.length_append, List.length_append, List.length_singleton]
  have := two_filters n l
  omega

/-- Ascending lists with the same members are one. -/
theorem asc_ext : ∀ (a b : List Int), Asc a → Asc b → (∀ y, y ∈ a ↔ y ∈ b) → a = b
  | [], [], _, _, _ => rfl
  | [], y :: b, _, _, h => by have := (h y).2 (by simp); simp at this
  | x :: a, [], _, _, h => by have := (h x).1 (by simp); simp at this
  | x :: a, y :: b, ha, hb, h => by
    obtain ⟨a1, a2⟩ := List.pairwise_cons.1 ha
    obtain ⟨b1, b2⟩ := List.pairwise_cons.1 hb
    have e : x = y := by
      have h1 := (h x).1 (by simp)
      have h2 := (h y).2 (by simp)
      rcases List.mem_cons.1 h1 with h1 | h1
      · exact h1
      · rcases List.mem_cons.1 h2 with h2 | h2
        · exact h2.symm
        · have := b1 x h1; have := a1 y h2; omega
    subst e
    rw [asc_ext a b a2 b2 (fun y => ?_)]
    constructor
    · intro hy
      rcases List.mem_cons.1 ((h y).1 (List.mem_cons_of_mem _ hy)) with rfl | h2
      · have := a1 y hy; omega
      · exact h2
    · intro hy
      rcases List.mem_cons.1 ((h y).2 (List.mem_cons_of_mem _ hy)) with rfl | h2
      · have := b1 y hy; omega
      · exact h2

/-- Numbers put in one behind the other. -/
def redL (l : List Int) : List Int := l.foldl addL []
theorem fold_asc : ∀ (l : List Int) (P : List Int), Asc P → Asc (l.foldl addL P) ∧ ∀ y, y ∈ l.foldl addL P ↔ y ∈ P ∨ y ∈ l
  | [], P, h => ⟨h, fun y => by simp⟩
  | x :: l, P, h => by
    obtain ⟨h1, h2⟩ := fold_asc l (addL P x) (addL_asc P x h)
    refine ⟨h1, fun y => ?_⟩
    rw [List.foldl_cons, h2, addL_mem P x h, List.mem_cons]
    constructor
    · rintro ((h | h) | h)
      · exact Or.inr (Or.inl h)
      · exact Or.inl h
      · exact Or.inr (Or.inr h)
    · rintro (h | h | h)
      · exact Or.inl (Or.inr h)
      · exact Or.inl (Or.inl h)
      · exact Or.inr h
theorem redL_asc (l : List Int) : Asc (redL l) := (fold_asc l [] List.Pairwise.nil).1
theorem redL_mem (l : List Int) (y : Int) : y ∈ redL l ↔ y ∈ l := by
  have := (fold_asc l [] List.Pairwise.nil).2 y
  simpa [redL] using this
theorem fold_len : ∀ (l : List Int) (P : List Int), Asc P → (l.foldl addL P).length ≤ P.length + l.length
  | [], P, h => by simp
  | x :: l, P, h => by
    have h1 := fold_len l (addL P x) (addL_asc P x h)
    have h2 := addL_len P x h
    rw [List.foldl_cons, List.length_cons]
    omega
theorem redL_snoc (l : List Int) (x : Int) : redL (l ++ [x]) = addL (redL l) x := by simp [redL, List.foldl_append]

theorem cu_facts (d : Array Int) (hs : ∀ i j, i < j → j < d.size → d[i]! ≤ d[j]!) : ∀ m, m ≤ d.size → Asc (Lib.compactUpTo d m) ∧ ∀ y, y ∈ Lib.compactUpTo d m ↔ ∃ j, j < m ∧ d[j]! = y
  | 0, _ => ⟨by simp [Lib.compactUpTo, Asc], fun y => by simp [Lib.compactUpTo]⟩
  | m + 1, hm => by
    obtain ⟨h1, h2⟩ := cu_facts d hs m (by omega)
    rw [Lib.compactUpTo_succ]
    by_cases hk : Lib.keeps d m = true
    · rw [if_pos hk]
      refine ⟨?_, fun y => ?_⟩
      · unfold Asc at *
        rw [List.pairwise_append]
        refine ⟨h1, by simp, fun a ha b hb => ?_⟩
        rw [List.mem_singleton] at hb
        subst hb
        obtain ⟨j, hj, rfl⟩ := (h2 a).1 ha
        have h3 : m ≠ 0 := by omega
        simp only [Lib.keeps, decide_eq_true_eq] at hk
        have h4 : d[m]! ≠ d[m - 1]! := hk.resolve_left h3
        have h5 := hs (m - 1) m (by omega) (by omega)
        have h6 : d[j]! ≤ d[m - 1]! := by
          by_cases e : j = m - 1
          · rw [e]; exact Int.le_refl _
          · exact hs j (m - 1) (by omega) (by omega)
        omega
      · rw [List.mem_append, List.mem_singleton, h2]
        constructor
        · rintro (⟨j, hj, e⟩ | rfl)
          · exact ⟨j, by omega, e⟩
          · exact ⟨m, by omega, rfl⟩
        · rintro ⟨j, hj, rfl⟩
          by_cases e : j = m
          · subst e; exact Or.inr rfl
          · exact Or.inl ⟨j, by omega, rfl⟩
    · rw [if_neg hk, List.append_nil]
      refine ⟨h1, fun y => ?_⟩
      rw [h2]
      constructor
      · rintro ⟨j, hj, e⟩
        exact ⟨j, by omega, e⟩
      · rintro ⟨j, hj, rfl⟩
        by_cases e : j = m
        · subst e
          simp only [Lib.keeps, decide_eq_true_eq, not_or, Decidable.not_not] at hk
          exact ⟨j - 1, by omega, hk.2.symm⟩
        · exact ⟨j, by omega, rfl⟩

/-- Sorted, and those alike struck: the numbers put in one behind the other. -/
theorem compact_sort (l : List Int) : Lib.compact (l.mergeSort fun x y => decide (x ≤ y)) = redL l := by
  have hp : (l.mergeSort fun x y => decide (x ≤ y)).Pairwise fun a b => decide (a ≤ b) = true :=
    List.pairwise_mergeSort (fun a b c h1 h2 => by simp only [decide_eq_true_eq] at *; omega) (fun a b => by simp only [Bool.or_eq_true, decide_eq_true_eq]; omega) l
  have hm : ∀ y, y ∈ (l.mergeSort fun x y => decide (x ≤ y)) ↔ y ∈ l := fun y => List.mem_mergeSort
  generalize (l.mergeSort fun x y => decide (x ≤ y)) = z at *
  have hz := List.pairwise_iff_getElem.1 hp
  obtain ⟨h1, h2⟩ := cu_facts z.toArray (fun i j hij hj => by
    have hj2 : j < z.length := by simpa using hj
    rw [getElem!_pos z.toArray i (by omega), getElem!_pos z.toArray j hj]
    exact of_decide_eq_true (hz i j (by omega) hj2 hij)) z.length (by simp)
  refine asc_ext _ _ h1 (redL_asc l) (fun y => ?_)
  rw [redL_mem, ← hm]
  unfold Lib.compact
  rw [h2]
  constructor
  · rintro ⟨j, hj, rfl⟩
    rw [getElem!_pos z.toArray j (by simpa using hj)]
    simp
  · intro hy
    obtain ⟨j, hj, rfl⟩ := List.getElem_of_mem hy
    exact ⟨j, hj, by rw [getElem!_pos z.toArray j (by simpa using hj)]; simp⟩

end Go.Proofs.Ytchdmpipfmedaaa
