/-
  Heaps as plain values: objects, heads, and when a heap is right. No walk, no statement.
-/
import Derived.Test.YtapamdjoipofmaaDoorFcdWo
namespace Go.Proofs.YtapamdjoipofmaaDoor
open Go.RowKit
set_option linter.unusedVariables false
set_option linter.unusedSimpArgs false

/-- How many fields a head has. -/
def cntH (x : Wrd) : Option Nat := if (x.K = 5 ∨ x.K = 6) ∧ x.N = 0 then some 2 else if x.K = 7 ∧ 0 ≤ x.N ∧ x.N ≤ 14999 then some (x.N.toNat % 100) else none
theorem cntH_le {x : Wrd} {c : Nat} (h : cntH x = some c) : c ≤ 99 := by
  unfold cntH at h
  split at h
  · injection h with h; omega
  · split at h
    · injection h with h; omega
    · cases h

/-- How many fields the object at a place has, if one is there. -/
def ob (l : List Wrd) (a : Nat) : Option Nat := match l[a]? with
  | some x => match cntH x with
    | some c => if a + c < l.length then some c else none
    | none => none
  | none => none
theorem ob_some {l : List Wrd} {a c : Nat} (h : ob l a = some c) : ∃ ha : a < l.length, cntH l[a] = some c ∧ a + c < l.length := by
  unfold ob at h
  by_cases ha : a < l.length
  · rw [List.getElem?_eq_getElem ha] at h
    refine ⟨ha, ?_⟩
    simp only at h
    cases hc : cntH l[a] with
    | none => rw [hc] at h; cases h
    | some d =>
      rw [hc] at h
      simp only at h
      split at h
      · injection h with h; subst h; exact ⟨rfl, by assumption⟩
      · cases h
  · rw [List.getElem?_eq_none (by omega)] at h
    cases h
theorem ob_mk {l : List Wrd} {a c : Nat} (ha : a < l.length) (h1 : cntH l[a] = some c) (h2 : a + c < l.length) : ob l a = some c := by
  unfold ob
  rw [List.getElem?_eq_getElem ha]
  simp only [h1, if_pos h2]
theorem ob_no {l : List Wrd} {a : Nat} (ha : a < l.length) (h1 : cntH l[a] = none) : ob l a = none := by
  unfold ob
  rw [List.getElem?_eq_getElem ha]
  simp only [h1]
theorem ob_far {l : List Wrd} {a c : Nat} (ha : a < l.length) (h1 : cntH l[a] = some c) (h2 : l.length ≤ a + c) : ob l a = none := by
  unfold ob
  rw [List.getElem?_eq_getElem ha]
  simp only [h1, if_neg (show ¬ a + c < l.length by omega)]
theorem ob_out {l : List Wrd} {a : Nat} (ha : l.length ≤ a) : ob l a = none := by
  unfold ob
  rw [List.getElem?_eq_none ha]

/-- Objects one behind the other, from a place to a place. -/
def vis (l : List Wrd) : Nat → List (Nat × Nat) → Nat → Prop
  | a, [], b => a = b
  | a, x :: xs, b => x.1 = a ∧ ob l a = some x.2 ∧ vis l (a + x.2 + 1) xs b
theorem vis_snoc {l : List Wrd} {c : Nat} : ∀ {p : List (Nat × Nat)} {a b : Nat}, vis l a p b → ob l b = some c → vis l a (p ++ [(b, c)]) (b + c + 1)
  | [], a, b, h, hc => by
    have e : a = b := h
    subst e
    exact ⟨rfl, hc, rfl⟩
  | x :: xs, a, b, h, hc => ⟨h.1, h.2.1, vis_snoc h.2.2 hc⟩
theorem vis_le {l : List Wrd} : ∀ {p : List (Nat × Nat)} {a b : Nat}, vis l a p b → a + p.length ≤ b
  | [], a, b, h => by have e : a = b := h; simp; omega
  | x :: xs, a, b, h => by have := vis_le h.2.2; simp only [List.length_cons]; omega
theorem vis_len {l : List Wrd} : ∀ {p : List (Nat × Nat)} {a b : Nat}, vis l a p b → a ≤ l.length → b ≤ l.length
  | [], a, b, h, ha => by have e : a = b := h; omega
  | x :: xs, a, b, h, ha => by obtain ⟨_, _, h3⟩ := ob_some h.2.1; exact vis_len h.2.2 (by omega)
theorem vis_pre {l : List Wrd} : ∀ {p q : List (Nat × Nat)} {a b b' : Nat}, vis l a p b → vis l a q b' → ob l b' = none → p <+: q
  | [], q, a, b, b', _, _, _ => List.nil_prefix
  | x :: xs, [], a, b, b', h, h', hn => by have e : a = b' := h'; subst e; have := h.2.1; rw [hn] at this; cases this
  | x :: xs, y :: ys, a, b, b', h, h', hn => by
    have e1 : x.1 = y.1 := h.1.trans h'.1.symm
    have e2 : x.2 = y.2 := by have := h.2.1; rw [h'.2.1] at this; injection this with this; exact this.symm
    have e : x = y := Prod.ext e1 e2
    subst e
    exact List.prefix_cons_inj x |>.2 (vis_pre h.2.2 h'.2.2 hn)
theorem vis_end {l : List Wrd} : ∀ {p : List (Nat × Nat)} {a b b' : Nat}, vis l a p b → vis l a p b' → b = b'
  | [], a, b, b', h, h' => by have e : a = b := h; have e' : a = b' := h'; omega
  | x :: xs, a, b, b', h, h' => vis_end h.2.2 h'.2.2
theorem vis_one {l : List Wrd} {p q : List (Nat × Nat)} {a b b' : Nat} (h : vis l a p b) (h' : vis l a q b') (hn : ob l b = none) (hn' : ob l b' = none) : p = q ∧ b = b' := by
  have h1 := vis_pre h h' hn'
  have h2 := vis_pre h' h hn
  have e : p = q := h1.eq_of_length (Nat.le_antisymm h1.length_le h2.length_le)
  subst e
  exact ⟨rfl, vis_end h h'⟩
theorem vis_bound {l : List Wrd} : ∀ {p : List (Nat × Nat)} {a b : Nat}, vis l a p b → ∀ x ∈ p, a ≤ x.1 ∧ x.1 + x.2 < b ∧ ob l x.1 = some x.2
  | [], a, b, h, x, hx => by cases hx
  | y :: ys, a, b, h, x, hx => by
    have hl := vis_le h.2.2
    rcases List.mem_cons.1 hx with rfl | hx
    · have := h.1
      exact ⟨by omega, by omega, by rw [h.1]; exact h.2.1⟩
    · obtain ⟨h1, h2, h3⟩ := vis_bound h.2.2 x hx
      exact ⟨by omega, h2, h3⟩
theorem vis_cover {l : List Wrd} : ∀ {p : List (Nat × Nat)} {a b : Nat}, vis l a p b → ∀ i, a ≤ i → i < b → (∃ x ∈ p, x.1 = i) ∨ (∃ x ∈ p, x.1 < i ∧ i ≤ x.1 + x.2)
  | [], a, b, h, i, h1, h2 => by have e : a = b := h; omega
  | y :: ys, a, b, h, i, h1, h2 => by
    have e := h.1
    by_cases hi : i ≤ a + y.2
    · by_cases hia : i = a
      · exact Or.inl ⟨y, List.mem_cons_self, by omega⟩
      · exact Or.inr ⟨y, List.mem_cons_self, by omega, by omega⟩
    · rcases vis_cover h.2.2 i (by omega) h2 with ⟨x, hx, hh⟩ | ⟨x, hx, hh⟩
      · exact Or.inl ⟨x, List.mem_cons_of_mem _ hx, hh⟩
      · exact Or.inr ⟨x, List.mem_cons_of_mem _ hx, hh⟩
theorem vis_apart {l : List Wrd} : ∀ {p : List (Nat × Nat)} {a b : Nat}, vis l a p b → ∀ x ∈ p, ∀ i, x.1 < i → i ≤ x.1 + x.2 → ∀ y ∈ p, y.1 ≠ i
  | [], a, b, h, x, hx, i, h1, h2, y, hy => by cases hx
  | z :: zs, a, b, h, x, hx, i, h1, h2, y, hy => by
    have e := h.1
    rcases List.mem_cons.1 hx with rfl | hx
    · rcases List.mem_cons.1 hy with rfl | hy
      · omega
      · have := (vis_bound h.2.2 y hy).1
        omega
    · have hb := (vis_bound h.2.2 x hx).1
      rcases List.mem_cons.1 hy with rfl | hy
      · omega
      · exact vis_apart h.2.2 x hx i h1 h2 y hy

def objs (l : List Wrd) : Nat → Nat → List (Nat × Nat)
  | 0, _ => []
  | f + 1, a => match ob l a with
    | some c => (a, c) :: objs l f (a + c + 1)
    | none => []
def endo (l : List Wrd) : Nat → Nat → Nat
  | 0, a => a
  | f + 1, a => match ob l a with
    | some c => endo l f (a + c + 1)
    | none => a
theorem vis_objs {l : List Wrd} : ∀ (f a : Nat), l.length ≤ a + f → vis l a (objs l f a) (endo l f a) ∧ ob l (endo l f a) = none
  | 0, a, h => ⟨rfl, ob_out (show l.length ≤ a by omega)⟩
  | f + 1, a, h => by
    unfold objs endo
    cases hc : ob l a with
    | none => exact ⟨rfl, hc⟩
    | some c =>
      obtain ⟨h1, h2⟩ := vis_objs (l := l) f (a + c + 1) (by omega)
      exact ⟨⟨rfl, hc, h1⟩, h2⟩
/-- All objects of a row of words, and where the last one ends. -/
def allO (l : List Wrd) : List (Nat × Nat) := objs l l.length 0
def endO (l : List Wrd) : Nat := endo l l.length 0
theorem vis_all (l : List Wrd) : vis l 0 (allO l) (endO l) ∧ ob l (endO l) = none := vis_objs l.length 0 (by omega)
theorem full_all {l : List Wrd} {p : List (Nat × Nat)} {b : Nat} (h : vis l 0 p b) (hn : ob l b = none) : p = allO l ∧ b = endO l := vis_one h (vis_all l).1 hn (vis_all l).2
theorem endO_le (l : List Wrd) : endO l ≤ l.length := vis_len (vis_all l).1 (Nat.zero_le _)
theorem pre_all {l : List Wrd} {p : List (Nat × Nat)} {b : Nat} (h : vis l 0 p b) : p <+: allO l := vis_pre h (vis_all l).1 (vis_all l).2
theorem pre_short {l : List Wrd} {p : List (Nat × Nat)} {b c : Nat} (h : vis l 0 p b) (hc : ob l b = some c) : p.length < l.length := by
  have h1 := vis_le h
  obtain ⟨h2, _⟩ := ob_some hc
  omega

/-- Which places of a row of words are heads of these. -/
def hd (l : List Wrd) (p : List (Nat × Nat)) : List Bool := (List.range l.length).map fun i => p.any fun x => x.1 == i
theorem hd_len (l : List Wrd) (p : List (Nat × Nat)) : (hd l p).length = l.length := by simp [hd]
theorem hd_nil (l : List Wrd) : hd l [] = List.replicate l.length false := by
  apply List.ext_getElem
  · simp [hd]
  · intro i h1 h2
    simp [hd]
theorem hd_snoc (l : List Wrd) (p : List (Nat × Nat)) (b c : Nat) : hd l (p ++ [(b, c)]) = (hd l p).set b true := by
  apply List.ext_getElem
  · simp [hd]
  · intro i h1 h2
    simp only [hd, List.getElem_map, List.getElem_range, List.any_append, List.any_cons, List.any_nil, Bool.or_false]
    rw [List.getElem_set]
    by_cases e : b = i
    · subst e; simp
    · rw [if_neg e]
      have : (b == i) = false := beq_eq_false_iff_ne.2 e
      simp [this]
theorem hd_get (l : List Wrd) (p : List (Nat × Nat)) (i : Nat) (hi : i < l.length) : (hd l p).getD i false = p.any fun x => x.1 == i := by
  rw [List.getD_eq_getElem?_getD, List.getElem?_eq_getElem (by rw [hd_len]; exact hi)]
  simp [hd]

def sizeB (n : Int) : Bool := decide (0 ≤ n) && decide (n ≤ 5000)

/-- A word that may be a field, where these are heads. -/
def rgt (hs : List Bool) (x : Wrd) : Bool := if x.K = 1 then decide (-1000000 ≤ x.N) && decide (x.N ≤ 1000000) else if x.K = 2 then decide (0 ≤ x.N) && decide (x.N ≤ 1) else if x.K = 3 then decide (x.N = 0) else if x.K = 4 then (decide (0 ≤ x.N) && decide (x.N < hs.length)) && hs.getD x.N.toNat false else false

def heads (l : List Wrd) : List Bool := hd l (allO l)
theorem heads_len (l : List Wrd) : (heads l).length = l.length := hd_len _ _
/-- The fields of an object. -/
def flds (l : List Wrd) (x : Nat × Nat) : List Wrd := (l.drop (x.1 + 1)).take x.2
def fok (l : List Wrd) : Bool := (allO l).all fun x => (flds l x).all (rgt (heads l))
def wok (s : Int) (l : List Wrd) : Bool := sizeB s && decide ((l.length : Int) ≤ s)
/-- A heap that is right. -/
def okH (s : Int) (l : List Wrd) : Bool := wok s l && (decide (endO l = l.length) && fok l)
/-- The first k words are heads, or may be fields. -/
def sok (l : List Wrd) (k : Nat) : Bool := (List.range k).all fun i => (heads l).getD i false || rgt (heads l) (l.getD i ⟨0, 0⟩)

theorem flds_get (l : List Wrd) (x : Nat × Nat) (j : Nat) : (flds l x)[j]? = if j < x.2 then l[x.1 + 1 + j]? else none := by
  unfold flds
  rw [List.getElem?_take, List.getElem?_drop]
theorem mem_flds {l : List Wrd} {x : Nat × Nat} {w : Wrd} (h : w ∈ flds l x) : ∃ i, x.1 < i ∧ i ≤ x.1 + x.2 ∧ i < l.length ∧ l.getD i ⟨0, 0⟩ = w := by
  obtain ⟨j, hj⟩ := List.mem_iff_getElem?.1 h
  rw [flds_get] at hj
  split at hj
  · obtain ⟨h1, h2⟩ := List.getElem?_eq_some_iff.1 hj
    exact ⟨x.1 + 1 + j, by omega, by omega, h1, by rw [List.getD_eq_getElem?_getD, hj]; rfl⟩
  · cases hj
theorem flds_mem {l : List Wrd} {x : Nat × Nat} {i : Nat} (h1 : x.1 < i) (h2 : i ≤ x.1 + x.2) (h3 : i < l.length) : l.getD i ⟨0, 0⟩ ∈ flds l x := by
  apply List.mem_iff_getElem?.2
  refine ⟨i - x.1 - 1, ?_⟩
  rw [flds_get, if_pos (by omega), show x.1 + 1 + (i - x.1 - 1) = i by omega, List.getElem?_eq_getElem h3, List.getD_eq_getElem?_getD, List.getElem?_eq_getElem h3]
  rfl

theorem sok_all {l : List Wrd} (h : endO l = l.length) : sok l l.length = fok l := by
  have hv := (vis_all l).1
  rw [h] at hv
  rw [Bool.eq_iff_iff]
  unfold sok fok
  simp only [List.all_eq_true, List.mem_range]
  constructor
  · intro hs x hx w hw
    obtain ⟨i, h1, h2, h3, rfl⟩ := mem_flds hw
    have := hs i h3
    have hn : (heads l).getD i false = false := by
      unfold heads
      rw [hd_get _ _ _ h3, List.any_eq_false]
      intro y hy
      have := vis_apart hv x hx i h1 h2 y hy
      simpa using this
    rw [hn, Bool.false_or] at this
    exact this
  · intro hf i hi
    rcases vis_cover hv i (Nat.zero_le _) hi with ⟨x, hx, he⟩ | ⟨x, hx, h1, h2⟩
    · have : (heads l).getD i false = true := by
        unfold heads
        rw [hd_get _ _ _ hi, List.any_eq_true]
        exact ⟨x, hx, by simpa using he⟩
      rw [this]
      rfl
    · rw [hf x hx _ (flds_mem h1 h2 hi), Bool.or_true]
theorem sok_succ (l : List Wrd) (k : Nat) : sok l (k + 1) = (sok l k && ((heads l).getD k false || rgt (heads l) (l.getD k ⟨0, 0⟩))) := by
  unfold sok
  rw [List.range_succ, List.all_append]
  simp

end Go.Proofs.YtapamdjoipofmaaDoor
