/-
  A term with other names, in plain words.
-/
import Derived.Test.YtbdpnnfhkhkecaaGreatDoorUbZ8
import Derived.Test.YtbdpnnfhkhkecaaGreatDoorUbTmT
namespace Go.Proofs.YtbdpnnfhkhkecaaGreatDoor
open Go.RowKit
set_option linter.unusedVariables false
set_option linter.unusedSimpArgs false

abbrev Env := List (ByteArray × ByteArray)

/-- The new name of a number. -/
def nm (k : Int) : ByteArray := ⟨(97 :: Lib.itoa k).toArray⟩

/-- What a name is called; the innermost binder is the first. -/
def fnd : Env → ByteArray → ByteArray
  | [], s => s
  | (n, o) :: E, s => if n = s then o else fnd E s

/-- How many names a kind binds. -/
def ownN (k : Int) : Nat := if k = 4 ∨ k = 6 ∨ k = 7 ∨ k = 17 then 1 else if k = 14 then 2 else 0

/-- The names around the i-th part. -/
def bindE (k : Int) (s z s' z' : ByteArray) (i : Nat) (E : Env) : Env :=
  if k = 4 ∨ k = 7 ∨ (k = 6 ∧ i = 1) ∨ (k = 17 ∧ i = 1) then (s, s') :: E else if k = 14 ∧ i = 2 then (z, z') :: (s, s') :: E else E

/-- The first j parts, one after the other, and the counter behind them. -/
def renP (f : Tm → Int → Env → Tm × Int) (bi : Nat → Env) (ts : List Tm) (c : Int) : Nat → List Tm × Int
  | 0 => ([], c)
  | j + 1 => match ts[j]? with
    | some x => ((renP f bi ts c j).1 ++ [(f x (renP f bi ts c j).2 (bi j)).1], (f x (renP f bi ts c j).2 (bi j)).2)
    | none => renP f bi ts c j

def newS (k : Int) (s : ByteArray) (c : Int) : ByteArray := if 1 ≤ ownN k then nm (c + 1) else s
def newZ (k : Int) (z : ByteArray) (c : Int) : ByteArray := if 2 ≤ ownN k then nm (c + 2) else z

/-- The parts of a term, the counter being c ahead of it. -/
def renA (f : Tm → Int → Env → Tm × Int) (t : Tm) (c : Int) (E : Env) (j : Nat) : List Tm × Int :=
  renP f (fun i => bindE t.K t.S t.Z (newS t.K t.S c) (newZ t.K t.Z c) i E) t.A (c + ownN t.K) j

/-- A term with new names, and the counter behind it. -/
def renW : Nat → Tm → Int → Env → Tm × Int
  | 0, t, c, _ => (t, c)
  | l + 1, t, c, E =>
    if t.K = 3 then (⟨t.K, t.N, fnd E t.S, t.Z, t.T, t.Ts, t.A⟩, c)
    else (⟨t.K, t.N, newS t.K t.S c, newZ t.K t.Z c, t.T, t.Ts, (renA (renW l) t c E t.A.length).1⟩, (renA (renW l) t c E t.A.length).2)

theorem renP_succ (f : Tm → Int → Env → Tm × Int) (bi : Nat → Env) (ts : List Tm) (c : Int) (j : Nat) (hj : j < ts.length) :
    renP f bi ts c (j + 1) = ((renP f bi ts c j).1 ++ [(f ts[j] (renP f bi ts c j).2 (bi j)).1], (f ts[j] (renP f bi ts c j).2 (bi j)).2) := by
  simp only [renP, List.getElem?_eq_getElem hj]

theorem renP_len (f : Tm → Int → Env → Tm × Int) (bi : Nat → Env) (ts : List Tm) (c : Int) : ∀ j, j ≤ ts.length → (renP f bi ts c j).1.length = j := by
  intro j
  induction j with
  | zero => intro _; rfl
  | succ j ih => intro hj; rw [renP_succ f bi ts c j (by omega)]; simp [ih (by omega)]

theorem renP_get (f : Tm → Int → Env → Tm × Int) (bi : Nat → Env) (ts : List Tm) (c : Int) (i : Nat) (hi : i < ts.length) : ∀ j, i < j → j ≤ ts.length → (renP f bi ts c j).1[i]? = some (f ts[i] (renP f bi ts c i).2 (bi i)).1 := by
  intro j
  induction j with
  | zero => intro h; omega
  | succ j ih =>
    intro h1 h2
    rw [renP_succ f bi ts c j (by omega)]
    by_cases e : i = j
    · subst e
      have hl := renP_len f bi ts c i (by omega)
      show ((renP f bi ts c i).1 ++ _)[i]? = _
      rw [List.getElem?_append_right (by omega)]
      simp [hl]
    · show ((renP f bi ts c j).1 ++ _)[i]? = _
      have hl := renP_len f bi ts c j (by omega)
      rw [List.getElem?_append_left (by omega)]
      exact ih (by omega) (by omega)

theorem ownN_le (k : Int) : ownN k ≤ 2 := by unfold ownN; (repeat' split) <;> omega

theorem renW_cnt : ∀ (l : Nat) (t : Tm) (c : Int) (E : Env), (l = 0 → False) ∨ True → c ≤ (renW l t c E).2 ∧ (renW l t c E).2 ≤ c + 2 * (allW t).length := by
  intro l
  induction l with
  | zero => intro t c E _; simp only [renW]; omega
  | succ l ih =>
    intro t c E _
    have hA : 0 < (allW t).length := by rw [allW_eq]; simp
    simp only [renW]
    split
    · show c ≤ c ∧ c ≤ _; omega
    · show c ≤ (renA (renW l) t c E t.A.length).2 ∧ (renA (renW l) t c E t.A.length).2 ≤ _
      have key : ∀ j, j ≤ t.A.length → c + ownN t.K ≤ (renA (renW l) t c E j).2 ∧ (renA (renW l) t c E j).2 ≤ c + ownN t.K + 2 * (preW t j).length := by
        intro j
        induction j with
        | zero => intro _; show _ ≤ c + (ownN t.K : Int) ∧ c + (ownN t.K : Int) ≤ _; rw [preW_zero]; simp
        | succ j ihj =>
          intro hj
          have h1 := ihj (by omega)
          unfold renA at h1 ⊢
          rw [renP_succ _ _ _ _ j (by omega)]
          have h2 := ih t.A[j] (renP (renW l) (fun i => bindE t.K t.S t.Z (newS t.K t.S c) (newZ t.K t.Z c) i E) t.A (c + ownN t.K) j).2 (bindE t.K t.S t.Z (newS t.K t.S c) (newZ t.K t.Z c) j E) (Or.inr trivial)
          have h3 := congrArg List.length (preW_succ t j (by omega))
          rw [List.length_append] at h3
          show _ ≤ (renW l t.A[j] _ _).2 ∧ (renW l t.A[j] _ _).2 ≤ _
          omega
      have h1 := key t.A.length (Nat.le_refl _)
      have h2 := congrArg List.length (preW_all t t.A.length (Nat.le_refl _))
      rw [List.length_cons] at h2
      have h3 := ownN_le t.K
      omega

/-- The counter behind j parts. -/
theorem renA_cnt (l : Nat) (t : Tm) (c : Int) (E : Env) : ∀ j, j ≤ t.A.length → c + ownN t.K ≤ (renA (renW l) t c E j).2 ∧ (renA (renW l) t c E j).2 ≤ c + ownN t.K + 2 * (preW t j).length := by
  intro j
  induction j with
  | zero => intro _; show _ ≤ c + (ownN t.K : Int) ∧ c + (ownN t.K : Int) ≤ _; rw [preW_zero]; simp
  | succ j ihj =>
    intro hj
    have h1 := ihj (by omega)
    unfold renA at h1 ⊢
    rw [renP_succ _ _ _ _ j (by omega)]
    have h2 := renW_cnt l t.A[j] (renP (renW l) (fun i => bindE t.K t.S t.Z (newS t.K t.S c) (newZ t.K t.Z c) i E) t.A (c + ownN t.K) j).2 (bindE t.K t.S t.Z (newS t.K t.S c) (newZ t.K t.Z c) j E) (Or.inr trivial)
    have h3 := congrArg List.length (preW_succ t j (by omega))
    rw [List.length_append] at h3
    show _ ≤ (renW l t.A[j] _ _).2 ∧ (renW l t.A[j] _ _).2 ≤ _
    omega

/-- Each name that is read is bound around it. -/
def clE : Nat → Tm → Env → Prop
  | 0, _, _ => True
  | l + 1, t, E => (t.K = 3 → ∃ q ∈ E, q.1 = t.S) ∧ ∀ i (h : i < t.A.length) (s' z' : ByteArray), clE l t.A[i] (bindE t.K t.S t.Z s' z' i E)

theorem meetW_le (Bd Fr : List (List UInt8)) (x : List UInt8) : Fr.length ≤ (meetW Bd Fr x).length := by
  unfold meetW; split <;> simp
theorem freeF_le {f : Tm → List (List UInt8) → List (List UInt8) → List (List UInt8)} (hf : ∀ t Bd Fr, Fr.length ≤ (f t Bd Fr).length) (k : Int) (s z : List UInt8) : ∀ (ts : List Tm) (i : Nat) (Bd Fr : List (List UInt8)), Fr.length ≤ (freeF f k s z i ts Bd Fr).length := by
  intro ts
  induction ts with
  | nil => intro i Bd Fr; exact Nat.le_refl _
  | cons t ts ih => intro i Bd Fr; exact Nat.le_trans (hf t _ Fr) (ih (i + 1) Bd _)
theorem freeW_le : ∀ (l : Nat) (t : Tm) (Bd Fr : List (List UInt8)), Fr.length ≤ (freeW l t Bd Fr).length := by
  intro l
  induction l with
  | zero => intro t Bd Fr; exact Nat.le_refl _
  | succ l ih =>
    intro t Bd Fr
    refine Nat.le_trans ?_ (freeF_le ih t.K (bs t.S) (bs t.Z) t.A 0 Bd _)
    split
    · exact meetW_le _ _ _
    · exact Nat.le_refl _
theorem freeF_nil {f : Tm → List (List UInt8) → List (List UInt8) → List (List UInt8)} (hf : ∀ t Bd Fr, Fr.length ≤ (f t Bd Fr).length) (k : Int) (s z : List UInt8) : ∀ (ts : List Tm) (i : Nat) (Bd : List (List UInt8)), freeF f k s z i ts Bd [] = [] → ∀ j (hj : j < ts.length), f ts[j] (Bd ++ bindsW k s z (i + j)) [] = [] := by
  intro ts
  induction ts with
  | nil => intro i Bd _ j hj; simp at hj
  | cons t ts ih =>
    intro i Bd h j hj
    have h0 : f t (Bd ++ bindsW k s z i) [] = [] := by
      have h1 := freeF_le hf k s z ts (i + 1) Bd (f t (Bd ++ bindsW k s z i) [])
      have h2 : freeF f k s z (i + 1) ts Bd (f t (Bd ++ bindsW k s z i) []) = [] := h
      rw [h2] at h1
      exact List.length_eq_zero_iff.1 (by simpa using h1)
    cases j with
    | zero => exact h0
    | succ j =>
      have h2 : freeF f k s z (i + 1) ts Bd (f t (Bd ++ bindsW k s z i) []) = [] := h
      rw [h0] at h2
      have h3 := ih (i + 1) Bd h2 j (by simpa using hj)
      rw [show i + (j + 1) = i + 1 + j by omega]
      exact h3

theorem bs_inj {a b : ByteArray} (h : bs a = bs b) : a = b := by
  cases a; cases b
  simp only [bs] at h
  rw [ByteArray.mk.injEq]
  exact Array.toList_inj.1 h

theorem free_cl : ∀ (l : Nat) (t : Tm) (Bd : List (List UInt8)) (E : Env), freeW l t Bd [] = [] → (∀ x ∈ Bd, ∃ q ∈ E, bs q.1 = x) → clE l t E := by
  intro l
  induction l with
  | zero => intro t Bd E _ _; trivial
  | succ l ih =>
    intro t Bd E h hE
    have h' : freeF (freeW l) t.K (bs t.S) (bs t.Z) 0 t.A Bd (if t.K = 3 then meetW Bd [] (bs t.S) else []) = [] := h
    have hm : (if t.K = 3 then meetW Bd [] (bs t.S) else []) = ([] : List (List UInt8)) := by
      have h1 := freeF_le (freeW_le l) t.K (bs t.S) (bs t.Z) t.A 0 Bd (if t.K = 3 then meetW Bd [] (bs t.S) else [])
      rw [h'] at h1
      exact List.length_eq_zero_iff.1 (by simpa using h1)
    refine ⟨fun hk => ?_, fun i hi s' z' => ?_⟩
    · rw [if_pos hk] at hm
      have hmem : bs t.S ∈ Bd := by
        unfold meetW at hm
        split at hm
        · rename_i hc
          simp at hc
          exact hc
        · simp at hm
      obtain ⟨q, hq, e⟩ := hE _ hmem
      exact ⟨q, hq, bs_inj e⟩
    · rw [hm] at h'
      have h2 := freeF_nil (freeW_le l) t.K (bs t.S) (bs t.Z) t.A 0 Bd h' i hi
      refine ih _ _ _ h2 fun x hx => ?_
      rw [List.mem_append] at hx
      rw [Nat.zero_add] at hx
      unfold bindE
      unfold bindsW at hx
      by_cases c1 : t.K = 4 ∨ t.K = 7 ∨ (t.K = 6 ∧ i = 1) ∨ (t.K = 17 ∧ i = 1)
      · rw [if_pos c1] at hx ⊢
        rcases hx with hx | hx
        · obtain ⟨q, hq, e⟩ := hE x hx
          exact ⟨q, List.mem_cons_of_mem _ hq, e⟩
        · simp at hx
          exact ⟨(t.S, s'), by simp, hx.symm⟩
      · rw [if_neg c1] at hx ⊢
        by_cases c2 : t.K = 14 ∧ i = 2
        · rw [if_pos c2] at hx ⊢
          rcases hx with hx | hx
          · obtain ⟨q, hq, e⟩ := hE x hx
            exact ⟨q, List.mem_cons_of_mem _ (List.mem_cons_of_mem _ hq), e⟩
          · simp at hx
            rcases hx with hx | hx
            · exact ⟨(t.S, s'), by simp, hx.symm⟩
            · exact ⟨(t.Z, z'), by simp, hx.symm⟩
        · rw [if_neg c2] at hx ⊢
          rcases hx with hx | hx
          · exact hE x hx
          · simp at hx

/-- New names are short. -/
def EnvOk (E : Env) : Prop := ∀ q ∈ E, q.2.size ≤ 22
theorem nm_size (k : Int) (h0 : -1000000 ≤ k) (h1 : k ≤ 1000000) : (nm k).size ≤ 22 := by
  have h := Lib.itoa_length_le k (by omega) (by omega)
  have e : (nm k).size = (Lib.itoa k).length + 1 := by simp [nm, ByteArray.size]
  omega
theorem fnd_size {E : Env} (hE : EnvOk E) {s : ByteArray} (hs : s.size ≤ 22) : (fnd E s).size ≤ 22 := by
  induction E with
  | nil => exact hs
  | cons q E ih =>
    obtain ⟨n, o⟩ := q
    simp only [fnd]
    split
    · exact hE (n, o) (by simp)
    · exact ih fun q hq => hE q (List.mem_cons_of_mem _ hq)
theorem bindE_ok {k : Int} {s z s' z' : ByteArray} {i : Nat} {E : Env} (hE : EnvOk E) (h1 : s'.size ≤ 22) (h2 : z'.size ≤ 22) : EnvOk (bindE k s z s' z' i E) := by
  unfold bindE
  (repeat' split)
  · intro q hq
    rcases List.mem_cons.1 hq with rfl | hq
    · exact h1
    · exact hE q hq
  · intro q hq
    rcases List.mem_cons.1 hq with rfl | hq
    · exact h2
    rcases List.mem_cons.1 hq with rfl | hq
    · exact h1
    · exact hE q hq
  · exact hE

end Go.Proofs.YtbdpnnfhkhkecaaGreatDoor
