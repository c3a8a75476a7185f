/-
  A collection, as plain values: offsets, moved words. No walk, no statement.
-/
import Derived.Test.YtapamdjoipofmaaDoorFcdZ11
namespace Go.Proofs.YtapamdjoipofmaaDoor
open Go.RowKit
set_option linter.unusedVariables false
set_option linter.unusedSimpArgs false

/-- Where the object of a place lies behind a collection. -/
def offN (l : List Wrd) (ps : List Nat) (a : Nat) : Nat := wrds l (ps.take (ps.idxOf a))
def toL (len : Nat) (l : List Wrd) (ps : List Nat) : List Int := (List.range len).map fun i => if i ∈ ps then (offN l ps i : Int) else -1
def mvW (l : List Wrd) (ps : List Nat) (x : Wrd) : Wrd := if x.K = 4 then ⟨4, (offN l ps x.N.toNat : Int)⟩ else x
def objW (l : List Wrd) (a : Nat) : List Wrd := (l.drop a).take ((ob l a).getD 0 + 1)
def rawC (l : List Wrd) (ps : List Nat) : List Wrd := ps.flatMap (objW l)
/-- The new words, the first t of them moved. -/
def stC (l : List Wrd) (ps : List Nat) (t : Nat) : List Wrd := ((rawC l ps).take t).map (mvW l ps) ++ (rawC l ps).drop t

theorem wrds_app (l : List Wrd) (a b : List Nat) : wrds l (a ++ b) = wrds l a + wrds l b := by simp [wrds]
theorem wrds_take_le (l : List Wrd) (ps : List Nat) (i : Nat) : wrds l (ps.take i) ≤ wrds l ps := by
  have := congrArg (wrds l) (List.take_append_drop i ps)
  rw [wrds_app] at this
  omega
theorem offN_le (l : List Wrd) (ps : List Nat) (a : Nat) : offN l ps a ≤ wrds l ps := wrds_take_le _ _ _
theorem offN_old {l : List Wrd} {ps qs : List Nat} {a : Nat} (h : a ∈ ps) : offN l (ps ++ qs) a = offN l ps a := by
  unfold offN
  rw [List.idxOf_append, if_pos h, List.take_append_of_le_length (Nat.le_of_lt (List.idxOf_lt_length_iff.2 h))]
theorem offN_new {l : List Wrd} {ps : List Nat} {a : Nat} (h : a ∉ ps) : offN l (ps ++ [a]) a = wrds l ps := by
  unfold offN
  rw [List.idxOf_append, if_neg h]
  simp
theorem toL_len (len : Nat) (l : List Wrd) (ps : List Nat) : (toL len l ps).length = len := by simp [toL]
theorem toL_get {len : Nat} {l : List Wrd} {ps : List Nat} {a : Nat} (h : a < (toL len l ps).length) : (toL len l ps)[a] = if a ∈ ps then (offN l ps a : Int) else -1 := by simp [toL]
theorem toL_nil (len : Nat) (l : List Wrd) : toL len l [] = List.replicate len (-1) := by
  apply List.ext_getElem
  · simp [toL]
  · intro i h1 h2
    simp [toL]
theorem toL_set {len : Nat} {l : List Wrd} {ps : List Nat} {a : Nat} (h : a ∉ ps) : toL len l (ps ++ [a]) = (toL len l ps).set a (wrds l ps : Int) := by
  apply List.ext_getElem
  · simp [toL]
  · intro i h1 h2
    rw [List.getElem_set]
    simp only [toL, List.getElem_map, List.getElem_range, List.mem_append, List.mem_singleton]
    by_cases e : a = i
    · subst e
      simp [offN_new h]
    · rw [if_neg e]
      have e' : ¬ i = a := fun x => e x.symm
      by_cases hi : i ∈ ps
      · simp [hi, offN_old hi]
      · simp [hi, e']
theorem objW_len {l : List Wrd} {a c : Nat} (h : ob l a = some c) : (objW l a).length = c + 1 := by
  obtain ⟨h1, _, h2⟩ := ob_some h
  unfold objW
  rw [h]
  simp
  omega
theorem objW_get {l : List Wrd} {a c k : Nat} (h : ob l a = some c) (hk : k ≤ c) : (objW l a)[k]? = l[a + k]? := by
  unfold objW
  rw [h, List.getElem?_take, if_pos (by simp; omega), List.getElem?_drop]
theorem rawC_len {l : List Wrd} : ∀ {ps : List Nat}, (∀ p ∈ ps, ∃ c, ob l p = some c) → (rawC l ps).length = wrds l ps
  | [], _ => rfl
  | p :: ps, h => by
    obtain ⟨c, hc⟩ := h p List.mem_cons_self
    have h2 := rawC_len (l := l) (ps := ps) (fun q hq => h q (List.mem_cons_of_mem _ hq))
    simp only [rawC, wrds, List.flatMap_cons, List.length_append, List.map_cons, List.sum_cons] at *
    rw [h2, objW_len hc, hc]
    rfl
theorem PL.ob {l : List Wrd} {ps : List Nat} (h : PL l ps) : ∀ p ∈ ps, ∃ c, ob l p = some c := fun p hp => by obtain ⟨c, _, h2⟩ := h.2 p hp; exact ⟨c, h2⟩
theorem rawC_app (l : List Wrd) (a b : List Nat) : rawC l (a ++ b) = rawC l a ++ rawC l b := by simp [rawC]
theorem raw_at {l : List Wrd} {ps : List Nat} (hP : PL l ps) {nx p c k : Nat} (hp : ps[nx]? = some p) (hc : Go.Proofs.YtapamdjoipofmaaDoor.ob l p = some c) (hk : k ≤ c) : (rawC l ps)[wrds l (ps.take nx) + k]? = l[p + k]? := by
  have hlt := (List.getElem?_eq_some_iff.1 hp).1
  have e : ps = ps.take nx ++ p :: ps.drop (nx + 1) := by
    have h1 := List.take_append_drop nx ps
    rw [List.drop_eq_getElem_cons hlt, (List.getElem?_eq_some_iff.1 hp).2] at h1
    exact h1.symm
  have hl : (rawC l (ps.take nx)).length = wrds l (ps.take nx) := rawC_len (fun q hq => hP.ob q (List.mem_of_mem_take hq))
  have e2 : rawC l ps = rawC l (ps.take nx) ++ (objW l p ++ rawC l (ps.drop (nx + 1))) := by
    rw [← show rawC l (p :: ps.drop (nx + 1)) = objW l p ++ rawC l (ps.drop (nx + 1)) from rfl, ← rawC_app, ← e]
  rw [e2, List.getElem?_append_right (by omega), hl, Nat.add_sub_cancel_left, List.getElem?_append_left (by rw [objW_len hc]; omega), objW_get hc hk]
theorem wrds_next {l : List Wrd} {ps : List Nat} {nx p c : Nat} (hp : ps[nx]? = some p) (hc : ob l p = some c) : wrds l (ps.take (nx + 1)) = wrds l (ps.take nx) + c + 1 := by
  rw [List.take_add_one, hp, wrds_app]
  simp [wrds, hc]
  omega

/-- The first t words name places that are met. -/
def Dn (l : List Wrd) (ps : List Nat) (t : Nat) : Prop := ∀ i x, i < t → (rawC l ps)[i]? = some x → x.K = 4 → x.N.toNat ∈ ps
theorem meet1_cases (ps : List Nat) (x : Wrd) : (x.K = 4 ∧ x.N.toNat ∉ ps ∧ meet1 ps x = ps ++ [x.N.toNat]) ∨ (¬ (x.K = 4 ∧ x.N.toNat ∉ ps) ∧ meet1 ps x = ps) := by
  unfold meet1
  split
  · rename_i h; exact Or.inl ⟨h.1, h.2, rfl⟩
  · rename_i h; exact Or.inr ⟨h, rfl⟩
theorem meet1_mem (ps : List Nat) (x : Wrd) (h : x.K = 4) : x.N.toNat ∈ meet1 ps x := by
  rcases meet1_cases ps x with ⟨_, _, e⟩ | ⟨h2, e⟩
  · rw [e]; simp
  · rw [e]
    exact Decidable.byContradiction fun h3 => h2 ⟨h, h3⟩
/-- What a word adds. -/
def newO (l : List Wrd) (ps : List Nat) (x : Wrd) : List Wrd := if x.K = 4 ∧ x.N.toNat ∉ ps then objW l x.N.toNat else []
theorem raw_meet (l : List Wrd) (ps : List Nat) (x : Wrd) : rawC l (meet1 ps x) = rawC l ps ++ newO l ps x := by
  unfold meet1 newO
  split
  · rw [rawC_app]; simp [rawC]
  · simp
theorem Dn.meet {l : List Wrd} {ps : List Nat} {t : Nat} (h : Dn l ps t) (ht : t ≤ (rawC l ps).length) (x : Wrd) : Dn l (meet1 ps x) t := by
  intro i z hi hz hk
  rw [raw_meet, List.getElem?_append_left (by omega)] at hz
  exact (meet1_pre ps x).subset (h i z hi hz hk)
theorem stC_meet {l : List Wrd} {ps : List Nat} {t : Nat} (h : Dn l ps t) (ht : t ≤ (rawC l ps).length) (x : Wrd) : stC l (meet1 ps x) t = stC l ps t ++ newO l ps x := by
  unfold stC
  rw [raw_meet, List.take_append_of_le_length ht, List.drop_append_of_le_length ht, ← List.append_assoc]
  congr 2
  apply List.map_congr_left
  intro z hz
  obtain ⟨i, hi⟩ := List.mem_iff_getElem?.1 hz
  rw [List.getElem?_take] at hi
  split at hi
  · rename_i hit
    unfold mvW
    by_cases hk : z.K = 4
    · rw [if_pos hk, if_pos hk]
      rcases meet1_cases ps x with ⟨_, _, e⟩ | ⟨_, e⟩
      · rw [e, offN_old (h i z hit hi hk)]
      · rw [e]
    · rw [if_neg hk, if_neg hk]
  · cases hi
theorem stC_len (l : List Wrd) (ps : List Nat) (t : Nat) : (stC l ps t).length = (rawC l ps).length := by
  unfold stC
  rw [List.length_append, List.length_map, List.length_take, List.length_drop]
  omega
theorem stC_raw {l : List Wrd} {ps : List Nat} {t i : Nat} (hi : t ≤ i) : (stC l ps t)[i]? = (rawC l ps)[i]? := by
  unfold stC
  by_cases ht : t ≤ (rawC l ps).length
  · rw [List.getElem?_append_right (by rw [List.length_map, List.length_take]; omega), List.length_map, List.length_take, List.getElem?_drop]
    congr 1
    omega
  · rw [List.getElem?_eq_none (by rw [List.length_append, List.length_map, List.length_take, List.length_drop]; omega), List.getElem?_eq_none (by omega)]
theorem stC_set {l : List Wrd} {ps : List Nat} {t : Nat} {x : Wrd} (hx : (rawC l ps)[t]? = some x) : stC l ps (t + 1) = (stC l ps t).set t (mvW l ps x) := by
  have hlt := (List.getElem?_eq_some_iff.1 hx).1
  have hlen : (((rawC l ps).take t).map (mvW l ps)).length = t := by rw [List.length_map, List.length_take]; omega
  unfold stC
  rw [List.set_append_right _ _ (by omega), hlen, Nat.sub_self, List.take_add_one, hx]
  simp
  rw [List.drop_eq_getElem_cons hlt]
  rfl
theorem stC_skip {l : List Wrd} {ps : List Nat} {t : Nat} {x : Wrd} (hx : (rawC l ps)[t]? = some x) (hk : x.K ≠ 4) : stC l ps (t + 1) = stC l ps t := by
  rw [stC_set hx]
  have hm : mvW l ps x = x := by unfold mvW; rw [if_neg hk]
  rw [hm]
  have h2 : (stC l ps t)[t]? = some x := (stC_raw (Nat.le_refl _)).trans hx
  apply List.ext_getElem?
  intro i
  rw [List.getElem?_set]
  split
  · rename_i e
    subst e
    have := (List.getElem?_eq_some_iff.1 h2).1
    rw [if_pos this, h2]
  · rfl
theorem Dn.next {l : List Wrd} {ps : List Nat} {t : Nat} {x : Wrd} (h : Dn l ps t) (hx : (rawC l ps)[t]? = some x) (hm : x.K = 4 → x.N.toNat ∈ ps) : Dn l ps (t + 1) := by
  intro i z hi hz hk
  by_cases e : i = t
  · subst e
    rw [hx] at hz
    injection hz with hz
    subst hz
    exact hm hk
  · exact h i z (by omega) hz hk
theorem wrds_meet {l : List Wrd} {ps : List Nat} (hP : PL l ps) {x : Wrd} (hx : RW l x) : wrds l (meet1 ps x) = wrds l ps + (newO l ps x).length := by
  rw [← rawC_len (hP.meet1 hx).ob, raw_meet, List.length_append, rawC_len hP.ob]
theorem wrds_bound {l : List Wrd} {ps : List Nat} (hP : PL l ps) : wrds l ps ≤ 100 * l.length := by
  have h1 := hP.len
  have h2 : ∀ qs : List Nat, wrds l qs ≤ 100 * qs.length := by
    intro qs
    induction qs with
    | nil => exact Nat.zero_le _
    | cons q qs ih =>
      have : (ob l q).getD 0 ≤ 99 := by
        cases hq : ob l q with
        | none => simp
        | some c => have := cntH_le (ob_some hq).2.1; simpa using this
      simp only [wrds, List.map_cons, List.sum_cons, List.length_cons] at *
      omega
  have := h2 ps
  omega

end Go.Proofs.YtapamdjoipofmaaDoor
