/-
  Plain: what 'Alloc' answers where an object can be laid is a right heap again.
-/
import Derived.Test.YtapamdjoipofmaaDoorFcdZ36
namespace Go.Proofs.YtapamdjoipofmaaDoor
open Go.RowKit
set_option linter.unusedVariables false
set_option linter.unusedSimpArgs false

theorem ob_more {l t : List Wrd} {a c : Nat} (h : ob l a = some c) : ob (l ++ t) a = some c := by
  obtain ⟨h1, h2, h3⟩ := ob_some h
  refine ob_mk (by rw [List.length_append]; omega) ?_ (by rw [List.length_append]; omega)
  rw [List.getElem_append_left h1]
  exact h2
theorem vis_more {l t : List Wrd} : ∀ {p : List (Nat × Nat)} {a b : Nat}, vis l a p b → vis (l ++ t) a p b
  | [], a, b, h => h
  | x :: xs, a, b, h => ⟨h.1, ob_more h.2.1, vis_more h.2.2⟩
theorem ob_behind {l f : List Wrd} {x : Wrd} (h : cntH x = some f.length) : ob (l ++ [x] ++ f) l.length = some f.length := by
  refine ob_mk (by simp) ?_ (by simp)
  rw [List.getElem_append_left (by simp), List.getElem_append_right (by omega)]
  simpa using h
theorem all_more {l f : List Wrd} {x : Wrd} (he : endO l = l.length) (h : cntH x = some f.length) : allO (l ++ [x] ++ f) = allO l ++ [(l.length, f.length)] ∧ endO (l ++ [x] ++ f) = l.length + f.length + 1 := by
  have h1 := (vis_all l).1
  rw [he] at h1
  have h2 : vis (l ++ [x] ++ f) 0 (allO l) l.length := by rw [List.append_assoc]; exact vis_more h1
  have h3 := vis_snoc h2 (ob_behind h)
  have h4 : ob (l ++ [x] ++ f) (l.length + f.length + 1) = none := ob_out (by simp; omega)
  obtain ⟨e1, e2⟩ := full_all h3 h4
  exact ⟨e1.symm, e2.symm⟩
theorem heads_more {l f : List Wrd} {x : Wrd} (he : endO l = l.length) (h : cntH x = some f.length) (i : Nat) (hi : i < l.length) (hh : (heads l).getD i false = true) : (heads (l ++ [x] ++ f)).getD i false = true := by
  unfold heads at hh ⊢
  rw [hd_get _ _ _ hi] at hh
  rw [hd_get _ _ _ (by simp; omega), (all_more he h).1, List.any_append, hh, Bool.true_or]
theorem rgt_more {l f : List Wrd} {x : Wrd} (he : endO l = l.length) (h : cntH x = some f.length) {y : Wrd} (hy : rgt (heads l) y = true) : rgt (heads (l ++ [x] ++ f)) y = true := by
  unfold rgt at hy ⊢
  split
  · rename_i h1
    rw [if_pos h1] at hy
    exact hy
  · rename_i h1
    rw [if_neg h1] at hy
    split
    · rename_i h2
      rw [if_pos h2] at hy
      exact hy
    · rename_i h2
      rw [if_neg h2] at hy
      split
      · rename_i h3
        rw [if_pos h3] at hy
        exact hy
      · rename_i h3
        rw [if_neg h3] at hy
        split
        · rename_i h4
          rw [if_pos h4] at hy
          simp only [Bool.and_eq_true, decide_eq_true_eq, heads_len] at hy ⊢
          obtain ⟨⟨k1, k2⟩, k3⟩ := hy
          exact ⟨⟨k1, by simp; omega⟩, heads_more he h _ (by omega) k3⟩
        · rename_i h4
          rw [if_neg h4] at hy
          exact hy
theorem flds_more {l t : List Wrd} {x : Nat × Nat} (h : x.1 + x.2 < l.length) : flds (l ++ t) x = flds l x := by
  apply List.ext_getElem?
  intro j
  rw [flds_get, flds_get]
  split
  · rw [List.getElem?_append_left (by omega)]
  · rfl
theorem flds_behind {l f : List Wrd} {x : Wrd} : flds (l ++ [x] ++ f) (l.length, f.length) = f := by
  apply List.ext_getElem?
  intro j
  rw [flds_get]
  split
  · rename_i hj
    rw [List.getElem?_append_right (by simp)]
    congr 1
    simp
  · rename_i hj
    rw [List.getElem?_eq_none (by simpa using hj)]
theorem fok_more {l f : List Wrd} {x : Wrd} (he : endO l = l.length) (h : cntH x = some f.length) (h1 : fok l = true) (h2 : f.all (rgt (heads l)) = true) : fok (l ++ [x] ++ f) = true := by
  unfold fok at h1 ⊢
  rw [(all_more he h).1]
  rw [List.all_eq_true] at h1 h2 ⊢
  intro y hy
  rw [List.all_eq_true]
  intro z hz
  rcases List.mem_append.1 hy with hy | hy
  · have hb := (vis_bound (vis_all l).1 y hy).2.1
    rw [he] at hb
    rw [List.append_assoc, flds_more hb] at hz
    have := h1 y hy
    rw [List.all_eq_true] at this
    exact rgt_more he h (this z hz)
  · rw [List.mem_singleton] at hy
    subst hy
    rw [flds_behind] at hz
    exact rgt_more he h (h2 z hz)
theorem ok_alloc {s : Int} {l f : List Wrd} {x : Wrd} (h : alB s l x f = true) : okH s l = true ∧ okH s (l ++ [x] ++ f) = true := by
  unfold alB at h
  simp only [Bool.and_eq_true, decide_eq_true_eq] at h
  obtain ⟨h1, h2, h3, h4⟩ := h
  refine ⟨h1, ?_⟩
  unfold okH wok at h1 ⊢
  simp only [Bool.and_eq_true, decide_eq_true_eq] at h1 ⊢
  obtain ⟨⟨q1, q2⟩, q3, q4⟩ := h1
  refine ⟨⟨q1, by simp; omega⟩, ?_, fok_more q3 h2 q4 h3⟩
  rw [(all_more q3 h2).2]
  simp
  omega

end Go.Proofs.YtapamdjoipofmaaDoor

/-
  Plain: an empty heap is right; a field that is set to a right word leaves a heap right.
-/
namespace Go.Proofs.YtapamdjoipofmaaDoor
open Go.RowKit
set_option linter.unusedVariables false
set_option linter.unusedSimpArgs false

theorem ok_nil {s : Int} (h : sizeB s = true) : okH s [] = true := by
  have h' := h
  unfold sizeB at h'
  simp only [Bool.and_eq_true, decide_eq_true_eq] at h'
  unfold okH wok
  rw [h]
  have e : allO ([] : List Wrd) = [] := rfl
  have e2 : endO ([] : List Wrd) = 0 := rfl
  simp [fok, e, e2]
  omega
theorem vis_set {l l' : List Wrd} : ∀ {p : List (Nat × Nat)} {a b : Nat}, vis l a p b → (∀ x ∈ p, ob l' x.1 = ob l x.1) → vis l' a p b
  | [], a, b, h, _ => h
  | x :: xs, a, b, h, hp => ⟨h.1, by have := hp x List.mem_cons_self; rw [h.1] at this; rw [this]; exact h.2.1, vis_set h.2.2 (fun y hy => hp y (List.mem_cons_of_mem _ hy))⟩
theorem ok_set {s : Int} {l : List Wrd} (h : okH s l = true) {i : Nat} (hi : i < l.length) (hh : (heads l).getD i false = false) {y : Wrd} (hy : rgt (heads l) y = true) : okH s (l.set i y) = true ∧ heads (l.set i y) = heads l := by
  have h' := h
  unfold okH wok at h'
  simp only [Bool.and_eq_true, decide_eq_true_eq] at h'
  obtain ⟨⟨q1, q2⟩, q3, q4⟩ := h'
  have hne : ∀ x ∈ allO l, x.1 ≠ i := by
    intro x hx e
    unfold heads at hh
    rw [hd_get _ _ _ hi, List.any_eq_false] at hh
    exact hh x hx (by simp [e])
  have hob : ∀ x ∈ allO l, ob (l.set i y) x.1 = ob l x.1 := by
    intro x hx
    unfold ob
    rw [List.getElem?_set_ne (fun e => hne x hx e.symm), List.length_set]
  have hv := vis_set (vis_all l).1 hob
  rw [q3] at hv
  obtain ⟨e1, e2⟩ := full_all hv (ob_out (by rw [List.length_set]; exact Nat.le_refl _))
  have eh : heads (l.set i y) = heads l := by
    unfold heads
    rw [← e1]
    unfold hd
    rw [List.length_set]
  refine ⟨?_, eh⟩
  unfold okH wok
  simp only [Bool.and_eq_true, decide_eq_true_eq]
  refine ⟨⟨q1, by rw [List.length_set]; exact q2⟩, by rw [← e2, List.length_set], ?_⟩
  unfold fok at q4 ⊢
  rw [← e1, eh]
  rw [List.all_eq_true] at q4 ⊢
  intro x hx
  have h4 := q4 x hx
  rw [List.all_eq_true] at h4 ⊢
  intro z hz
  obtain ⟨j, hj⟩ := List.mem_iff_getElem?.1 hz
  rw [flds_get] at hj
  split at hj
  · rename_i hjc
    by_cases e : x.1 + 1 + j = i
    · rw [e, List.getElem?_set_self hi] at hj
      injection hj with hj
      rw [← hj]
      exact hy
    · rw [List.getElem?_set_ne (fun q => e q.symm)] at hj
      exact h4 z (List.mem_iff_getElem?.2 ⟨j, by rw [flds_get, if_pos hjc]; exact hj⟩)
  · cases hj

end Go.Proofs.YtapamdjoipofmaaDoor
