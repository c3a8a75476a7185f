/-
  Objects one behind the other, their fields moved: plain values. No walk, no statement.
-/
import Derived.Test.YtapamdjoipofmaaDoorFcdCl0
import Derived.Test.YtapamdjoipofmaaDoorFcdHp
import Derived.Test.YtapamdjoipofmaaDoorFcdOi2
import Derived.Test.YtapamdjoipofmaaDoorFcdZ18
namespace Go.Proofs.YtapamdjoipofmaaDoor
open Go.RowKit Go.Shelf
set_option linter.unusedVariables false
set_option linter.unusedSimpArgs false

theorem ob_app {l1 l2 : List Wrd} {a c : Nat} (h : ob l1 a = some c) : ob (l1 ++ l2) a = some c := by
  obtain ⟨h1, h2, h3⟩ := ob_some h
  refine ob_mk (by rw [List.length_append]; omega) ?_ (by rw [List.length_append]; omega)
  rw [List.getElem_append_left h1]
  exact h2
theorem vis_app {l1 l2 : List Wrd} : ∀ {p : List (Nat × Nat)} {a b : Nat}, vis l1 a p b → vis (l1 ++ l2) a p b
  | [], _, _, h => h
  | x :: p, a, b, h => ⟨h.1, ob_app h.2.1, vis_app h.2.2⟩
theorem vis_raw {l : List Wrd} : ∀ {ps : List Nat}, (∀ p ∈ ps, ∃ c, ob l p = some c) → ∃ q, vis (rawC l ps) 0 q (rawC l ps).length := by
  intro ps
  induction hn : ps.length generalizing ps with
  | zero =>
    intro _
    rw [List.length_eq_zero_iff.1 hn]
    exact ⟨[], rfl⟩
  | succ n ih =>
    intro hob
    obtain ⟨qs, q, rfl⟩ : ∃ qs q, ps = qs ++ [q] := ⟨ps.dropLast, ps.getLast (by intro e; rw [e] at hn; cases hn), (List.dropLast_concat_getLast _).symm⟩
    obtain ⟨p, hp⟩ := ih (by simpa using hn) (fun x hx => hob x (List.mem_append_left _ hx))
    obtain ⟨c, hc⟩ := hob q (by simp)
    have e : rawC l (qs ++ [q]) = rawC l qs ++ objW l q := by rw [rawC_app]; simp [rawC]
    have hlen := objW_len hc
    obtain ⟨ha, hcx, _⟩ := ob_some hc
    have h0 := objW_get hc (Nat.zero_le c)
    rw [Nat.add_zero, List.getElem?_eq_getElem ha] at h0
    have hnew : ob (rawC l qs ++ objW l q) (rawC l qs).length = some c := by
      refine ob_mk (by rw [List.length_append]; omega) ?_ (by rw [List.length_append]; omega)
      rw [List.getElem_append_right (Nat.le_refl _)]
      simp only [Nat.sub_self]
      rw [(List.getElem?_eq_some_iff.1 h0).2]
      exact hcx
    refine ⟨p ++ [((rawC l qs).length, c)], ?_⟩
    have := vis_snoc (vis_app (l2 := objW l q) hp) hnew
    rw [e, List.length_append, hlen]
    exact this
theorem endO_raw {l : List Wrd} {ps : List Nat} (h : ∀ p ∈ ps, ∃ c, ob l p = some c) : endO (rawC l ps) = (rawC l ps).length := by
  obtain ⟨q, hq⟩ := vis_raw h
  exact (full_all hq (ob_out (Nat.le_refl _))).2.symm
/-- An object more. -/
theorem mvR_step {P : List Int} {R : List Wrd} {a c : Nat} (h : ob R a = some c) : mvR P (mvR P R 0 a) (a + 1) c = mvR P R 0 (a + c + 1) := by
  obtain ⟨ha, hcx, _⟩ := ob_some h
  have hk := head_no hcx
  apply List.ext_getElem?
  intro i
  cases hx : R[i]? with
  | none =>
    have := List.getElem?_eq_none_iff.1 hx
    rw [List.getElem?_eq_none (by rw [mvR_len, mvR_len]; exact this), List.getElem?_eq_none (by rw [mvR_len]; exact this)]
  | some x =>
    rw [mvR_get P _ (a + 1) c (mvR_get P R 0 a hx), mvR_get P R 0 (a + c + 1) hx]
    by_cases h1 : i < a
    · rw [if_neg (by omega), if_pos (by omega), if_pos (by omega)]
    · by_cases h2 : i = a
      · subst h2
        rw [List.getElem?_eq_getElem ha] at hx
        injection hx with hx
        have e : mvP P x = x := by unfold mvP; rw [← hx, if_neg hk]
        rw [if_neg (by omega), if_neg (by omega), if_pos (by omega), e]
      · by_cases h3 : i < a + c + 1
        · rw [if_pos (by omega), if_neg (by omega), if_pos (by omega)]
        · rw [if_neg (by omega), if_neg (by omega), if_neg (by omega)]
theorem mvR_all (P : List Int) (R : List Wrd) : mvR P R 0 R.length = R.map (mvP P) := by
  apply List.ext_getElem?
  intro i
  rw [List.getElem?_map]
  cases hx : R[i]? with
  | none =>
    have := List.getElem?_eq_none_iff.1 hx
    rw [List.getElem?_eq_none (by rw [mvR_len]; exact this)]
    rfl
  | some x =>
    have := (List.getElem?_eq_some_iff.1 hx).1
    rw [mvR_get P R 0 _ hx, if_pos (by omega)]
    rfl
theorem cnt_mvP (P : List Int) (x : Wrd) : cntH (mvP P x) = cntH x := by
  unfold mvP
  split
  · rename_i h
    unfold cntH
    rw [h]
    simp
  · rfl
theorem sam_mvR (P : List Int) (R : List Wrd) (a m : Nat) : Sam (mvR P R a m) R := by
  unfold Sam
  apply List.ext_getElem?
  intro i
  rw [List.getElem?_map, List.getElem?_map]
  cases hx : R[i]? with
  | none =>
    have := List.getElem?_eq_none_iff.1 hx
    rw [List.getElem?_eq_none (by rw [mvR_len]; exact this)]
  | some x =>
    rw [mvR_get P R a m hx]
    simp only [Option.map_some]
    split
    · rw [cnt_mvP]
    · rfl
theorem vis_at {l : List Wrd} {p : List (Nat × Nat)} {x : Nat × Nat} (h : p ++ [x] <+: allO l) : x.1 = endP p := by
  obtain ⟨t, ht⟩ := h
  have hv := (vis_all l).1
  rw [← ht, List.append_assoc] at hv
  have key : ∀ (p : List (Nat × Nat)) (a b : Nat) (q : List (Nat × Nat)), vis l a (p ++ x :: q) b → x.1 = if p = [] then a else endP p := by
    intro p
    induction p with
    | nil => intro a b q h; exact h.1
    | cons y p ih =>
      intro a b q h
      have h2 := ih _ _ _ h.2.2
      rw [if_neg (by simp)]
      by_cases hp : p = []
      · subst hp
        rw [if_pos rfl] at h2
        have h1 := h.1
        rw [h2]
        simp [endP]
        omega
      · rw [if_neg hp] at h2
        rw [h2]
        cases p with
        | nil => exact absurd rfl hp
        | cons z zs => simp [endP]
  have := key p 0 _ t hv
  by_cases hp : p = []
  · subst hp
    rw [if_pos rfl] at this
    rw [this]
    rfl
  · rw [if_neg hp] at this
    exact this

end Go.Proofs.YtapamdjoipofmaaDoor

/-
  What the words that are kept name: plain values. No walk, no statement.
-/
namespace Go.Proofs.YtapamdjoipofmaaDoor
open Go.RowKit Go.Shelf
set_option linter.unusedVariables false
set_option linter.unusedSimpArgs false

theorem raw_lt {s : Int} {l : List Wrd} (hok : okH s l = true) {ps : List Nat} (hP : PL l ps) {x : Wrd} (hx : x ∈ rawC l ps) (hk : x.K = 4) : ∃ b : Nat, x.N = (b : Int) ∧ b < l.length := by
  obtain ⟨p, hp, hxo⟩ := List.mem_flatMap.1 hx
  obtain ⟨c, hpc, hc⟩ := hP.2 p hp
  obtain ⟨i, hi⟩ := List.mem_iff_getElem?.1 hxo
  have hil := (List.getElem?_eq_some_iff.1 hi).1
  rw [objW_len hc] at hil
  rw [objW_get hc (by omega)] at hi
  by_cases h0 : i = 0
  · subst h0
    obtain ⟨ha, hcx, _⟩ := ob_some hc
    rw [Nat.add_zero, List.getElem?_eq_getElem ha] at hi
    injection hi with hi
    exact absurd (by rw [hi]; exact hk) (head_no hcx)
  · have hf : (flds l (p, c))[i - 1]? = some x := by
      rw [flds_get, if_pos (by simp; omega), show p + 1 + (i - 1) = p + i by omega]
      exact hi
    obtain ⟨a, c', hN, _, hob⟩ := okH_flds hok hpc x (List.mem_of_getElem? hf) hk
    exact ⟨a, hN, (ob_some hob).1⟩
theorem lb_all {s : Int} {l roots : List Wrd} (hok : okH s l = true) {nx : Nat} {ps : List Nat} {p c t : Nat} : ∀ (m q : Nat) (qs : List Nat), c + 1 - q = m → Lb l roots nx ps p c t q qs → ∃ qs', Lb l roots nx ps p c t (c + 1) qs'
  | 0, q, qs, hm, h => by
    have h1 := h.le
    obtain rfl : q = c + 1 := by omega
    exact ⟨qs, h⟩
  | m + 1, q, qs, hm, h => by
    obtain ⟨x, _, _, h2, _⟩ := h.next hok (by omega)
    exact lb_all hok m (q + 1) _ (by omega) h2
theorem way_dn {s : Int} {l roots : List Wrd} (hok : okH s l = true) : ∀ (m nx : Nat) (ps : List Nat) (t : Nat), l.length - nx = m → Way l roots nx ps → t = wrds l (ps.take nx) → Dn l ps t → Dn l (plc l roots) (wrds l (plc l roots)) := by
  intro m
  induction m with
  | zero =>
    intro nx ps t hm hW ht hd
    have h1 := hW.1.len
    have h2 := hW.2.1
    have hnone : ps[nx]? = none := List.getElem?_eq_none (by omega)
    rw [List.take_of_length_le (by omega)] at ht
    rw [← hW.done hnone, ← ht]
    exact hd
  | succ m ih =>
    intro nx ps t hm hW ht hd
    cases hp : ps[nx]? with
    | none =>
      have h1 := List.getElem?_eq_none_iff.1 hp
      rw [List.take_of_length_le h1] at ht
      rw [← hW.done hp, ← ht]
      exact hd
    | some p =>
      obtain ⟨c, _, hc⟩ := hW.1.2 _ (List.mem_of_getElem? hp)
      obtain ⟨qs, hq⟩ := lb_all hok _ 1 ps rfl (Lb.start hW ht hp hc hd).1
      obtain ⟨h1, h2⟩ := hq.done hok
      exact ih (nx + 1) qs (t + c + 1) (by omega) h1 h2 hq.dn
theorem plc_dn {s : Int} {l roots : List Wrd} (hok : okH s l = true) (hrw : ∀ x ∈ roots, RW l x) : Dn l (plc l roots) (wrds l (plc l roots)) :=
  way_dn hok _ 0 (meetL [] roots) 0 rfl (Way.start hrw) rfl (fun i x hi => absurd hi (Nat.not_lt_zero _))
theorem raw_in {s : Int} {l roots : List Wrd} (hok : okH s l = true) (hrw : ∀ x ∈ roots, RW l x) {x : Wrd} (hx : x ∈ rawC l (plc l roots)) (hk : x.K = 4) : x.N.toNat ∈ plc l roots := by
  obtain ⟨i, hi⟩ := List.mem_iff_getElem?.1 hx
  have hlt := (List.getElem?_eq_some_iff.1 hi).1
  have hPL : PL l (plc l roots) := bfs_PL hok _ _ _ (Way.start hrw).1
  rw [rawC_len hPL.ob] at hlt
  exact plc_dn hok hrw i x hlt hi hk
theorem root_in {l roots : List Wrd} {x : Wrd} (hx : x ∈ roots) (hk : x.K = 4) : x.N.toNat ∈ plc l roots := by
  have h1 : x.N.toNat ∈ meetL [] roots := by
    have key : ∀ (ws : List Wrd) (ps : List Nat), x ∈ ws → x.N.toNat ∈ meetL ps ws := by
      intro ws
      induction ws with
      | nil => intro ps hz; cases hz
      | cons y ws ih =>
        intro ps hz
        rcases List.mem_cons.1 hz with rfl | hz
        · exact (meetL_pre ws (meet1 ps x)).subset (meet1_mem ps x hk)
        · exact ih _ hz
    exact key roots [] hx
  exact (bfs_pre l _ _ _).subset h1

end Go.Proofs.YtapamdjoipofmaaDoor
