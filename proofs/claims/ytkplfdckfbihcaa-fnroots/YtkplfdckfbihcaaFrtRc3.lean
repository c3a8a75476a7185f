/-
  A collection's two loops, as plain values. No walk, no statement.
-/
import Derived.Test.YtkplfdckfbihcaaFrtRc2
namespace Go.Proofs.Ytkplfdckfbihcaa
open Go.RowKit
set_option linter.unusedVariables false
set_option linter.unusedSimpArgs false

theorem meetL_take_succ {ps : List Nat} {ws : List Wrd} {k : Nat} (hk : k < ws.length) : meetL ps (ws.take (k + 1)) = meet1 (meetL ps (ws.take k)) ws[k] := by
  rw [List.take_succ_eq_append_getElem hk, meetL_snoc]
theorem pre_get {ps qs : List Nat} (h : ps <+: qs) {i p : Nat} (hp : ps[i]? = some p) : qs[i]? = some p := by
  obtain ⟨t, rfl⟩ := h
  rw [List.getElem?_append_left (List.getElem?_eq_some_iff.1 hp).1]
  exact hp
theorem pre_take {ps qs : List Nat} (h : ps <+: qs) {i : Nat} (hi : i ≤ ps.length) : qs.take i = ps.take i := by
  obtain ⟨t, rfl⟩ := h
  exact List.take_append_of_le_length hi

/-- Within an object: its fields ahead of the q-th are moved. -/
structure Lb (l roots : List Wrd) (nx : Nat) (ps : List Nat) (p c t q : Nat) (qs : List Nat) : Prop where
  way : Way l roots nx ps
  at_ : t = wrds l (ps.take nx)
  p_ : ps[nx]? = some p
  c_ : ob l p = some c
  PL_ : PL l qs
  qs_ : qs = meetL ps ((flds l (p, c)).take (q - 1))
  pre : ps <+: qs
  one : 1 ≤ q
  le : q ≤ c + 1
  dn : Dn l qs (t + q)

section
variable {s : Int} {l roots : List Wrd} {nx : Nat} {ps : List Nat} {p c t q : Nat} {qs : List Nat}

theorem Lb.raw (h : Lb l roots nx ps p c t q qs) {k : Nat} (hk : k ≤ c) : (rawC l qs)[t + k]? = l[p + k]? := by
  have h1 := raw_at h.PL_ (pre_get h.pre h.p_) h.c_ hk
  rw [pre_take h.pre h.way.2.1, ← h.at_] at h1
  exact h1
theorem head_no {x : Wrd} {c : Nat} (h : cntH x = some c) : x.K ≠ 4 := by
  intro e
  unfold cntH at h
  rw [e] at h
  simp at h
theorem Lb.start (hW : Way l roots nx ps) (hat : t = wrds l (ps.take nx)) (hp : ps[nx]? = some p) (hc : ob l p = some c) (hd : Dn l ps t) : Lb l roots nx ps p c t 1 ps ∧ stC l ps t = stC l ps (t + 1) ∧ ∃ x, (stC l ps t)[t]? = some x ∧ cntH x = some c := by
  obtain ⟨ha, hcx, _⟩ := ob_some hc
  have h1 := raw_at hW.1 hp hc (Nat.zero_le _)
  rw [← hat, Nat.add_zero, Nat.add_zero, List.getElem?_eq_getElem ha] at h1
  have hk := head_no hcx
  refine ⟨⟨hW, hat, hp, hc, hW.1, rfl, List.prefix_rfl, Nat.le_refl _, by omega, hd.next h1 (fun e => absurd e hk)⟩, (stC_skip h1 hk).symm, l[p], (stC_raw (Nat.le_refl _)).trans h1, hcx⟩
theorem Lb.next (hok : okH s l = true) (h : Lb l roots nx ps p c t q qs) (hq : q ≤ c) : ∃ x, RW l x ∧ (stC l qs (t + q))[t + q]? = some x ∧ Lb l roots nx ps p c t (q + 1) (meet1 qs x) ∧ stC l qs (t + q) ++ newO l qs x = stC l (meet1 qs x) (t + q) ∧ (stC l (meet1 qs x) (t + q)).set (t + q) (mvW l (meet1 qs x) x) = stC l (meet1 qs x) (t + q + 1) := by
  obtain ⟨ha, hcx, hac⟩ := ob_some h.c_
  have h1 := h.raw hq
  have hpq : p + q < l.length := by omega
  rw [List.getElem?_eq_getElem hpq] at h1
  have hlt := (List.getElem?_eq_some_iff.1 h1).1
  have hone := h.one
  have hf : (flds l (p, c))[q - 1]? = some l[p + q] := by
    rw [flds_get, if_pos (by simp; omega), show p + 1 + (q - 1) = p + q by omega, List.getElem?_eq_getElem hpq]
  have hfl := (List.getElem?_eq_some_iff.1 hf).1
  have hRW : RW l l[p + q] := by
    have h2 := okH_objL hok h.way.1 (List.mem_of_getElem? h.p_)
    unfold objL at h2
    rw [h.c_] at h2
    exact h2 _ (List.mem_of_getElem? hf)
  have h2 : (rawC l (meet1 qs l[p + q]))[t + q]? = some l[p + q] := by rw [raw_meet, List.getElem?_append_left hlt]; exact h1
  refine ⟨l[p + q], hRW, (stC_raw (Nat.le_refl _)).trans h1, ⟨h.way, h.at_, h.p_, h.c_, h.PL_.meet1 hRW, ?_, h.pre.trans (meet1_pre _ _), by omega, by omega, ?_⟩, (stC_meet h.dn (Nat.le_of_lt hlt) _).symm, (stC_set h2).symm⟩
  · have e := meetL_take_succ (ps := ps) hfl
    rw [(List.getElem?_eq_some_iff.1 hf).2, ← h.qs_, show q - 1 + 1 = q + 1 - 1 by omega] at e
    exact e.symm
  · exact (h.dn.meet (Nat.le_of_lt hlt) _).next h2 (fun hk => meet1_mem _ _ hk)
theorem Lb.done (hok : okH s l = true) (h : Lb l roots nx ps p c t (c + 1) qs) : Way l roots (nx + 1) qs ∧ t + c + 1 = wrds l (qs.take (nx + 1)) := by
  have e : qs = meetL ps (flds l (objL l p)) := by
    rw [h.qs_]
    unfold objL
    rw [h.c_, List.take_of_length_le]
    · rfl
    · unfold flds
      rw [List.length_take]
      simp
      omega
  refine ⟨by rw [e]; exact h.way.next hok h.p_, ?_⟩
  rw [wrds_next (pre_get h.pre h.p_) h.c_, pre_take h.pre h.way.2.1, ← h.at_]
theorem way_more (hW : Way l roots nx ps) (hat : t = wrds l (ps.take nx)) (hlt : t < (stC l ps t).length) : ∃ p c, ps[nx]? = some p ∧ ob l p = some c := by
  rw [stC_len, rawC_len hW.1.ob] at hlt
  have hnx : nx < ps.length := by
    rcases Nat.lt_or_ge nx ps.length with h | h
    · exact h
    · rw [List.take_of_length_le h] at hat
      omega
  obtain ⟨c, _, hc⟩ := hW.1.2 _ (List.getElem_mem hnx)
  exact ⟨_, c, List.getElem?_eq_getElem hnx, hc⟩
theorem way_over (hW : Way l roots nx ps) (hat : t = wrds l (ps.take nx)) (hge : ¬ t < (stC l ps t).length) : ps = plc l roots ∧ stC l ps t = (rawC l ps).map (mvW l ps) := by
  rw [stC_len] at hge
  refine ⟨hW.done ?_, ?_⟩
  · cases hp : ps[nx]? with
    | none => rfl
    | some p =>
      obtain ⟨c, _, hc⟩ := hW.1.2 _ (List.mem_of_getElem? hp)
      have h1 := wrds_next hp hc
      have h2 := wrds_take_le l ps (nx + 1)
      rw [rawC_len hW.1.ob] at hge
      omega
  · unfold stC
    rw [List.take_of_length_le (by omega), List.drop_eq_nil_of_le (by omega), List.append_nil]
theorem stC_bound (hW : PL l ps) : (stC l ps t).length ≤ 100 * l.length := by
  rw [stC_len, rawC_len hW.ob]
  exact wrds_bound hW
end

end Go.Proofs.Ytkplfdckfbihcaa
