/-
  A collection's two loops, as plain values. No walk, no statement.
-/
import Derived.Test.YtapamdjoipofmaaDoorFcdRc2
import Derived.Test.YtapamdjoipofmaaDoorFcdZ16
namespace Go.Proofs.YtapamdjoipofmaaDoor
open Go.RowKit
set_option linter.unusedVariables false
set_option linter.unusedSimpArgs false

theorem meetL_take_succ {ps : List Nat} {ws : List Wrd} {k : Nat} (hk : k < ws.length) : meetL ps (ws.take (k + 1)) = meet1 (meetL ps (ws.take k)) ws[k] := by
  rw [List.take_succ_eq_append_getElem hk, meetL_snoc]
theorem pre_get {ps qs : List Nat} (h : ps <+: qs) {i p : Nat} (hp : ps[i]? = some p) : qs[i]? = some p := by
  obtain ⟨t, rfl⟩ := h
  rw [List.getElem?_append_left (List.getElem?_eq_some_iff.1 hp).1]
  exact hp
theorem pre_take {ps qs : List Nat} (h : ps <+: qs) {i : Nat} (hi : i ≤ ps.length) : qs.take i = ps.take i := by
  obtain ⟨t, rfl⟩ := h
  exact List.take_append_of_le_length hi

/-- Within an object: its fields ahead of the q-th are moved. -/
structure Lb (l roots : List Wrd) (nx : Nat) (ps : List Nat) (p c t q : Nat) (qs : List Nat) : Prop where
  way : Way l roots nx ps
  at_ : t = wrds l (ps.take nx)
  p_ : ps[nx]? = some p
  c_ : ob l p = some c
  PL_ : PL l qs
  qs_ : qs = meetL ps ((flds l (p, c)).take (q - 1))
  pre : ps <+: qs
  one : 1 ≤ q
  le : q ≤ c + 1
  dn : Dn l qs (t + q)

section
variable {s : Int} {l roots : List Wrd} {nx : Nat} {ps : List Nat} {p c t q : Nat} {qs : List Nat}

theorem Lb.raw (h : Lb l roots nx ps p c t q qs) {k : Nat} (hk : k ≤ c) : (rawC l qs)[t + k]? = l[p + k]? := by
  have h1 := raw_at h.PL_ (pre_get h.pre h.p_) h.c_ hk
  rw [pre_take h.pre h.way.2.1, ← h.at_] at h1
  exact h1
theorem head_no {x : Wrd} {c : Nat} (h : cntH x = some c) : x.K ≠ 4 := by
  intro e
  unfold cntH at h
  rw [e] at h
  simp at h
theorem Lb.start (hW : Way l roots nx ps) (hat : t = wrds l (ps.take nx)) (hp : ps[nx]? = some p) (hc : ob l p = some c) (hd : Dn l ps t) : Lb l roots nx ps p c t 1 ps ∧ stC l ps t = stC l ps (t + 1) ∧ ∃ x, (stC l ps t)[t]? = some x ∧ cntH x = some c := by
  obtain ⟨ha, hcx, _⟩ := ob_some hc
  have h1 := raw_at hW.1 hp hc (Nat.zero_le _)
  rw [← hat, Nat.add_zero, Nat.add_zero, List.getElem?_eq_getElem ha] at h1
  have hk := head_no hcx
  refine ⟨⟨hW, hat, hp, hc, hW.1, rfl, List.prefix_rfl, Nat.le_refl _, by omega, hd.next h1 (fun e => absurd e hk)⟩, (stC_skip h1 hk).symm, l[p], (stC_raw (Nat.le_refl _)).trans h1, hcx⟩
theorem Lb.next (hok : okH s l = true) (h : Lb l roots nx ps p c t q qs) (hq : q ≤ c) : ∃ x, RW l x ∧ (stC l qs (t + q))[t + q]? = some x ∧ Lb l roots nx ps p c t (q + 1) (meet1 qs x) ∧ stC l qs (t + q) ++ newO l qs x = stC l (meet1 qs x) (t + q) ∧ (stC l (meet1 qs x) (t + q)).set (t + q) (mvW l (meet1 qs x) x) = stC l (meet1 qs x) (t + q + 1) := by
  obtain ⟨ha, hcx, hac⟩ := ob_some h.c_
  have h1 := h.raw hq
  have hpq : p + q < l.length := by omega
  rw [List.getElem?_eq_getElem hpq] at h1
  have hlt := (List.getElem?_eq_some_iff.1 h1).1
  have hone := h.one
  have hf : (flds l (p, c))[q - 1]? = some l[p + q] := by
    rw [flds_get, if_pos (by simp; omega), show p + 1 + (q - 1) = p + q by omega, List.getElem?_eq_getElem hpq]
  have hfl := (List.getElem?_eq_some_iff.1 hf).1
  have hRW : RW l l[p + q] := by
    have h2 := okH_objL hok h.way.1 (List.mem_of_getElem? h.p_)
    unfold objL at h2
    rw [h.c_] at h2
    exact h2 _ (List.mem_of_getElem? hf)
  have h2 : (rawC l (meet1 qs l[p + q]))[t + q]? = some l[p + q] := by rw [raw_meet, List.getElem?_append_left hlt]; exact h1
  refine ⟨l[p + q], hRW, (stC_raw (Nat.le_refl _)).trans h1, ⟨h.way, h.at_, h.p_, h.c_, h.PL_.meet1 hRW, ?_, h.pre.trans (meet1_pre _ _), by omega, by omega, ?_⟩, (stC_meet h.dn (Nat.le_of_lt hlt) _).symm, (stC_set h2).symm⟩
  · have e := meetL_take_succ (ps := ps) hfl
    rw [(List.getElem?_eq_some_iff.1 hf).2, ← h.qs_, show q - 1 + 1 = q + 1 - 1 by omega] at e
    exact e.symm
  · exact (h.dn.meet (Nat.le_of_lt hlt) _).next h2 (fun hk => meet1_mem _ _ hk)
theorem Lb.done (hok : okH s l = true) (h : Lb l roots nx ps p c t (c + 1) qs) : Way l roots (nx + 1) qs ∧ t + c + 1 = wrds l (qs.take (nx + 1)) := by
  have e : qs = meetL ps (flds l (objL l p)) := by
    rw [h.qs_]
    unfold objL
    rw [h.c_, List.take_of_length_le]
    · rfl
    · unfold flds
      rw [List.length_take]
      simp
      omega
  refine ⟨by rw [e]; exact h.way.next hok h.p_, ?_⟩
  rw [wrds_next (pre_get h.pre h.p_) h.c_, pre_take h.pre h.way.2.1, ← h.at_]
theorem way_more (hW : Way l roots nx ps) (hat : t = wrds l (ps.take nx)) (hlt : t < (stC l ps t).length) : ∃ p c, ps[nx]? = some p ∧ ob l p = some c := by
  rw [stC_len, rawC_len hW.1.ob] at hlt
  have hnx : nx < ps.length := by
    rcases Nat.lt_or_ge nx ps.length with h | h
    · exact h
    · rw [List.take_of_length_le h] at hat
      omega
  obtain ⟨c, _, hc⟩ := hW.1.2 _ (List.getElem_mem hnx)
  exact ⟨_, c, List.getElem?_eq_getElem hnx, hc⟩
theorem way_over (hW : Way l roots nx ps) (hat : t = wrds l (ps.take nx)) (hge : ¬ t < (stC l ps t).length) : ps = plc l roots ∧ stC l ps t = (rawC l ps).map (mvW l ps) := by
  rw [stC_len] at hge
  refine ⟨hW.done ?_, ?_⟩
  · cases hp : ps[nx]? with
    | none => rfl
    | some p =>
      obtain ⟨c, _, hc⟩ := hW.1.2 _ (List.mem_of_getElem? hp)
      have h1 := wrds_next hp hc
      have h2 := wrds_take_le l ps (nx + 1)
      rw [rawC_len hW.1.ob] at hge
      omega
  · unfold stC
    rw [List.take_of_length_le (by omega), List.drop_eq_nil_of_le (by omega), List.append_nil]
theorem stC_bound (hW : PL l ps) : (stC l ps t).length ≤ 100 * l.length := by
  rw [stC_len, rawC_len hW.ob]
  exact wrds_bound hW
end

end Go.Proofs.YtapamdjoipofmaaDoor

/-
  The model's 'Collect'.
-/
namespace Go.Proofs.YtapamdjoipofmaaDoor
open Go.RowKit
set_option linter.unusedVariables false
set_option linter.unusedSimpArgs false

/-- The words that a collection leaves; the roots as they are then. -/
def colL (s : Int) (l roots : List Wrd) : List Wrd := if rokB s l roots then (rawC l (plc l roots)).map (mvW l (plc l roots)) else l
def colR (s : Int) (l roots : List Wrd) : List Wrd := if rokB s l roots then roots.map (mvW l (plc l roots)) else roots
/-- What a collection comes to. -/
def ClEnd (w : World) (s : Int) (P R : List Wrd) (e : Ending) (w' : World) : Prop :=
  ∃ va vn vcp oa nr ocp, e = .returned (.tuple #[vH s va vn vcp, .slice oa nr ocp]) ∧ vn = P.length ∧ nr = R.length ∧ Wors w.heap.size w' (.slice va vn vcp) P ∧ Wors w.heap.size w' (.slice oa nr ocp) R ∧ (∀ k, (Value.slice va vn vcp).ownBlock = some k → (Value.slice oa nr ocp).ownBlock ≠ some k)

end Go.Proofs.YtapamdjoipofmaaDoor

/-
  Plain: with fewer roots no more is reached; without any nothing is.
-/
namespace Go.Proofs.YtapamdjoipofmaaDoor
open Go.RowKit
set_option linter.unusedVariables false
set_option linter.unusedSimpArgs false

theorem meet1_sub {C ps : List Nat} {x : Wrd} (h : ∀ p ∈ ps, p ∈ C) (hx : x.K = 4 → x.N.toNat ∈ C) : ∀ p ∈ meet1 ps x, p ∈ C := by
  intro p hp
  unfold meet1 at hp
  split at hp
  · rename_i hc
    rcases List.mem_append.1 hp with hp | hp
    · exact h p hp
    · rw [List.mem_singleton] at hp
      rw [hp]
      exact hx hc.1
  · exact h p hp
theorem meetL_sub {C : List Nat} : ∀ (ws : List Wrd) (ps : List Nat), (∀ p ∈ ps, p ∈ C) → (∀ x ∈ ws, x.K = 4 → x.N.toNat ∈ C) → ∀ p ∈ meetL ps ws, p ∈ C
  | [], ps, h, _ => h
  | x :: ws, ps, h, hx => meetL_sub ws (meet1 ps x) (meet1_sub h (hx x List.mem_cons_self)) (fun y hy => hx y (List.mem_cons_of_mem _ hy))
theorem meet1_has (ps : List Nat) (x : Wrd) (hx : x.K = 4) : x.N.toNat ∈ meet1 ps x := by
  unfold meet1
  split
  · exact List.mem_append_right _ List.mem_cons_self
  · rename_i hc
    exact Classical.byContradiction fun hn => hc ⟨hx, hn⟩
theorem meetL_has : ∀ (ws : List Wrd) (ps : List Nat) (x : Wrd), x ∈ ws → x.K = 4 → x.N.toNat ∈ meetL ps ws
  | y :: ws, ps, x, hm, hx => by
    rcases List.mem_cons.1 hm with rfl | hm
    · exact (meetL_pre ws (meet1 ps x)).subset (meet1_has ps x hx)
    · exact meetL_has ws (meet1 ps y) x hm hx

/-- What an object's fields name is among these. -/
def cls (l : List Wrd) (p : Nat) (qs : List Nat) : Prop := ∀ y ∈ flds l (objL l p), y.K = 4 → y.N.toNat ∈ qs

theorem bfs_cls {s : Int} {l : List Wrd} (h : okH s l = true) : ∀ (f nx : Nat) (ps : List Nat), PL l ps → nx ≤ ps.length → l.length + 1 ≤ f + nx → (∀ k p, k < nx → ps[k]? = some p → cls l p ps) → ∀ p ∈ bfs l f nx ps, cls l p (bfs l f nx ps)
  | 0, nx, ps, hP, hn, hf, _ => by have := hP.len; omega
  | f + 1, nx, ps, hP, hn, hf, hc => by
    cases hp : ps[nx]? with
    | none =>
      rw [bfs_stop hp]
      intro p hm
      obtain ⟨k, hk⟩ := List.mem_iff_getElem?.1 hm
      have h1 := (List.getElem?_eq_some_iff.1 hk).1
      have h2 := List.getElem?_eq_none_iff.1 hp
      exact hc k p (by omega) hk
    | some p =>
      rw [bfs_step hp]
      have hlt := (List.getElem?_eq_some_iff.1 hp).1
      have hm : p ∈ ps := List.mem_iff_getElem?.2 ⟨nx, hp⟩
      have hpre := meetL_pre (flds l (objL l p)) ps
      have hpl := hpre.length_le
      refine bfs_cls h f (nx + 1) _ (PL.meetL (okH_objL h hP hm) hP) (by omega) (by omega) ?_
      intro k q hk hq y hy hy4
      have hkl : k < ps.length := by omega
      have e : ps[k]? = some q := by
        rw [← hq]
        obtain ⟨t, ht⟩ := hpre
        rw [← ht, List.getElem?_append_left hkl]
      by_cases hkn : k < nx
      · exact hpre.subset (hc k q hkn e y hy hy4)
      · have : k = nx := by omega
        subst this
        rw [hp] at e
        injection e with e
        subst e
        exact meetL_has _ _ _ hy hy4

theorem bfs_sub {l : List Wrd} {C : List Nat} (hC : ∀ p ∈ C, cls l p C) : ∀ (f nx : Nat) (ps : List Nat), (∀ p ∈ ps, p ∈ C) → ∀ p ∈ bfs l f nx ps, p ∈ C
  | 0, nx, ps, h => h
  | f + 1, nx, ps, h => by
    cases hp : ps[nx]? with
    | none => rw [bfs_stop hp]; exact h
    | some p =>
      rw [bfs_step hp]
      exact bfs_sub hC f (nx + 1) _ (meetL_sub _ _ h (hC p (h p (List.mem_iff_getElem?.2 ⟨nx, hp⟩))))

theorem sum_erase (f : Nat → Nat) : ∀ (qs : List Nat) (p : Nat), p ∈ qs → (qs.map f).sum = f p + ((qs.erase p).map f).sum
  | q :: qs, p, hm => by
    by_cases e : q = p
    · subst e
      simp
    · have hm2 : p ∈ qs := by
        rcases List.mem_cons.1 hm with h | h
        · exact absurd h.symm e
        · exact h
      rw [List.erase_cons_tail (by simpa using e)]
      simp only [List.map_cons, List.sum_cons]
      have := sum_erase f qs p hm2
      omega
theorem sum_sub (f : Nat → Nat) : ∀ (ps qs : List Nat), ps.Nodup → (∀ p ∈ ps, p ∈ qs) → (ps.map f).sum ≤ (qs.map f).sum
  | [], qs, _, _ => by simp
  | p :: ps, qs, hn, hs => by
    have hp := hs p List.mem_cons_self
    rw [List.nodup_cons] at hn
    have := sum_sub f ps (qs.erase p) hn.2 (fun q hq => by
      have hqp : q ≠ p := fun e => hn.1 (e ▸ hq)
      exact (List.mem_erase_of_ne hqp).2 (hs q (List.mem_cons_of_mem _ hq)))
    rw [sum_erase f qs p hp]
    simp only [List.map_cons, List.sum_cons]
    omega

theorem rok_take {s : Int} {l roots : List Wrd} (h : rokB s l roots = true) (i : Nat) : rokB s l (roots.take i) = true := by
  unfold rokB at h ⊢
  simp only [Bool.and_eq_true, List.all_eq_true] at h ⊢
  exact ⟨h.1, fun x hx => h.2 x (List.mem_of_mem_take hx)⟩

theorem rch_take {s : Int} {l roots : List Wrd} (i : Nat) (h0 : 0 < rchN s l roots) : rchN s l (roots.take i) ≤ rchN s l roots := by
  unfold rchN at h0 ⊢
  by_cases hr : rokB s l roots = true
  · rw [if_pos hr, if_pos (rok_take hr i)]
    have hr' := hr
    unfold rokB at hr'
    simp only [Bool.and_eq_true, List.all_eq_true] at hr'
    obtain ⟨hok, hrt⟩ := hr'
    have hP0 : PL l (meetL [] roots) := PL.meetL (fun x hx => rgt_RW (hrt x hx)) ⟨List.nodup_nil, fun p hp => by cases hp⟩
    have hP1 : PL l (meetL [] (roots.take i)) := PL.meetL (fun x hx => rgt_RW (hrt x (List.mem_of_mem_take hx))) ⟨List.nodup_nil, fun p hp => by cases hp⟩
    have hcl := bfs_cls hok (l.length + 1) 0 (meetL [] roots) hP0 (Nat.zero_le _) (by omega) (fun k p hk => absurd hk (Nat.not_lt_zero _))
    have hsub := bfs_sub hcl (l.length + 1) 0 (meetL [] (roots.take i)) (meetL_sub _ _ (fun p hp => by cases hp) (fun x hx hx4 => (bfs_pre l _ _ _).subset (meetL_has _ _ _ (List.mem_of_mem_take hx) hx4)))
    exact sum_sub _ _ _ (bfs_PL hok (l.length + 1) 0 _ hP1).1 hsub
  · rw [if_neg hr] at h0
    exact absurd h0 (Nat.lt_irrefl _)

theorem plc_none (l : List Wrd) : plc l [] = [] := by
  unfold plc
  exact bfs_stop rfl
theorem col_none {s : Int} {l : List Wrd} (h : okH s l = true) : colL s l [] = [] ∧ colR s l [] = [] := by
  have hr : rokB s l [] = true := by unfold rokB; rw [h]; rfl
  unfold colL colR
  rw [if_pos hr, if_pos hr, plc_none]
  exact ⟨rfl, rfl⟩

end Go.Proofs.YtapamdjoipofmaaDoor
