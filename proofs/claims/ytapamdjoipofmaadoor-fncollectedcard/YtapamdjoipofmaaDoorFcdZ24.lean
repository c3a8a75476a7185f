/-
  Plain: a collected heap is right.
-/
import Derived.Test.YtapamdjoipofmaaDoorFcdZ18
import Derived.Test.YtapamdjoipofmaaDoorFcdZ23
namespace Go.Proofs.YtapamdjoipofmaaDoor
open Go.RowKit
set_option linter.unusedVariables false
set_option linter.unusedSimpArgs false

/-- The words of a collection. -/
def col (l : List Wrd) (ps : List Nat) : List Wrd := (rawC l ps).map (mvW l ps)
theorem col_len {l : List Wrd} {ps : List Nat} (hP : PL l ps) : (col l ps).length = wrds l ps := by unfold col; rw [List.length_map, rawC_len hP.ob]
theorem col_at {l : List Wrd} {ps : List Nat} (hP : PL l ps) {i p c k : Nat} (hp : ps[i]? = some p) (hc : ob l p = some c) (hk : k ≤ c) : (col l ps)[wrds l (ps.take i) + k]? = (l[p + k]?).map (mvW l ps) := by
  unfold col
  rw [List.getElem?_map, raw_at hP hp hc hk]
theorem idx_at {ps : List Nat} (hn : ps.Nodup) {i p : Nat} (hp : ps[i]? = some p) : ps.idxOf p = i := by
  obtain ⟨hi, e⟩ := List.getElem?_eq_some_iff.1 hp
  subst e
  have hm : ps[i] ∈ ps := List.getElem_mem hi
  have hlt := List.idxOf_lt_length_iff.2 hm
  have h1 := List.getElem_idxOf hlt
  exact (List.getElem_inj hn).1 h1
theorem off_at {l : List Wrd} {ps : List Nat} (hn : ps.Nodup) {i p : Nat} (hp : ps[i]? = some p) : offN l ps p = wrds l (ps.take i) := by unfold offN; rw [idx_at hn hp]
theorem mv_head {l : List Wrd} {ps : List Nat} {x : Wrd} {c : Nat} (h : cntH x = some c) : mvW l ps x = x := by unfold mvW; rw [if_neg (head_no h)]
theorem col_ob {l : List Wrd} {ps : List Nat} (hP : PL l ps) {i p c : Nat} (hp : ps[i]? = some p) (hc : ob l p = some c) : ob (col l ps) (wrds l (ps.take i)) = some c := by
  have h1 := col_at hP hp hc (Nat.zero_le c)
  obtain ⟨ha, hcx, _⟩ := ob_some hc
  rw [Nat.add_zero, Nat.add_zero, List.getElem?_eq_getElem ha, Option.map_some, mv_head hcx] at h1
  obtain ⟨hlt, e⟩ := List.getElem?_eq_some_iff.1 h1
  have h2 := wrds_next hp hc
  have h3 := wrds_take_le l ps (i + 1)
  refine ob_mk hlt (by rw [e]; exact hcx) (by rw [col_len hP]; omega)
/-- Its objects. -/
def colO (l : List Wrd) (ps : List Nat) (i : Nat) : List (Nat × Nat) := (List.range i).map fun j => (wrds l (ps.take j), (ob l (ps.getD j 0)).getD 0)
theorem col_vis {l : List Wrd} {ps : List Nat} (hP : PL l ps) : ∀ i, i ≤ ps.length → vis (col l ps) 0 (colO l ps i) (wrds l (ps.take i))
  | 0, _ => by simp [colO, vis, wrds]
  | i + 1, h => by
    have ih := col_vis hP i (by omega)
    have hp : ps[i]? = some ps[i] := List.getElem?_eq_getElem (by omega)
    obtain ⟨c, hc⟩ := hP.ob ps[i] (List.getElem_mem _)
    have := vis_snoc ih (col_ob hP hp hc)
    rw [wrds_next hp hc]
    have e : colO l ps (i + 1) = colO l ps i ++ [(wrds l (ps.take i), c)] := by
      unfold colO
      rw [List.range_succ, List.map_append, List.map_singleton, List.getD_eq_getElem?_getD, hp]
      simp [hc]
    rw [e]
    exact this
theorem col_all {l : List Wrd} {ps : List Nat} (hP : PL l ps) : allO (col l ps) = colO l ps ps.length ∧ endO (col l ps) = (col l ps).length := by
  have h := col_vis hP ps.length (Nat.le_refl _)
  rw [List.take_length, ← col_len hP] at h
  obtain ⟨e1, e2⟩ := full_all h (ob_out (Nat.le_refl _))
  exact ⟨e1.symm, e2.symm⟩
theorem colO_mem {l : List Wrd} {ps : List Nat} (hP : PL l ps) {x : Nat × Nat} (h : x ∈ colO l ps ps.length) : ∃ i p, ps[i]? = some p ∧ ob l p = some x.2 ∧ x.1 = wrds l (ps.take i) := by
  unfold colO at h
  obtain ⟨j, hj, rfl⟩ := List.mem_map.1 h
  rw [List.mem_range] at hj
  have hp : ps[j]? = some ps[j] := List.getElem?_eq_getElem hj
  obtain ⟨c, hc⟩ := hP.ob ps[j] (List.getElem_mem _)
  refine ⟨j, ps[j], hp, ?_, rfl⟩
  simp only [List.getD_eq_getElem?_getD, hp, Option.getD_some, hc]
theorem colO_has {l : List Wrd} {ps : List Nat} {i p c : Nat} (hp : ps[i]? = some p) (hc : ob l p = some c) : (wrds l (ps.take i), c) ∈ colO l ps ps.length := by
  unfold colO
  refine List.mem_map.2 ⟨i, List.mem_range.2 (List.getElem?_eq_some_iff.1 hp).1, ?_⟩
  simp [List.getD_eq_getElem?_getD, hp, hc]

theorem vis_sum {l : List Wrd} : ∀ {p : List (Nat × Nat)} {a b : Nat}, vis l a p b → wrds l (p.map Prod.fst) + a = b
  | [], a, b, h => by simp [wrds]; exact h
  | x :: xs, a, b, h => by
    have := vis_sum h.2.2
    have e : ob l x.1 = some x.2 := by rw [h.1]; exact h.2.1
    simp only [wrds, List.map_cons, List.sum_cons, e, Option.getD_some] at this ⊢
    omega
theorem wrds_le {l : List Wrd} {ps : List Nat} (hP : PL l ps) : wrds l ps ≤ l.length := by
  have h1 := vis_sum (vis_all l).1
  have h2 := endO_le l
  have h3 := sum_sub (fun a => (ob l a).getD 0 + 1) ps ((allO l).map Prod.fst) hP.1 (fun p hp => by
    obtain ⟨c, hc, _⟩ := hP.2 p hp
    exact List.mem_map.2 ⟨(p, c), hc, rfl⟩)
  unfold wrds at h1 ⊢
  omega

theorem rgt_free {hs hs' : List Bool} {x : Wrd} (h : rgt hs x = true) (hk : x.K ≠ 4) : rgt hs' x = true := by
  unfold rgt at h ⊢
  split
  · rename_i h1; rw [if_pos h1] at h; exact h
  · rename_i h1
    rw [if_neg h1] at h
    split
    · rename_i h2; rw [if_pos h2] at h; exact h
    · rename_i h2
      rw [if_neg h2] at h
      split
      · rename_i h3; rw [if_pos h3] at h; exact h
      · rename_i h3; rw [if_neg h3, if_neg hk] at h; cases h
theorem heads_col {l : List Wrd} {ps : List Nat} (hP : PL l ps) {i p : Nat} (hp : ps[i]? = some p) : wrds l (ps.take i) < (col l ps).length ∧ (heads (col l ps)).getD (wrds l (ps.take i)) false = true := by
  obtain ⟨c, hc⟩ := hP.ob p (List.mem_iff_getElem?.2 ⟨i, hp⟩)
  obtain ⟨h1, _, _⟩ := ob_some (col_ob hP hp hc)
  refine ⟨h1, ?_⟩
  unfold heads
  rw [hd_get _ _ _ h1, (col_all hP).1, List.any_eq_true]
  exact ⟨_, colO_has hp hc, by simp⟩
/-- A right word that is reached is right behind the collection. -/
theorem rgt_mv {l : List Wrd} {ps : List Nat} (hP : PL l ps) {x : Wrd} (h : rgt (heads l) x = true) (hm : x.K = 4 → x.N.toNat ∈ ps) : rgt (heads (col l ps)) (mvW l ps x) = true := by
  by_cases hk : x.K = 4
  · obtain ⟨i, hi⟩ := List.mem_iff_getElem?.1 (hm hk)
    obtain ⟨h1, h2⟩ := heads_col hP hi
    unfold mvW
    rw [if_pos hk, off_at hP.1 hi]
    unfold rgt
    rw [if_neg (by simp), if_neg (by simp), if_neg (by simp), if_pos rfl, heads_len]
    simp only [Bool.and_eq_true, decide_eq_true_eq, Int.toNat_natCast]
    exact ⟨⟨by omega, by omega⟩, h2⟩
  · unfold mvW
    rw [if_neg hk]
    exact rgt_free h hk
theorem fld_get {l : List Wrd} {p c j : Nat} (hj : j < c) (hlt : p + c < l.length) : (flds l (p, c))[j]? = some (l.getD (p + 1 + j) ⟨0, 0⟩) := by
  rw [flds_get, if_pos hj]
  show l[p + 1 + j]? = _
  rw [List.getD_eq_getElem?_getD, List.getElem?_eq_getElem (by omega)]
  rfl

end Go.Proofs.YtapamdjoipofmaaDoor

/-
  Plain: a collected heap is right; collected again it is the same.
-/
namespace Go.Proofs.YtapamdjoipofmaaDoor
open Go.RowKit
set_option linter.unusedVariables false
set_option linter.unusedSimpArgs false

theorem okH_fld {s : Int} {l : List Wrd} (h : okH s l = true) {p c j : Nat} (hm : (p, c) ∈ allO l) (hj : j < c) : rgt (heads l) (l.getD (p + 1 + j) ⟨0, 0⟩) = true := by
  unfold okH at h
  simp only [Bool.and_eq_true] at h
  have hf := h.2.2
  unfold fok at hf
  rw [List.all_eq_true] at hf
  have h1 := hf _ hm
  rw [List.all_eq_true] at h1
  have hb := vis_bound (vis_all l).1 _ hm
  have hlt : p + c < l.length := by have := endO_le l; simp only at hb; omega
  exact h1 _ (List.mem_iff_getElem?.2 ⟨j, fld_get hj hlt⟩)
theorem cls_fld {l : List Wrd} {ps : List Nat} {p c j : Nat} (hc : ob l p = some c) (h : cls l p ps) (hj : j < c) (hk : (l.getD (p + 1 + j) ⟨0, 0⟩).K = 4) : (l.getD (p + 1 + j) ⟨0, 0⟩).N.toNat ∈ ps := by
  refine h _ ?_ hk
  obtain ⟨_, _, hlt⟩ := ob_some hc
  have e : objL l p = (p, c) := by unfold objL; rw [hc]; rfl
  rw [e]
  exact List.mem_iff_getElem?.2 ⟨j, fld_get hj hlt⟩
theorem col_fld {l : List Wrd} {ps : List Nat} (hP : PL l ps) {i p c j : Nat} (hp : ps[i]? = some p) (hc : ob l p = some c) (hj : j < c) : (col l ps).getD (wrds l (ps.take i) + 1 + j) ⟨0, 0⟩ = mvW l ps (l.getD (p + 1 + j) ⟨0, 0⟩) := by
  have h1 := col_at hP hp hc (show j + 1 ≤ c by omega)
  obtain ⟨_, _, hlt⟩ := ob_some hc
  have e1 : p + (j + 1) = p + 1 + j := by omega
  have e2 : wrds l (ps.take i) + (j + 1) = wrds l (ps.take i) + 1 + j := by omega
  rw [e1, e2, List.getElem?_eq_getElem (show p + 1 + j < l.length by omega), Option.map_some] at h1
  rw [List.getD_eq_getElem?_getD, h1, List.getD_eq_getElem?_getD, List.getElem?_eq_getElem (show p + 1 + j < l.length by omega)]
  rfl

theorem col_ok {s : Int} {l : List Wrd} {ps : List Nat} (h : okH s l = true) (hP : PL l ps) (hC : ∀ p ∈ ps, cls l p ps) : okH s (col l ps) = true := by
  have h' := h
  unfold okH wok at h'
  simp only [Bool.and_eq_true, decide_eq_true_eq] at h'
  obtain ⟨⟨q1, q2⟩, q3, q4⟩ := h'
  have hw := wrds_le hP
  obtain ⟨a1, a2⟩ := col_all hP
  unfold okH wok
  simp only [Bool.and_eq_true, decide_eq_true_eq]
  refine ⟨⟨q1, by rw [col_len hP]; omega⟩, a2, ?_⟩
  unfold fok
  rw [a1, List.all_eq_true]
  intro x hx
  obtain ⟨i, p, hp, hc, e⟩ := colO_mem hP hx
  have hpm : p ∈ ps := List.mem_iff_getElem?.2 ⟨i, hp⟩
  obtain ⟨c', hm, hc'⟩ := hP.2 p hpm
  rw [hc] at hc'
  injection hc' with hc'
  rw [← hc'] at hm
  obtain ⟨t, c⟩ := x
  simp only at hc e hm
  subst e
  rw [List.all_eq_true]
  intro y hy
  obtain ⟨j, hj⟩ := List.mem_iff_getElem?.1 hy
  obtain ⟨_, _, hlt⟩ := ob_some (col_ob hP hp hc)
  by_cases hjc : j < c
  · rw [fld_get hjc hlt] at hj
    injection hj with hj
    rw [← hj, col_fld hP hp hc hjc]
    exact rgt_mv hP (okH_fld h hm hjc) (cls_fld hc (hC p hpm) hjc)
  · rw [flds_get, if_neg hjc] at hj
    cases hj

/-- The places that a collection reaches: what is known of them. -/
theorem plc_PL {s : Int} {l roots : List Wrd} (h : okH s l = true) (hr : roots.all (rgt (heads l)) = true) : PL l (plc l roots) ∧ ∀ p ∈ plc l roots, cls l p (plc l roots) := by
  rw [List.all_eq_true] at hr
  have hP0 : PL l (meetL [] roots) := PL.meetL (fun x hx => rgt_RW (hr x hx)) ⟨List.nodup_nil, fun p hp => by cases hp⟩
  exact ⟨bfs_PL h _ _ _ hP0, bfs_cls h (l.length + 1) 0 (meetL [] roots) hP0 (Nat.zero_le _) (by omega) (fun k p hk => absurd hk (Nat.not_lt_zero _))⟩

/-- New places of some places. -/
def nps (l : List Wrd) (ps qs : List Nat) : List Nat := qs.map (offN l ps)
theorem off_inj {l : List Wrd} {ps : List Nat} (hP : PL l ps) {p q : Nat} (hp : p ∈ ps) (hq : q ∈ ps) (h : offN l ps p = offN l ps q) : p = q := by
  obtain ⟨i, hi⟩ := List.mem_iff_getElem?.1 hp
  obtain ⟨j, hj⟩ := List.mem_iff_getElem?.1 hq
  rw [off_at hP.1 hi, off_at hP.1 hj] at h
  have key : ∀ {i j p c : Nat}, i < j → ps[i]? = some p → ob l p = some c → wrds l (ps.take i) < wrds l (ps.take j) := by
    intro i j p c hij hi hc
    have h1 := wrds_next hi hc
    have h2 : wrds l (ps.take (i + 1)) ≤ wrds l (ps.take j) := by
      have := wrds_take_le l (ps.take j) (i + 1)
      rw [List.take_take, Nat.min_eq_left (by omega)] at this
      exact this
    omega
  obtain ⟨c, hc⟩ := hP.ob p hp
  obtain ⟨d, hd⟩ := hP.ob q hq
  rcases Nat.lt_trichotomy i j with e | e | e
  · have := key e hi hc; omega
  · subst e; rw [hi] at hj; exact Option.some.inj hj
  · have := key e hj hd; omega
theorem meet1_mv {l : List Wrd} {ps qs : List Nat} (hP : PL l ps) (hq : ∀ q ∈ qs, q ∈ ps) {x : Wrd} (hx : x.K = 4 → x.N.toNat ∈ ps) : meet1 (nps l ps qs) (mvW l ps x) = nps l ps (meet1 qs x) := by
  by_cases hk : x.K = 4
  · have hm := hx hk
    have e : mvW l ps x = ⟨4, (offN l ps x.N.toNat : Int)⟩ := by unfold mvW; rw [if_pos hk]
    rw [e]
    have hiff : (offN l ps x.N.toNat ∈ nps l ps qs) ↔ x.N.toNat ∈ qs := by
      unfold nps
      constructor
      · intro h
        obtain ⟨q, h1, h2⟩ := List.mem_map.1 h
        rw [← off_inj hP (hq q h1) hm h2]
        exact h1
      · intro h
        exact List.mem_map.2 ⟨_, h, rfl⟩
    unfold meet1
    simp only [Int.toNat_natCast, true_and, hk]
    by_cases hmq : x.N.toNat ∈ qs
    · rw [if_neg (fun h => h (hiff.2 hmq)), if_neg (fun h => h hmq)]
    · rw [if_pos (fun h => hmq (hiff.1 h)), if_pos hmq]
      simp [nps]
  · have e : mvW l ps x = x := by unfold mvW; rw [if_neg hk]
    rw [e]
    unfold meet1
    rw [if_neg (fun h => hk h.1), if_neg (fun h => hk h.1)]
theorem meetL_mv {l : List Wrd} {ps : List Nat} (hP : PL l ps) : ∀ (ws : List Wrd) (qs : List Nat), (∀ q ∈ qs, q ∈ ps) → (∀ x ∈ ws, x.K = 4 → x.N.toNat ∈ ps) → meetL (nps l ps qs) (ws.map (mvW l ps)) = nps l ps (meetL qs ws)
  | [], qs, _, _ => rfl
  | x :: ws, qs, hq, hx => by
    have h1 := meet1_mv hP hq (hx x List.mem_cons_self)
    have h2 := meetL_mv hP ws (meet1 qs x) (meet1_sub hq (hx x List.mem_cons_self)) (fun y hy => hx y (List.mem_cons_of_mem _ hy))
    show meetL (meet1 (nps l ps qs) (mvW l ps x)) (ws.map (mvW l ps)) = _
    rw [h1]
    exact h2
theorem flds_mv {l : List Wrd} {ps : List Nat} (hP : PL l ps) {i p c : Nat} (hp : ps[i]? = some p) (hc : ob l p = some c) : flds (col l ps) (objL (col l ps) (offN l ps p)) = (flds l (objL l p)).map (mvW l ps) := by
  rw [off_at hP.1 hp]
  have e1 : objL (col l ps) (wrds l (ps.take i)) = (wrds l (ps.take i), c) := by unfold objL; rw [col_ob hP hp hc]; rfl
  have e2 : objL l p = (p, c) := by unfold objL; rw [hc]; rfl
  rw [e1, e2]
  obtain ⟨_, _, h1⟩ := ob_some (col_ob hP hp hc)
  obtain ⟨_, _, h2⟩ := ob_some hc
  apply List.ext_getElem?
  intro j
  rw [List.getElem?_map]
  by_cases hj : j < c
  · rw [fld_get hj h1, fld_get hj h2, Option.map_some, col_fld hP hp hc hj]
  · rw [flds_get, flds_get, if_neg hj, if_neg hj]
    rfl
theorem bfs_mv {l : List Wrd} {ps : List Nat} (hP : PL l ps) (hC : ∀ p ∈ ps, cls l p ps) : ∀ (f nx : Nat) (qs : List Nat), (∀ q ∈ qs, q ∈ ps) → bfs (col l ps) f nx (nps l ps qs) = nps l ps (bfs l f nx qs)
  | 0, nx, qs, _ => rfl
  | f + 1, nx, qs, hq => by
    cases hp : qs[nx]? with
    | none =>
      rw [bfs_stop hp, bfs_stop (by unfold nps; rw [List.getElem?_map, hp]; rfl)]
    | some p =>
      have hpm := hq p (List.mem_iff_getElem?.2 ⟨nx, hp⟩)
      obtain ⟨i, hi⟩ := List.mem_iff_getElem?.1 hpm
      obtain ⟨c, hc⟩ := hP.ob p hpm
      have hp' : (nps l ps qs)[nx]? = some (offN l ps p) := by unfold nps; rw [List.getElem?_map, hp]; rfl
      rw [bfs_step hp, bfs_step hp', flds_mv hP hi hc, meetL_mv hP _ qs hq (hC p hpm)]
      exact bfs_mv hP hC f (nx + 1) _ (meetL_sub _ _ hq (hC p hpm))

end Go.Proofs.YtapamdjoipofmaaDoor
