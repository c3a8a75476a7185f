/-
  What is reached, as plain values. No walk, no statement.
-/
import Derived.Test.YtaljpbgggembmaaDoorShxHo0
namespace Go.Proofs.YtaljpbgggembmaaDoor
open Go.RowKit
set_option linter.unusedVariables false
set_option linter.unusedSimpArgs false

/-- A word is met: the place that it names is put behind the others, if it is not among them. -/
def meet1 (ps : List Nat) (x : Wrd) : List Nat := if x.K = 4 ∧ x.N.toNat ∉ ps then ps ++ [x.N.toNat] else ps
def meetL (ps : List Nat) (ws : List Wrd) : List Nat := ws.foldl meet1 ps
theorem meetL_snoc (ps : List Nat) (ws : List Wrd) (x : Wrd) : meetL ps (ws ++ [x]) = meet1 (meetL ps ws) x := by simp [meetL]
theorem meet1_pre (ps : List Nat) (x : Wrd) : ps <+: meet1 ps x := by
  unfold meet1
  split
  · exact List.prefix_append _ _
  · exact List.prefix_refl _
theorem meetL_pre (ws : List Wrd) : ∀ ps : List Nat, ps <+: meetL ps ws := by
  induction ws with
  | nil => intro ps; exact List.prefix_refl _
  | cons x ws ih => intro ps; exact (meet1_pre ps x).trans (ih _)
theorem meet1_nodup {ps : List Nat} {x : Wrd} (h : ps.Nodup) : (meet1 ps x).Nodup := by
  unfold meet1
  split
  · rename_i hx
    rw [List.nodup_append]
    exact ⟨h, by simp, fun a ha b hb => by simp at hb; subst hb; intro e; subst e; exact hx.2 ha⟩
  · exact h
theorem meetL_nodup {ws : List Wrd} : ∀ {ps : List Nat}, ps.Nodup → (meetL ps ws).Nodup := by
  induction ws with
  | nil => intro ps h; exact h
  | cons x ws ih => intro ps h; exact ih (meet1_nodup h)

/-- A right word: where it names a place, one where an object is. -/
def RW (l : List Wrd) (x : Wrd) : Prop := x.K = 4 → ∃ a c : Nat, x.N = (a : Int) ∧ (a, c) ∈ allO l ∧ ob l a = some c
/-- Places of objects. -/
def PL (l : List Wrd) (ps : List Nat) : Prop := ps.Nodup ∧ ∀ p ∈ ps, ∃ c, (p, c) ∈ allO l ∧ ob l p = some c

theorem rgt_RW {l : List Wrd} {x : Wrd} (h : rgt (heads l) x = true) : RW l x := by
  intro hk
  unfold rgt at h
  rw [if_neg (by omega), if_neg (by omega), if_neg (by omega), if_pos hk, heads_len] at h
  simp only [Bool.and_eq_true, decide_eq_true_eq] at h
  obtain ⟨⟨h0, h1⟩, h2⟩ := h
  obtain ⟨a, ha⟩ : ∃ a : Nat, x.N = a := ⟨x.N.toNat, by omega⟩
  rw [ha] at h2
  simp only [Int.toNat_natCast] at h2
  unfold heads at h2
  rw [hd_get _ _ _ (by omega), List.any_eq_true] at h2
  obtain ⟨y, hy, hye⟩ := h2
  have e : y.1 = a := by simpa using hye
  obtain ⟨_, _, hob⟩ := vis_bound (vis_all l).1 y hy
  refine ⟨a, y.2, ha, ?_, by rw [← e]; exact hob⟩
  rw [← e]
  exact hy
theorem PL.meet1 {l : List Wrd} {ps : List Nat} {x : Wrd} (h : PL l ps) (hx : RW l x) : PL l (meet1 ps x) := by
  refine ⟨meet1_nodup h.1, fun p hp => ?_⟩
  unfold Go.Proofs.YtaljpbgggembmaaDoor.meet1 at hp
  split at hp
  · rename_i hc
    rcases List.mem_append.1 hp with hp | hp
    · exact h.2 p hp
    · simp at hp
      obtain ⟨a, c, ha, h1, h2⟩ := hx hc.1
      have : p = a := by rw [hp, ha]; simp
      subst this
      exact ⟨c, h1, h2⟩
  · exact h.2 p hp
theorem PL.meetL {l : List Wrd} {ws : List Wrd} (hw : ∀ x ∈ ws, RW l x) : ∀ {ps : List Nat}, PL l ps → PL l (meetL ps ws) := by
  induction ws with
  | nil => intro ps h; exact h
  | cons x ws ih => intro ps h; exact ih (fun y hy => hw y (List.mem_cons_of_mem _ hy)) (h.meet1 (hw x List.mem_cons_self))
theorem PL.lt {l : List Wrd} {ps : List Nat} (h : PL l ps) {p : Nat} (hp : p ∈ ps) : p < l.length := by
  obtain ⟨c, _, h2⟩ := h.2 p hp
  exact (ob_some h2).1
theorem nodup_le : ∀ (ps qs : List Nat), ps.Nodup → (∀ p ∈ ps, p ∈ qs) → ps.length ≤ qs.length
  | [], qs, _, _ => Nat.zero_le _
  | p :: ps, qs, hn, hs => by
    have hp := hs p List.mem_cons_self
    have hn' := List.nodup_cons.1 hn
    have h1 := nodup_le ps (qs.erase p) hn'.2 (fun x hx => (List.mem_erase_of_ne (fun e => hn'.1 (by rw [← e]; exact hx))).2 (hs x (List.mem_cons_of_mem _ hx)))
    have h2 := List.length_erase_of_mem hp
    have h3 := List.length_pos_of_mem hp
    simp only [List.length_cons]
    omega
theorem PL.len {l : List Wrd} {ps : List Nat} (h : PL l ps) : ps.length ≤ l.length := by
  have h1 := nodup_le ps (List.range l.length) h.1 (fun p hp => List.mem_range.2 (h.lt hp))
  simpa using h1

/-- The object at a place. -/
def objL (l : List Wrd) (a : Nat) : Nat × Nat := (a, (ob l a).getD 0)
/-- All that is reached, from the places that are met. -/
def bfs (l : List Wrd) : Nat → Nat → List Nat → List Nat
  | 0, _, ps => ps
  | f + 1, nx, ps => match ps[nx]? with
    | some p => bfs l f (nx + 1) (meetL ps (flds l (objL l p)))
    | none => ps
def plc (l : List Wrd) (roots : List Wrd) : List Nat := bfs l (l.length + 1) 0 (meetL [] roots)
def wrds (l : List Wrd) (ps : List Nat) : Nat := (ps.map fun a => (ob l a).getD 0 + 1).sum

theorem okH_flds {s : Int} {l : List Wrd} (h : okH s l = true) {x : Nat × Nat} (hx : x ∈ allO l) : ∀ y ∈ flds l x, RW l y := by
  unfold okH at h
  simp only [Bool.and_eq_true] at h
  have hf := h.2.2
  unfold fok at hf
  rw [List.all_eq_true] at hf
  have h2 := hf x hx
  rw [List.all_eq_true] at h2
  exact fun y hy => rgt_RW (h2 y hy)
theorem okH_objL {s : Int} {l : List Wrd} (h : okH s l = true) {ps : List Nat} (hP : PL l ps) {p : Nat} (hp : p ∈ ps) : ∀ y ∈ flds l (objL l p), RW l y := by
  obtain ⟨c, h1, h2⟩ := hP.2 p hp
  have e : objL l p = (p, c) := by unfold objL; rw [h2]; rfl
  rw [e]
  exact okH_flds h h1

theorem bfs_pre (l : List Wrd) : ∀ (f nx : Nat) (ps : List Nat), ps <+: bfs l f nx ps
  | 0, nx, ps => List.prefix_refl _
  | f + 1, nx, ps => by
    unfold bfs
    split
    · exact (meetL_pre _ _).trans (bfs_pre l f _ _)
    · exact List.prefix_refl _
theorem bfs_PL {s : Int} {l : List Wrd} (h : okH s l = true) : ∀ (f nx : Nat) (ps : List Nat), PL l ps → PL l (bfs l f nx ps)
  | 0, nx, ps, hP => hP
  | f + 1, nx, ps, hP => by
    unfold bfs
    split
    · rename_i p hp
      exact bfs_PL h f _ _ (PL.meetL (okH_objL h hP (List.mem_of_getElem? hp)) hP)
    · exact hP
theorem bfs_step {l : List Wrd} {f nx : Nat} {ps : List Nat} {p : Nat} (hp : ps[nx]? = some p) : bfs l (f + 1) nx ps = bfs l f (nx + 1) (meetL ps (flds l (objL l p))) := by
  rw [bfs, hp]
theorem bfs_stop {l : List Wrd} {f nx : Nat} {ps : List Nat} (hp : ps[nx]? = none) : bfs l f nx ps = ps := by
  cases f with
  | zero => rfl
  | succ f => rw [bfs, hp]

/-- On the way: from here on the same is reached. -/
def Way (l : List Wrd) (roots : List Wrd) (nx : Nat) (ps : List Nat) : Prop := PL l ps ∧ nx ≤ ps.length ∧ ∃ f, l.length + 1 ≤ f + nx ∧ bfs l f nx ps = plc l roots
theorem Way.start {l : List Wrd} {roots : List Wrd} (hr : ∀ x ∈ roots, RW l x) : Way l roots 0 (meetL [] roots) :=
  ⟨PL.meetL hr ⟨List.nodup_nil, fun p hp => by cases hp⟩, Nat.zero_le _, l.length + 1, by omega, rfl⟩
theorem Way.next {s : Int} {l : List Wrd} {roots : List Wrd} (h : okH s l = true) {nx : Nat} {ps : List Nat} (hW : Way l roots nx ps) {p : Nat} (hp : ps[nx]? = some p) : Way l roots (nx + 1) (meetL ps (flds l (objL l p))) := by
  obtain ⟨hP, hn, f, hf, hb⟩ := hW
  have hlt := (List.getElem?_eq_some_iff.1 hp).1
  have hl := hP.len
  obtain ⟨g, rfl⟩ : ∃ g, f = g + 1 := ⟨f - 1, by omega⟩
  refine ⟨PL.meetL (okH_objL h hP (List.mem_of_getElem? hp)) hP, ?_, g, by omega, by rw [← bfs_step hp]; exact hb⟩
  have := (meetL_pre (flds l (objL l p)) ps).length_le
  omega
theorem Way.done {l : List Wrd} {roots : List Wrd} {nx : Nat} {ps : List Nat} (hW : Way l roots nx ps) (hp : ps[nx]? = none) : ps = plc l roots := by
  obtain ⟨hP, hn, f, hf, hb⟩ := hW
  rw [← hb, bfs_stop hp]
theorem Way.pre {l : List Wrd} {roots : List Wrd} {nx : Nat} {ps : List Nat} (hW : Way l roots nx ps) : ps <+: plc l roots := by
  obtain ⟨_, _, f, _, hb⟩ := hW
  rw [← hb]
  exact bfs_pre l f nx ps

end Go.Proofs.YtaljpbgggembmaaDoor
