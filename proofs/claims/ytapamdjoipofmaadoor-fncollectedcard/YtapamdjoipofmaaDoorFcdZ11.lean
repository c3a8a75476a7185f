/-
  The program's 'headsOf' at every heap, and 'HeapOk'.
-/
import Derived.Test.YtapamdjoipofmaaDoorFcdHp
import Derived.Test.YtapamdjoipofmaaDoorFcdHo0
namespace Go.Proofs.YtapamdjoipofmaaDoor
open Go.RowKit
set_option linter.unusedVariables false
set_option linter.unusedSimpArgs false

set_option maxRecDepth 100000 in
set_option maxHeartbeats 2000000 in
theorem headsOf_out (s : Int) (ao : Option Addr) (len cap : Nat) (l : List Wrd) (w : World) (hlen : len = l.length) (hl : len ≤ 1048576) (hwk : wok s l = false) :
    Calls Tryd.prog 22 #[vH s ao len cap] w fun e w' => e = .returned (.tuple #[.slice none 0 0, .bool false]) ∧ Below w.heap.size w w' := by
  obtain ⟨X, hX⟩ : ∃ X, X = ((w.alloc (.cells #[.int .i64 s, .slice ao len cap] 26)).alloc (.cells #[.slice none 0 0] 53)).alloc (.cells #[.bool false] 4) := ⟨_, rfl⟩
  have hXs : X.heap.size = w.heap.size + 3 := by rw [hX]; simp
  have hXb : Below w.heap.size w X := by rw [hX]; exact (((Below.refl _ _).alloc (Nat.le_refl _) _).alloc (by simp) _).alloc (by simp; omega) _
  have x0 : X.heap[w.heap.size]? = some (.cells #[.int .i64 s, .slice ao len cap] 26 (0, 0)) := by
    rw [hX, Below.heap_alloc _ _ _ (by simp; omega), Below.heap_alloc _ _ _ (by simp)]; exact heap_new (by simp)
  have x1 : X.heap[w.heap.size + 1]? = some (.cells #[.slice none 0 0] 53 (0, 0)) := by
    rw [hX, Below.heap_alloc _ _ _ (by simp)]; exact heap_new (by simp)
  have x2 : X.heap[w.heap.size + 1 + 1]? = some (.cells #[.bool false] 4 (0, 0)) := by
    rw [hX]; exact heap_new (by simp)
  have KP := heapSizeOk_any s X
  have HX : Hid (X = _) := hX
  have RW := two_cells (by omega) x1 x2 (by omega) (by omega) hXb (.slice none 0 0) (.bool false)
  have HRW : Hid (∀ Z, Z = _ → _) := RW
  have HW : Hid (sizeB s = true → ¬ (len : Int) ≤ s) := by
    intro h1 h2
    unfold wok at hwk
    rw [h1, ← hlen] at hwk
    simp at hwk
    omega
  clear hX hwk hlen RW
  obtain ⟨f0, f1⟩ := cells2 x0
  have q1 := row_cell x1 0
  have q2 := row_cell x2 0
  have r1 := row_free x1 0
  have r2 := row_free x2 0
  have hx3 : w.heap.size < X.heap.size := by omega
  clear hXs
  cases hsz : sizeB s with
  | false =>
    rw [hsz] at KP
    clear hsz
    go_enter Tryd.func22, Tryd.ntmps22
    go_wp2_with fail
    rw [← HX.out]
    refine KP.mono ?_
    rintro e w1 ⟨rfl, hw1⟩
    obtain rfl : X = w1 := hw1.symm
    clear KP
    go_wp2_with fail
    obtain ⟨t1, t2, t3, t4, t5⟩ := HRW.out _ rfl
    have s0 := row_cell t2 0
    have s1 := row_cell t3 0
    exact bodyPost_ret (v := .tuple #[.slice none 0 0, .bool false]) (by simp [results, Tryd.results22, go_sem, s0, s1]) rfl ⟨rfl, t4⟩
  | true =>
    have hfit := HW.out hsz
    rw [hsz] at KP
    clear hsz
    go_enter Tryd.func22, Tryd.ntmps22
    go_wp2_with fail
    rw [← HX.out]
    refine KP.mono ?_
    rintro e w1 ⟨rfl, hw1⟩
    obtain rfl : X = w1 := hw1.symm
    clear KP
    go_wp2_with fail
    obtain ⟨t1, t2, t3, t4, t5⟩ := HRW.out _ rfl
    have s0 := row_cell t2 0
    have s1 := row_cell t3 0
    exact bodyPost_ret (v := .tuple #[.slice none 0 0, .bool false]) (by simp [results, Tryd.results22, go_sem, s0, s1]) rfl ⟨rfl, t4⟩

theorem headsOf_any (L B : Nat) (s : Int) (ao : Option Addr) (len cap : Nat) (l : List Wrd) (w : World) (hB : B ≤ w.heap.size) (hs : Ws L B w ao len l) (hl : len ≤ 1048576) (hcap : len ≤ cap) :
    Calls Tryd.prog 22 #[vH s ao len cap] w fun e w' => HoEnd w.heap.size (okH s l) len (heads l) e w' ∧ Below w.heap.size w w' := by
  cases hw : wok s l with
  | true =>
    have e : okH s l = (decide (endO l = l.length) && fok l) := by unfold okH; rw [hw, Bool.true_and]
    rw [e]
    exact headsOf_in L B s ao len cap l w hB hs hl hcap hw
  | false =>
    have e : okH s l = false := by unfold okH; rw [hw, Bool.false_and]
    rw [e]
    exact headsOf_out s ao len cap l w hs.1 hl hw

end Go.Proofs.YtapamdjoipofmaaDoor

/-
  The program's 'rootsRight' and 'Reached'.
-/
namespace Go.Proofs.YtapamdjoipofmaaDoor
open Go.RowKit Go.Shelf
set_option linter.unusedVariables false
set_option linter.unusedSimpArgs false

/-- Roots of a heap that are right. -/
def rokB (s : Int) (l roots : List Wrd) : Bool := okH s l && roots.all (rgt (heads l))

set_option maxHeartbeats 1000000 in
theorem rootsRight_any (L B Lr Br : Nat) (s : Int) (ao : Option Addr) (len cap : Nat) (l : List Wrd) (ar : Option Addr) (nr cr : Nat) (roots : List Wrd) (w : World) (hB : B ≤ w.heap.size) (hBr : Br ≤ w.heap.size) (hs : Ws L B w ao len l) (hr : Ws Lr Br w ar nr roots) (hl : len ≤ 1048576) (hnr : nr ≤ 1048576) (hcap : len ≤ cap) :
    Calls Tryd.prog 17 #[vH s ao len cap, .slice ar nr cr] w fun e w' => e = .returned (.bool (rokB s l roots)) ∧ Below w.heap.size w w' := by
  have HL : Hid (len = l.length) := hs.1
  have HR : Hid (rokB s l roots = (okH s l && roots.all (rgt (heads l)))) := rfl
  obtain ⟨ans, hans⟩ : ∃ b, rokB s l roots = b := ⟨_, rfl⟩
  rw [hans] at HR ⊢
  clear hans
  have hXb : Below w.heap.size w (w.alloc (.cells #[.int .i64 s, .slice ao len cap] 26)) := (Below.refl _ _).alloc (Nat.le_refl _) _
  have K := headsOf_any L B s ao len cap l _ (by simp; omega) (hs.below hXb hB) hl hcap
  obtain ⟨q, hq⟩ : ∃ q, okH s l = q := ⟨_, rfl⟩
  rw [hq] at K HR
  clear hq
  cases q with
  | false =>
    have HE : Hid (ans = false) := HR.out
    go_enter Tryd.func17, Tryd.ntmps17
    go_wp2_with fail
    refine K.mono ?_
    rintro e w1 ⟨he, hb1⟩
    obtain rfl : e = .returned (.tuple #[.slice none 0 0, .bool false]) := he
    have hbw : Below w.heap.size w w1 := hXb.trans (hb1.mono (by simp))
    clear K
    go_wp2_with fail
    go_ret
    exact ⟨ret_bool (by rw [HE.out]), hbw⟩
  | true =>
    have HE : Hid (ans = roots.all (rgt (heads l))) := HR.out
    go_enter Tryd.func17, Tryd.ntmps17
    go_wp2_with fail
    refine K.mono ?_
    rintro e w1 ⟨he, hb1⟩
    obtain ⟨g, rfl, _, hR⟩ := he
    have hbw : Below w.heap.size w w1 := hXb.trans (hb1.mono (by simp))
    have K2 := right_any g len len (heads l) Lr Br ar nr cr roots w1 hR (by rw [heads_len]; exact HL.out) hl (Nat.le_trans hBr hbw.size) (hr.below hbw hBr) hnr
    rw [← HE.out] at K2
    clear K
    go_wp2_with fail
    refine K2.mono ?_
    rintro e w2 ⟨rfl, hb2⟩
    clear K2
    have hbw2 : Below w.heap.size w w2 := hbw.trans (hb2.mono hbw.size)
    go_wp2_with fail
    go_ret
    exact ⟨rfl, hbw2⟩

end Go.Proofs.YtapamdjoipofmaaDoor

/-
  What is reached, as plain values. No walk, no statement.
-/
namespace Go.Proofs.YtapamdjoipofmaaDoor
open Go.RowKit
set_option linter.unusedVariables false
set_option linter.unusedSimpArgs false

/-- A word is met: the place that it names is put behind the others, if it is not among them. -/
def meet1 (ps : List Nat) (x : Wrd) : List Nat := if x.K = 4 ∧ x.N.toNat ∉ ps then ps ++ [x.N.toNat] else ps
def meetL (ps : List Nat) (ws : List Wrd) : List Nat := ws.foldl meet1 ps
theorem meetL_snoc (ps : List Nat) (ws : List Wrd) (x : Wrd) : meetL ps (ws ++ [x]) = meet1 (meetL ps ws) x := by simp [meetL]
theorem meet1_pre (ps : List Nat) (x : Wrd) : ps <+: meet1 ps x := by
  unfold meet1
  split
  · exact List.prefix_append _ _
  · exact List.prefix_refl _
theorem meetL_pre (ws : List Wrd) : ∀ ps : List Nat, ps <+: meetL ps ws := by
  induction ws with
  | nil => intro ps; exact List.prefix_refl _
  | cons x ws ih => intro ps; exact (meet1_pre ps x).trans (ih _)
theorem meet1_nodup {ps : List Nat} {x : Wrd} (h : ps.Nodup) : (meet1 ps x).Nodup := by
  unfold meet1
  split
  · rename_i hx
    rw [List.nodup_append]
    exact ⟨h, by simp, fun a ha b hb => by simp at hb; subst hb; intro e; subst e; exact hx.2 ha⟩
  · exact h
theorem meetL_nodup {ws : List Wrd} : ∀ {ps : List Nat}, ps.Nodup → (meetL ps ws).Nodup := by
  induction ws with
  | nil => intro ps h; exact h
  | cons x ws ih => intro ps h; exact ih (meet1_nodup h)

/-- A right word: where it names a place, one where an object is. -/
def RW (l : List Wrd) (x : Wrd) : Prop := x.K = 4 → ∃ a c : Nat, x.N = (a : Int) ∧ (a, c) ∈ allO l ∧ ob l a = some c
/-- Places of objects. -/
def PL (l : List Wrd) (ps : List Nat) : Prop := ps.Nodup ∧ ∀ p ∈ ps, ∃ c, (p, c) ∈ allO l ∧ ob l p = some c

theorem rgt_RW {l : List Wrd} {x : Wrd} (h : rgt (heads l) x = true) : RW l x := by
  intro hk
  unfold rgt at h
  rw [if_neg (by omega), if_neg (by omega), if_neg (by omega), if_pos hk, heads_len] at h
  simp only [Bool.and_eq_true, decide_eq_true_eq] at h
  obtain ⟨⟨h0, h1⟩, h2⟩ := h
  obtain ⟨a, ha⟩ : ∃ a : Nat, x.N = a := ⟨x.N.toNat, by omega⟩
  rw [ha] at h2
  simp only [Int.toNat_natCast] at h2
  unfold heads at h2
  rw [hd_get _ _ _ (by omega), List.any_eq_true] at h2
  obtain ⟨y, hy, hye⟩ := h2
  have e : y.1 = a := by simpa using hye
  obtain ⟨_, _, hob⟩ := vis_bound (vis_all l).1 y hy
  refine ⟨a, y.2, ha, ?_, by rw [← e]; exact hob⟩
  rw [← e]
  exact hy
theorem PL.meet1 {l : List Wrd} {ps : List Nat} {x : Wrd} (h : PL l ps) (hx : RW l x) : PL l (meet1 ps x) := by
  refine ⟨meet1_nodup h.1, fun p hp => ?_⟩
  unfold Go.Proofs.YtapamdjoipofmaaDoor.meet1 at hp
  split at hp
  · rename_i hc
    rcases List.mem_append.1 hp with hp | hp
    · exact h.2 p hp
    · simp at hp
      obtain ⟨a, c, ha, h1, h2⟩ := hx hc.1
      have : p = a := by rw [hp, ha]; simp
      subst this
      exact ⟨c, h1, h2⟩
  · exact h.2 p hp
theorem PL.meetL {l : List Wrd} {ws : List Wrd} (hw : ∀ x ∈ ws, RW l x) : ∀ {ps : List Nat}, PL l ps → PL l (meetL ps ws) := by
  induction ws with
  | nil => intro ps h; exact h
  | cons x ws ih => intro ps h; exact ih (fun y hy => hw y (List.mem_cons_of_mem _ hy)) (h.meet1 (hw x List.mem_cons_self))
theorem PL.lt {l : List Wrd} {ps : List Nat} (h : PL l ps) {p : Nat} (hp : p ∈ ps) : p < l.length := by
  obtain ⟨c, _, h2⟩ := h.2 p hp
  exact (ob_some h2).1
theorem nodup_le : ∀ (ps qs : List Nat), ps.Nodup → (∀ p ∈ ps, p ∈ qs) → ps.length ≤ qs.length
  | [], qs, _, _ => Nat.zero_le _
  | p :: ps, qs, hn, hs => by
    have hp := hs p List.mem_cons_self
    have hn' := List.nodup_cons.1 hn
    have h1 := nodup_le ps (qs.erase p) hn'.2 (fun x hx => (List.mem_erase_of_ne (fun e => hn'.1 (by rw [← e]; exact hx))).2 (hs x (List.mem_cons_of_mem _ hx)))
    have h2 := List.length_erase_of_mem hp
    have h3 := List.length_pos_of_mem hp
    simp only [List.length_cons]
    omega
theorem PL.len {l : List Wrd} {ps : List Nat} (h : PL l ps) : ps.length ≤ l.length := by
  have h1 := nodup_le ps (List.range l.length) h.1 (fun p hp => List.mem_range.2 (h.lt hp))
  simpa using h1

/-- The object at a place. -/
def objL (l : List Wrd) (a : Nat) : Nat × Nat := (a, (ob l a).getD 0)
/-- All that is reached, from the places that are met. -/
def bfs (l : List Wrd) : Nat → Nat → List Nat → List Nat
  | 0, _, ps => ps
  | f + 1, nx, ps => match ps[nx]? with
    | some p => bfs l f (nx + 1) (meetL ps (flds l (objL l p)))
    | none => ps
def plc (l : List Wrd) (roots : List Wrd) : List Nat := bfs l (l.length + 1) 0 (meetL [] roots)
def wrds (l : List Wrd) (ps : List Nat) : Nat := (ps.map fun a => (ob l a).getD 0 + 1).sum

theorem okH_flds {s : Int} {l : List Wrd} (h : okH s l = true) {x : Nat × Nat} (hx : x ∈ allO l) : ∀ y ∈ flds l x, RW l y := by
  unfold okH at h
  simp only [Bool.and_eq_true] at h
  have hf := h.2.2
  unfold fok at hf
  rw [List.all_eq_true] at hf
  have h2 := hf x hx
  rw [List.all_eq_true] at h2
  exact fun y hy => rgt_RW (h2 y hy)
theorem okH_objL {s : Int} {l : List Wrd} (h : okH s l = true) {ps : List Nat} (hP : PL l ps) {p : Nat} (hp : p ∈ ps) : ∀ y ∈ flds l (objL l p), RW l y := by
  obtain ⟨c, h1, h2⟩ := hP.2 p hp
  have e : objL l p = (p, c) := by unfold objL; rw [h2]; rfl
  rw [e]
  exact okH_flds h h1

theorem bfs_pre (l : List Wrd) : ∀ (f nx : Nat) (ps : List Nat), ps <+: bfs l f nx ps
  | 0, nx, ps => List.prefix_refl _
  | f + 1, nx, ps => by
    unfold bfs
    split
    · exact (meetL_pre _ _).trans (bfs_pre l f _ _)
    · exact List.prefix_refl _
theorem bfs_PL {s : Int} {l : List Wrd} (h : okH s l = true) : ∀ (f nx : Nat) (ps : List Nat), PL l ps → PL l (bfs l f nx ps)
  | 0, nx, ps, hP => hP
  | f + 1, nx, ps, hP => by
    unfold bfs
    split
    · rename_i p hp
      exact bfs_PL h f _ _ (PL.meetL (okH_objL h hP (List.mem_of_getElem? hp)) hP)
    · exact hP
theorem bfs_step {l : List Wrd} {f nx : Nat} {ps : List Nat} {p : Nat} (hp : ps[nx]? = some p) : bfs l (f + 1) nx ps = bfs l f (nx + 1) (meetL ps (flds l (objL l p))) := by
  rw [bfs, hp]
theorem bfs_stop {l : List Wrd} {f nx : Nat} {ps : List Nat} (hp : ps[nx]? = none) : bfs l f nx ps = ps := by
  cases f with
  | zero => rfl
  | succ f => rw [bfs, hp]

/-- On the way: from here on the same is reached. -/
def Way (l : List Wrd) (roots : List Wrd) (nx : Nat) (ps : List Nat) : Prop := PL l ps ∧ nx ≤ ps.length ∧ ∃ f, l.length + 1 ≤ f + nx ∧ bfs l f nx ps = plc l roots
theorem Way.start {l : List Wrd} {roots : List Wrd} (hr : ∀ x ∈ roots, RW l x) : Way l roots 0 (meetL [] roots) :=
  ⟨PL.meetL hr ⟨List.nodup_nil, fun p hp => by cases hp⟩, Nat.zero_le _, l.length + 1, by omega, rfl⟩
theorem Way.next {s : Int} {l : List Wrd} {roots : List Wrd} (h : okH s l = true) {nx : Nat} {ps : List Nat} (hW : Way l roots nx ps) {p : Nat} (hp : ps[nx]? = some p) : Way l roots (nx + 1) (meetL ps (flds l (objL l p))) := by
  obtain ⟨hP, hn, f, hf, hb⟩ := hW
  have hlt := (List.getElem?_eq_some_iff.1 hp).1
  have hl := hP.len
  obtain ⟨g, rfl⟩ : ∃ g, f = g + 1 := ⟨f - 1, by omega⟩
  refine ⟨PL.meetL (okH_objL h hP (List.mem_of_getElem? hp)) hP, ?_, g, by omega, by rw [← bfs_step hp]; exact hb⟩
  have := (meetL_pre (flds l (objL l p)) ps).length_le
  omega
theorem Way.done {l : List Wrd} {roots : List Wrd} {nx : Nat} {ps : List Nat} (hW : Way l roots nx ps) (hp : ps[nx]? = none) : ps = plc l roots := by
  obtain ⟨hP, hn, f, hf, hb⟩ := hW
  rw [← hb, bfs_stop hp]
theorem Way.pre {l : List Wrd} {roots : List Wrd} {nx : Nat} {ps : List Nat} (hW : Way l roots nx ps) : ps <+: plc l roots := by
  obtain ⟨_, _, f, _, hb⟩ := hW
  rw [← hb]
  exact bfs_pre l f nx ps

end Go.Proofs.YtapamdjoipofmaaDoor
