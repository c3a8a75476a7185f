/-
  Rows of terms that can be appended to; the terms in them share their memory with others. No walk.
-/
import Derived.Test.YtgckmnchlkgakaaLmbToM0
import Derived.Test.YtgckmnchlkgakaaLmbLf00
namespace Go.Proofs.Ytgckmnchlkgakaa
open Go.RowKit
set_option linter.unusedVariables false
set_option linter.unusedSimpArgs false

/-- Stores into two blocks, in either order. -/
theorem set_comm (w : World) {b c i j : Nat} (h : b ≠ c) (x y : Value) : (w.setCell ⟨b, i, none⟩ x).setCell ⟨c, j, none⟩ y = (w.setCell ⟨c, j, none⟩ y).setCell ⟨b, i, none⟩ x := by
  unfold World.setCell
  congr 1
  apply Array.ext_getElem?
  intro k
  simp only [Array.getElem?_modify]
  by_cases h1 : b = k
  · subst h1
    rw [if_pos rfl, if_pos rfl, if_neg (fun e => h e.symm), if_neg (fun e => h e.symm)]
  · rw [if_neg h1, if_neg h1]
theorem set9_comm (w : World) {p g i o : Nat} (h : p ≠ g) (x a0 a1 a2 a3 a4 a5 a6 a7 a8 : Value) : set9 (w.setCell ⟨p, i, none⟩ x) g o a0 a1 a2 a3 a4 a5 a6 a7 a8 = (set9 w g o a0 a1 a2 a3 a4 a5 a6 a7 a8).setCell ⟨p, i, none⟩ x := by
  unfold set9 set3
  rw [set_comm _ h, set_comm _ h, set_comm _ h, set_comm _ h, set_comm _ h, set_comm _ h, set_comm _ h, set_comm _ h, set_comm _ h]
/-- Nine stores, written out. -/
theorem set9_eq (w : World) (g o : Nat) (a0 a1 a2 a3 a4 a5 a6 a7 a8 : Value) : set9 w g o a0 a1 a2 a3 a4 a5 a6 a7 a8 = ((((((((w.setCell ⟨g, o, none⟩ a0).setCell ⟨g, o + 1, none⟩ a1).setCell ⟨g, o + 2, none⟩ a2).setCell ⟨g, o + 3, none⟩ a3).setCell ⟨g, o + 4, none⟩ a4).setCell ⟨g, o + 5, none⟩ a5).setCell ⟨g, o + 6, none⟩ a6).setCell ⟨g, o + 7, none⟩ a7).setCell ⟨g, o + 8, none⟩ a8 := rfl

/-- The nine cells of a term. -/
def c9 (t : Tm) (a1 : Option Addr) (l1 c1 : Nat) (a2 : Option Addr) (l2 c2 : Nat) (a3 : Option Addr) (l3 c3 : Nat) : List Value := [.int .i64 t.K, .int .i64 t.N, .string t.S, .string t.Z, .int .i64 t.T.K, .int .i64 t.T.N, .slice a1 l1 c1, .slice a2 l2 c2, .slice a3 l3 c3]
def z9 : List Value := [.int .i64 0, .int .i64 0, .string ⟨#[]⟩, .string ⟨#[]⟩, .int .i64 0, .int .i64 0, .slice none 0 0, .slice none 0 0, .slice none 0 0]

/-- A row of terms; they lie in blocks from L on and below B, the row's own block from base on. -/
def TRow (L B base : Nat) (w : World) (D d : Nat) (v : Value) (ts : List Tm) : Prop :=
  ∃ xs, w.ownsRow base 36 9 v ts.length xs ∧ ∀ i (_ : i < ts.length), ∃ a1 l1 c1 a2 l2 c2 a3 l3 c3, (∀ j, j < 9 → xs[i * 9 + j]? = (c9 ts[i] a1 l1 c1 a2 l2 c2 a3 l3 c3)[j]?) ∧ Fm L B w D d ts[i] a1 l1 a2 l2 a3 l3

theorem owns_keep {base e size : Nat} {w w' : World} {v : Value} {n : Nat} {xs : List Value} (h : w.ownsRow base e size v n xs) (hk : ∀ g, v.ownBlock = some g → w'.heap[g]? = w.heap[g]?) : w'.ownsRow base e size v n xs := by
  refine ⟨h.1, ?_⟩
  rcases h.2 with hn | ⟨g, cap, cur, rfl, hg, hh, r⟩
  · exact Or.inl hn
  · exact Or.inr ⟨g, cap, cur, rfl, hg, (hk g rfl).trans hh, r⟩

theorem trow_nil (L B base : Nat) (w : World) (D d : Nat) : TRow L B base w D d (.slice none 0 0) [] := ⟨[], World.ownsRow_nil _ _ _ _, fun i hi => by simp at hi⟩
theorem trow_emp {L B base : Nat} {w : World} {D d b : Nat} (h : w.heap[b]? = some (.cells #[] 36 (0, 0))) (hb : base ≤ b) : TRow L B base w D d (.slice (some ⟨b, 0, none⟩) 0 0) [] :=
  ⟨[], ⟨by simp, Or.inr ⟨b, 0, #[], by simp, hb, h, by simp, by simp, by simp, by simp⟩⟩, fun i hi => by simp at hi⟩

theorem trow_own {L B base : Nat} {w : World} {D d : Nat} {v : Value} {ts : List Tm} (h : TRow L B base w D d v ts) {g : Nat} (hg : v.ownBlock = some g) : base ≤ g ∧ g < w.heap.size := by
  obtain ⟨xs, h, _⟩ := h
  rcases h.2 with ⟨rfl, _⟩ | ⟨g', cap, cur, rfl, hb, hh, _⟩
  · cases hg
  · have e : g' = g := by simpa [Value.ownBlock] using hg
    subst e
    exact ⟨hb, (Array.getElem?_eq_some_iff.1 hh).1⟩

theorem trow_form {L B base : Nat} {w : World} {D d : Nat} {v : Value} {ts : List Tm} (h : TRow L B base w D d v ts) : ∃ ao cap, v = .slice ao ts.length cap := by
  obtain ⟨xs, h, _⟩ := h
  rcases h.2 with ⟨rfl, hn⟩ | ⟨g, cap, cur, rfl, _⟩
  · exact ⟨none, 0, by rw [hn]⟩
  · exact ⟨_, cap, rfl⟩

theorem trow_keep {L B base : Nat} {w w' : World} {D d : Nat} {v : Value} {ts : List Tm} (h : TRow L B base w D d v ts) (hv : ∀ g, v.ownBlock = some g → w'.heap[g]? = w.heap[g]?) (hm : ∀ k, L ≤ k → k < B → w'.heap[k]? = w.heap[k]?) : TRow L B base w' D d v ts := by
  obtain ⟨xs, h1, h2⟩ := h
  refine ⟨xs, owns_keep h1 hv, fun i hi => ?_⟩
  obtain ⟨a1, l1, c1, a2, l2, c2, a3, l3, c3, h3, h4⟩ := h2 i hi
  exact ⟨a1, l1, c1, a2, l2, c2, a3, l3, c3, h3, Fm.keep hm (Nat.le_refl _) (Nat.le_refl _) h4⟩
theorem trow_bel {L B base : Nat} {w w' : World} {D d : Nat} {v : Value} {ts : List Tm} (h : TRow L B base w D d v ts) (hb : Below w.heap.size w w') (hB : B ≤ w.heap.size) : TRow L B base w' D d v ts :=
  trow_keep h (fun g hg => hb.block g (trow_own h hg).2) (fun k _ hk => hb.block k (by omega))
theorem trow_le {L B base base' : Nat} {w : World} {D d : Nat} {v : Value} {ts : List Tm} (h : TRow L B base w D d v ts) (hb : base' ≤ base) : TRow L B base' w D d v ts := by
  obtain ⟨xs, h1, h2⟩ := h
  exact ⟨xs, ⟨h1.1, h1.2.elim Or.inl (fun ⟨g, cap, cur, hv, hg, r⟩ => Or.inr ⟨g, cap, cur, hv, Nat.le_trans hb hg, r⟩)⟩, h2⟩

/-- The i-th of a row. -/
theorem trow_at {L B base : Nat} {w : World} {D d : Nat} {v : Value} {ts : List Tm} (h : TRow L B base w D d v ts) (i : Nat) (hi : i < ts.length) : ∃ g cap, v = .slice (some ⟨g, 0, none⟩) ts.length cap ∧ base ≤ g ∧ g < w.heap.size ∧
    ∃ a1 l1 c1 a2 l2 c2 a3 l3 c3, Nine w g (i * 9) ts[i].K ts[i].N ts[i].S ts[i].Z ts[i].T.K ts[i].T.N (.slice a1 l1 c1) (.slice a2 l2 c2) (.slice a3 l3 c3) ∧ Fm L B w D d ts[i] a1 l1 a2 l2 a3 l3 := by
  obtain ⟨xs, h1, h2⟩ := h
  obtain ⟨a1, l1, c1, a2, l2, c2, a3, l3, c3, h3, h4⟩ := h2 i hi
  rcases h1.2 with ⟨rfl, hn⟩ | ⟨g, cap, cur, rfl, hg, hh, q1, q2, q3, q4⟩
  · omega
  · have look : ∀ j, j < 9 → w.cell? ⟨g, i * 9 + j, none⟩ = (c9 ts[i] a1 l1 c1 a2 l2 c2 a3 l3 c3)[j]? := fun j hj => by
      rw [← h3 j hj, row_cell hh, ← q4, List.getElem?_take, if_pos (by omega)]
      simp
    exact ⟨g, cap, rfl, hg, (Array.getElem?_eq_some_iff.1 hh).1, a1, l1, c1, a2, l2, c2, a3, l3, c3, ⟨look 0 (by omega), look 1 (by omega), look 2 (by omega), look 3 (by omega), look 4 (by omega), look 5 (by omega), look 6 (by omega), look 7 (by omega), look 8 (by omega)⟩, h4⟩

/-- What a row has, one term more behind it. -/
theorem trow_more {L B base : Nat} {w w2 : World} {D d : Nat} {v v2 : Value} {ts : List Tm} {t : Tm} {a1 : Option Addr} {l1 c1 : Nat} {a2 : Option Addr} {l2 c2 : Nat} {a3 : Option Addr} {l3 c3 : Nat} {xs : List Value} (hx : w.ownsRow base 36 9 v ts.length xs)
    (hel : ∀ i (_ : i < ts.length), ∃ a1 l1 c1 a2 l2 c2 a3 l3 c3, (∀ j, j < 9 → xs[i * 9 + j]? = (c9 ts[i] a1 l1 c1 a2 l2 c2 a3 l3 c3)[j]?) ∧ Fm L B w D d ts[i] a1 l1 a2 l2 a3 l3)
    (h2 : w2.ownsRow base 36 9 v2 (ts.length + 1) (xs ++ c9 t a1 l1 c1 a2 l2 c2 a3 l3 c3)) (hm : ∀ k, L ≤ k → k < B → w2.heap[k]? = w.heap[k]?) (hf : Fm L B w D d t a1 l1 a2 l2 a3 l3) : TRow L B base w2 D d v2 (ts ++ [t]) := by
  have hlx : xs.length = ts.length * 9 := hx.1
  refine ⟨_, by rw [List.length_append]; exact h2, fun i hi => ?_⟩
  by_cases hit : i < ts.length
  · obtain ⟨b1, m1, d1, b2, m2, d2, b3, m3, d3, h3, h4⟩ := hel i hit
    have e : (ts ++ [t])[i] = ts[i] := List.getElem_append_left hit
    rw [e]
    refine ⟨b1, m1, d1, b2, m2, d2, b3, m3, d3, fun j hj => ?_, Fm.keep hm (Nat.le_refl _) (Nat.le_refl _) h4⟩
    rw [List.getElem?_append_left (by omega)]
    exact h3 j hj
  · have e1 : i = ts.length := by rw [List.length_append] at hi; simp at hi; omega
    subst e1
    have e : (ts ++ [t])[ts.length] = t := by simp
    rw [e]
    refine ⟨a1, l1, c1, a2, l2, c2, a3, l3, c3, fun j hj => ?_, Fm.keep hm (Nat.le_refl _) (Nat.le_refl _) hf⟩
    rw [List.getElem?_append_right (by omega), hlx, Nat.add_sub_cancel_left]

theorem one9 (t : Tm) (a1 : Option Addr) (l1 c1 : Nat) (a2 : Option Addr) (l2 c2 : Nat) (a3 : Option Addr) (l3 c3 : Nat) : ∀ u ∈ c9 t a1 l1 c1 a2 l2 c2 a3 l3 c3, u.oneCell' = true := by
  simp [c9, Value.oneCell']

/-- One term appended. -/
theorem trow_push {L B base : Nat} {w : World} {D d : Nat} {v : Value} {ts : List Tm} (h : TRow L B base w D d v ts) (hb : base ≤ w.heap.size) (hB : B ≤ base) (hl : ts.length ≤ 1048577) {t : Tm} {a1 : Option Addr} {l1 c1 : Nat} {a2 : Option Addr} {l2 c2 : Nat} {a3 : Option Addr} {l3 c3 : Nat} (hf : Fm L B w D d t a1 l1 a2 l2 a3 l3) :
    ∃ g cap w2, (Builtin.append_ #[34, 34] 34 #[v, .slice (some ⟨w.heap.size, 0, none⟩) 1 1]).run Try.prog (w.alloc (.cells #[.int .i64 t.K, .int .i64 t.N, .string t.S, .string t.Z, .int .i64 t.T.K, .int .i64 t.T.N, .slice a1 l1 c1, .slice a2 l2 c2, .slice a3 l3 c3] 36)) = .ok (.slice (some ⟨g, 0, none⟩) (ts.length + 1) cap) w2 ∧
      TRow L B base w2 D d (.slice (some ⟨g, 0, none⟩) (ts.length + 1) cap) (ts ++ [t]) ∧ Ko v w (.slice (some ⟨g, 0, none⟩) (ts.length + 1) cap) w2 := by
  obtain ⟨i0, hi, hz0, hz1, hz2⟩ := info_parts Try.infoTerm
  have hA : Below w.heap.size w (w.alloc (.cells #[.int .i64 t.K, .int .i64 t.N, .string t.S, .string t.Z, .int .i64 t.T.K, .int .i64 t.T.N, .slice a1 l1 c1, .slice a2 l2 c2, .slice a3 l3 c3] 36)) := (Below.refl _ _).alloc (Nat.le_refl _) _
  have hown := fun g hg => trow_own h (g := g) hg
  obtain ⟨xs, h1, h2⟩ := h
  have h1A := owns_keep (w' := w.alloc (.cells #[.int .i64 t.K, .int .i64 t.N, .string t.S, .string t.Z, .int .i64 t.T.K, .int .i64 t.T.N, .slice a1 l1 c1, .slice a2 l2 c2, .slice a3 l3 c3] 36)) h1 (fun g hg => hA.block g (hown g hg).2)
  obtain ⟨g, cap, w2, hrun, hown2, hgrow, hat, hlt⟩ := run_append_lies (P := Try.prog) (w.alloc (.cells #[.int .i64 t.K, .int .i64 t.N, .string t.S, .string t.Z, .int .i64 t.T.K, .int .i64 t.T.N, .slice a1 l1 c1, .slice a2 l2 c2, .slice a3 l3 c3] 36)) 34 34 base 36 i0 _ 9 136 Try.underlying34 hi hz0 hz1 hz2 rfl (by omega) v ts.length _ h1A
    ⟨w.heap.size, 0, none⟩ 1 1 (c9 t a1 l1 c1 a2 l2 c2 a3 l3 c3) rfl (World.news_of_block (cs := #[.int .i64 t.K, .int .i64 t.N, .string t.S, .string t.Z, .int .i64 t.T.K, .int .i64 t.T.N, .slice a1 l1 c1, .slice a2 l2 c2, .slice a3 l3 c3]) (t := 36) (fr := (0, 0)) (heap_alloc_new w _)) (one9 _ _ _ _ _ _ _ _ _ _)
    (by omega) (by unfold maxLen; omega) (by omega) (by simp; omega) _ rfl
  have hz := hgrow.size
  have hblk : ∀ k, k < w.heap.size → v.ownBlock ≠ some k → w2.heap[k]? = w.heap[k]? := fun k hk hne => (hgrow.block k (by simp; omega) (fun e => hne e.symm)).trans (hA.block k hk)
  refine ⟨g, cap, w2, hrun, trow_more h1 h2 hown2 (fun k _ hk => hblk k (by omega) (fun e => by have := (hown k e).1; omega)) hf, ⟨hgrow.os, hgrow.tape, hgrow.output, by simp at hz; omega, hblk, fun k hk => ?_⟩⟩
  have e : g = k := by simpa [Value.ownBlock] using hk
  subst e
  rcases hat with e | e
  · exact Or.inl e
  · exact Or.inr (by simp at e; omega)

/-- A row whose cells are told. -/
theorem owns_of {base g n cap : Nat} {w : World} {cs : Array Value} {xs : List Value} (hh : w.heap[g]? = some (.cells cs 36 (0, 0))) (hg : base ≤ g) (h1 : n ≤ cap) (h2 : cap ≤ maxLen) (h3 : cs.size = cap * 9) (hl : xs.length = n * 9) (hc : ∀ p, p < n * 9 → w.cell? ⟨g, p, none⟩ = xs[p]?) : w.ownsRow base 36 9 (.slice (some ⟨g, 0, none⟩) n cap) n xs := by
  refine ⟨hl, Or.inr ⟨g, cap, cs, rfl, hg, hh, h1, h2, h3, ?_⟩⟩
  apply List.ext_getElem?
  intro p
  rw [List.getElem?_take]
  by_cases hp : p < n * 9
  · rw [if_pos hp, ← hc p hp, row_cell hh]; simp
  · rw [if_neg hp, List.getElem?_eq_none (by omega)]

set_option maxHeartbeats 800000 in
/-- One term appended as nothing, and laid then. -/
theorem trow_lay {L B base : Nat} {w : World} {D d : Nat} {v : Value} {ts : List Tm} (h : TRow L B base w D d v ts) (hb : base ≤ w.heap.size) (hB : B ≤ base) (hl : ts.length ≤ 1048577) {t : Tm} {a1 : Option Addr} {l1 c1 : Nat} {a2 : Option Addr} {l2 c2 : Nat} {a3 : Option Addr} {l3 c3 : Nat} (hf : Fm L B w D d t a1 l1 a2 l2 a3 l3) (W : World) (hW : W = w.alloc (.cells z9.toArray 36)) :
    ∃ g cap w2, (Builtin.append_ #[34, 34] 34 #[v, .slice (some ⟨w.heap.size, 0, none⟩) 1 1]).run Try.prog W = .ok (.slice (some ⟨g, 0, none⟩) (ts.length + 1) cap) w2 ∧ base ≤ g ∧
      (∃ cs : Array Value, w2.heap[g]? = some (.cells cs 36 (0, 0)) ∧ (ts.length + 1) * 9 ≤ cs.size) ∧ Ko v w (.slice (some ⟨g, 0, none⟩) (ts.length + 1) cap) w2 ∧
      ∀ Y : World, Y = set9 w2 g (ts.length * 9) (.int .i64 t.K) (.int .i64 t.N) (.string t.S) (.string t.Z) (.int .i64 t.T.K) (.int .i64 t.T.N) (.slice a1 l1 c1) (.slice a2 l2 c2) (.slice a3 l3 c3) → TRow L B base Y D d (.slice (some ⟨g, 0, none⟩) (ts.length + 1) cap) (ts ++ [t]) ∧ Ko v w (.slice (some ⟨g, 0, none⟩) (ts.length + 1) cap) Y := by
  subst hW
  obtain ⟨i0, hi, hz0, hz1, hz2⟩ := info_parts Try.infoTerm
  have hA : Below w.heap.size w (w.alloc (.cells z9.toArray 36)) := (Below.refl _ _).alloc (Nat.le_refl _) _
  have hown := fun g hg => trow_own h (g := g) hg
  obtain ⟨xs, h1, h2⟩ := h
  have h1A := owns_keep (w' := w.alloc (.cells z9.toArray 36)) h1 (fun g hg => hA.block g (hown g hg).2)
  obtain ⟨g, cap, w2, hrun, hown2, hgrow, hat, hlt⟩ := run_append_lies (P := Try.prog) (w.alloc (.cells z9.toArray 36)) 34 34 base 36 i0 _ 9 136 Try.underlying34 hi hz0 hz1 hz2 rfl (by omega) v ts.length _ h1A
    ⟨w.heap.size, 0, none⟩ 1 1 z9 rfl (World.news_of_block (cs := z9.toArray) (t := 36) (fr := (0, 0)) (heap_alloc_new w _)) (by simp [z9, Value.oneCell'])
    (by omega) (by unfold maxLen; omega) (by omega) (by simp; omega) _ rfl
  have hz := hgrow.size
  have hblk : ∀ k, k < w.heap.size → v.ownBlock ≠ some k → w2.heap[k]? = w.heap[k]? := fun k hk hne => (hgrow.block k (by simp; omega) (fun e => hne e.symm)).trans (hA.block k hk)
  have hg : v.ownBlock = some g ∨ w.heap.size ≤ g := by
    rcases hat with e | e
    · exact Or.inl e
    · exact Or.inr (by simp at e; omega)
  have hko : Ko v w (.slice (some ⟨g, 0, none⟩) (ts.length + 1) cap) w2 := ⟨hgrow.os, hgrow.tape, hgrow.output, by simp at hz; omega, hblk, fun k hk => by
    have e : g = k := by simpa [Value.ownBlock] using hk
    subst e
    exact hg⟩
  rcases hown2.2 with ⟨e, _⟩ | ⟨g', cap', cur, e, hbg, hh, q1, q2, q3, q4⟩
  · cases e
  · injection e with e1 e2 e3
    injection e1 with e1
    injection e1 with e1
    subst e1
    subst e3
    refine ⟨g, cap, w2, hrun, hbg, ⟨cur, hh, by rw [q3]; exact Nat.mul_le_mul_right _ q1⟩, hko, fun Y hY => ?_⟩
    have hoth : ∀ k, k ≠ g → Y.heap[k]? = w2.heap[k]? := fun k hk => by rw [hY]; exact set9_other k hk
    have hYs : Y.heap.size = w2.heap.size := by rw [hY]; exact set9_size _ _ _ _ _ _ _ _ _ _ _ _
    have hY0 : Below 0 w2 Y := by rw [hY]; exact set9_below (Below.refl _ _) (Nat.zero_le _)
    have hcs : (ts.length + 1) * 9 ≤ cur.size := by rw [q3]; exact Nat.mul_le_mul_right _ q1
    obtain ⟨cs', r1, r2⟩ := set9_row (o := ts.length * 9) (a0 := .int .i64 t.K) (a1 := .int .i64 t.N) (a2 := .string t.S) (a3 := .string t.Z) (a4 := .int .i64 t.T.K) (a5 := .int .i64 t.T.N) (a6 := .slice a1 l1 c1) (a7 := .slice a2 l2 c2) (a8 := .slice a3 l3 c3) hh
    have n9 : Nine Y g (ts.length * 9) t.K t.N t.S t.Z t.T.K t.T.N (.slice a1 l1 c1) (.slice a2 l2 c2) (.slice a3 l3 c3) := by rw [hY]; exact set9_cells hh (by omega)
    have far : ∀ p, p < ts.length * 9 → Y.cell? ⟨g, p, none⟩ = xs[p]? := fun p hp => by
      rw [hY, set9_far hh p (Or.inl hp), row_cell hh]
      have h5 : (xs ++ z9)[p]? = xs[p]? := List.getElem?_append_left (by rw [h1.1]; exact hp)
      rw [← h5, ← q4, List.getElem?_take, if_pos (by omega)]
      simp
    rw [← hY] at r1
    have hxl : xs.length = ts.length * 9 := h1.1
    have hrow : Y.ownsRow base 36 9 (.slice (some ⟨g, 0, none⟩) (ts.length + 1) cap) (ts.length + 1) (xs ++ c9 t a1 l1 c1 a2 l2 c2 a3 l3 c3) := by
      refine owns_of r1 hbg q1 q2 (r2.trans q3) (by rw [List.length_append, hxl]; simp [c9]; omega) fun p hp => ?_
      by_cases hp1 : p < ts.length * 9
      · rw [far p hp1, List.getElem?_append_left (by omega)]
      · obtain ⟨j, rfl⟩ : ∃ j, p = ts.length * 9 + j := ⟨p - ts.length * 9, by omega⟩
        rw [List.getElem?_append_right (by omega), hxl, Nat.add_sub_cancel_left]
        have hj : j < 9 := by omega
        rcases (by omega : j = 0 ∨ j = 1 ∨ j = 2 ∨ j = 3 ∨ j = 4 ∨ j = 5 ∨ j = 6 ∨ j = 7 ∨ j = 8) with rfl | rfl | rfl | rfl | rfl | rfl | rfl | rfl | rfl
        · exact n9.c0
        · exact n9.c1
        · exact n9.c2
        · exact n9.c3
        · exact n9.c4
        · exact n9.c5
        · exact n9.c6
        · exact n9.c7
        · exact n9.c8
    have hgB : ∀ k, k < B → k ≠ g := fun k hk e => by omega
    refine ⟨trow_more h1 h2 hrow (fun k _ hk => (hoth k (hgB k hk)).trans (hblk k (by omega) (fun e => by have := (hown k e).1; omega))) hf, ?_⟩
    refine ⟨?_, ?_, ?_, by rw [hYs]; exact hko.size, fun k hk hne => ?_, hko.own⟩
    · exact hY0.os.trans hko.os
    · exact hY0.tape.trans hko.tape
    · exact hY0.output.trans hko.output
    · rw [hoth k (fun e => by
        subst e
        rcases hg with e | e
        · exact hne e
        · omega)]
      exact hblk k hk hne

end Go.Proofs.Ytgckmnchlkgakaa
