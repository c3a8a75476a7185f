/-
  Words and heaps as plain values; what it is that they lie in memory; rows of words of one's own. No walk, no statement.
-/
import Derived.Test.YtapamdjoipofmaaDoorFcdZ3
import Derived.Deep.AppendLies
import Derived.Deep.Upon
namespace Go.Proofs.YtapamdjoipofmaaDoor
open Go.RowKit
set_option linter.unusedVariables false
set_option linter.unusedSimpArgs false

structure Wrd where
  K : Int
  N : Int
  deriving DecidableEq

/-- A word's value, a heap's. -/
abbrev vW (x : Wrd) : Value := .agg #[.int .i64 x.K, .int .i64 x.N]
abbrev vH (s : Int) (ao : Option Addr) (len cap : Nat) : Value := .agg #[.int .i64 s, .slice ao len cap]

/-- Two cells of a block: a word. -/
structure Two (w : World) (b o : Nat) (x : Wrd) : Prop where
  c0 : w.cell? ⟨b, o, none⟩ = some (.int .i64 x.K)
  c1 : w.cell? ⟨b, o + 1, none⟩ = some (.int .i64 x.N)
theorem Two.cells {w w' : World} {b o : Nat} {i : Wrd} (h : Two w b o i) (k : ∀ p, o ≤ p → p < o + 2 → w'.cell? ⟨b, p, none⟩ = w.cell? ⟨b, p, none⟩) : Two w' b o i :=
  ⟨(k _ (by omega) (by omega)).trans h.c0, (k _ (by omega) (by omega)).trans h.c1⟩
theorem Two.block {w w' : World} {b o : Nat} {i : Wrd} (h : Two w b o i) (k : w'.heap[b]? = w.heap[b]?) : Two w' b o i := h.cells fun p _ _ => World.cell?_of_block k

/-- A slice holds these words, in a block from L on and below B. -/
def Ws (L B : Nat) (w : World) (ao : Option Addr) (len : Nat) (l : List Wrd) : Prop :=
  len = l.length ∧ len ≤ 9223372036854775807 ∧ ∀ i (_ : i < l.length), ∃ b o, ao = some ⟨b, o, none⟩ ∧ L ≤ b ∧ b < B ∧ Two w b (o + i * 2) l[i]
theorem Ws.keep {L B L' B' : Nat} {w w' : World} (hb : ∀ k, L ≤ k → k < B → w'.heap[k]? = w.heap[k]?) (hL : L' ≤ L) (hB : B ≤ B') {ao : Option Addr} {len : Nat} {l : List Wrd} (h : Ws L B w ao len l) : Ws L' B' w' ao len l := by
  refine ⟨h.1, h.2.1, fun i hi => ?_⟩
  obtain ⟨b, o, e, h1, h2, h3⟩ := h.2.2 i hi
  exact ⟨b, o, e, by omega, by omega, h3.block (hb b h1 h2)⟩
theorem Ws.below {L B : Nat} {w w' : World} (hb : Below w.heap.size w w') (hB : B ≤ w.heap.size) {ao : Option Addr} {len : Nat} {l : List Wrd} (h : Ws L B w ao len l) : Ws L B w' ao len l :=
  h.keep (fun k _ hk => hb.block k (by omega)) (Nat.le_refl _) (Nat.le_refl _)
theorem Ws.drew {L B : Nat} {w : World} {ao : Option Addr} {len : Nat} {l : List Wrd} (h : Ws L B w ao len l) : Ws L B w.drew ao len l := h.keep (w := w) (w' := w.drew) (fun _ _ _ => rfl) (Nat.le_refl _) (Nat.le_refl _)
theorem ws_nil (L B : Nat) (w : World) (ao : Option Addr) : Ws L B w ao 0 [] := ⟨rfl, by omega, fun i hi => absurd hi (Nat.not_lt_zero _)⟩

/-- The cells of a row of words. -/
def fl (l : List Wrd) : List Value := l.flatMap fun x => [.int .i64 x.K, .int .i64 x.N]
theorem fl_len (l : List Wrd) : (fl l).length = l.length * 2 := by
  induction l with
  | nil => rfl
  | cons x l ih => simp only [fl, List.flatMap_cons, List.length_append, List.length_cons, List.length_nil] at *; omega
theorem fl_app (a b : List Wrd) : fl (a ++ b) = fl a ++ fl b := by simp [fl]
theorem fl_get (l : List Wrd) : ∀ (i : Nat) (h : i < l.length), (fl l)[i * 2]? = some (.int .i64 l[i].K) ∧ (fl l)[i * 2 + 1]? = some (.int .i64 l[i].N) := by
  induction l with
  | nil => intro i h; simp at h
  | cons x l ih =>
    intro i h
    have e : fl (x :: l) = [.int .i64 x.K, .int .i64 x.N] ++ fl l := rfl
    cases i with
    | zero => rw [e]; exact ⟨rfl, rfl⟩
    | succ i =>
      have := ih i (by simpa using h)
      rw [e]
      refine ⟨?_, ?_⟩
      · rw [List.getElem?_append_right (by simp; omega), show (i + 1) * 2 - [Value.int .i64 x.K, .int .i64 x.N].length = i * 2 by simp; omega]
        exact this.1
      · rw [List.getElem?_append_right (by simp; omega), show (i + 1) * 2 + 1 - [Value.int .i64 x.K, .int .i64 x.N].length = i * 2 + 1 by simp; omega]
        exact this.2
theorem fl_ext (l : List Wrd) (ys : List Value) (hl : ys.length = l.length * 2) (h : ∀ (i : Nat) (hi : i < l.length), ys[i * 2]? = some (.int .i64 l[i].K) ∧ ys[i * 2 + 1]? = some (.int .i64 l[i].N)) : ys = fl l := by
  apply List.ext_getElem?
  intro j
  by_cases hj : j < l.length * 2
  · obtain ⟨i, hi⟩ : ∃ i, i = j / 2 := ⟨_, rfl⟩
    have hil : i < l.length := by omega
    have h1 := h i hil
    have h2 := fl_get l i hil
    rcases Nat.mod_two_eq_zero_or_one j with e | e
    · have : j = i * 2 := by omega
      rw [this, h1.1, h2.1]
    · have : j = i * 2 + 1 := by omega
      rw [this, h1.2, h2.2]
  · rw [List.getElem?_eq_none (by omega), List.getElem?_eq_none (by rw [fl_len]; omega)]
theorem fl_one (l : List Wrd) : ∀ u ∈ fl l, u.oneCell' = true := by
  intro u hu
  obtain ⟨x, _, hx⟩ := List.mem_flatMap.1 hu
  simp at hx
  rcases hx with rfl | rfl <;> rfl

theorem Tryd.infoWord : (Tryd.prog.info? 34).map (fun i => (i.zero, i.size, i.bytes)) = some (some (.agg #[.int .i64 0, .int .i64 0]), 2, 16) := by kernel_rfl

/-- A row of words of one's own. -/
def Wors (base : Nat) (wr : World) (v : Value) (P : List Wrd) : Prop := wr.ownsRow base 34 2 v P.length (fl P)

theorem wors_own {base : Nat} {w : World} {v : Value} {P : List Wrd} (h : Wors base w v P) {g : Nat} (hg : v.ownBlock = some g) : base ≤ g ∧ g < w.heap.size := by
  rcases h.2 with ⟨rfl, _⟩ | ⟨g', cap, cur, rfl, hb', hh, _⟩
  · cases hg
  · have e : g' = g := by simpa [Value.ownBlock] using hg
    subst e
    exact ⟨hb', (Array.getElem?_eq_some_iff.1 hh).1⟩
theorem wors_keep {base : Nat} {w w' : World} {v : Value} {P : List Wrd} (h : Wors base w v P) (hk : ∀ g, v.ownBlock = some g → w'.heap[g]? = w.heap[g]?) : Wors base w' v P := by
  refine ⟨h.1, ?_⟩
  rcases h.2 with hn | ⟨g, cap, cur, rfl, hg, hh, r⟩
  · exact Or.inl hn
  · exact Or.inr ⟨g, cap, cur, rfl, hg, (hk g rfl).trans hh, r⟩
theorem wors_bel {base : Nat} {w w' : World} {v : Value} {P : List Wrd} (h : Wors base w v P) (hb : Below w.heap.size w w') : Wors base w' v P := wors_keep h fun g hg => hb.block g (wors_own h hg).2
theorem wors_le {base base' : Nat} {w : World} {v : Value} {P : List Wrd} (h : Wors base w v P) (hb : base' ≤ base) : Wors base' w v P :=
  ⟨h.1, h.2.elim Or.inl (fun ⟨g, cap, cur, hv, hg, r⟩ => Or.inr ⟨g, cap, cur, hv, Nat.le_trans hb hg, r⟩)⟩
theorem wors_form {base : Nat} {w : World} {v : Value} {P : List Wrd} (h : Wors base w v P) : ∃ ao cap, v = .slice ao P.length cap ∧ P.length ≤ cap := by
  rcases h.2 with ⟨rfl, hn⟩ | ⟨g, cap, cur, rfl, _, _, hc, _⟩
  · exact ⟨none, 0, by rw [hn], by omega⟩
  · exact ⟨_, cap, rfl, hc⟩
theorem wors_nil (base : Nat) (w : World) : Wors base w (.slice none 0 0) [] := ⟨rfl, Or.inl ⟨rfl, rfl⟩⟩
theorem wors_emp {w : World} {b base : Nat} (h : w.heap[b]? = some (.cells #[] 34 (0, 0))) (hb : base ≤ b) : Wors base w (.slice (some ⟨b, 0, none⟩) 0 0) [] :=
  ⟨rfl, Or.inr ⟨b, 0, #[], by simp, hb, h, by simp, by simp, by simp, by simp [fl]⟩⟩
theorem wors_at {base : Nat} {w : World} {v : Value} {P : List Wrd} (h : Wors base w v P) (j : Nat) (hj : j < P.length) : ∃ g cap, v = .slice (some ⟨g, 0, none⟩) P.length cap ∧ base ≤ g ∧ g < w.heap.size ∧ Two w g (0 + j * 2) P[j] ∧ P.length ≤ cap := by
  rcases h.2 with ⟨rfl, hn⟩ | ⟨g, cap, cur, rfl, hg, hh, h1, h2, h3, h4⟩
  · omega
  · refine ⟨g, cap, rfl, hg, (Array.getElem?_eq_some_iff.1 hh).1, ?_, h1⟩
    obtain ⟨e1, e2⟩ := fl_get P j hj
    rw [← h4, List.getElem?_take, if_pos (by omega)] at e1 e2
    rw [Nat.zero_add]
    exact ⟨by rw [row_cell hh, ← Array.getElem?_toList, e1], by rw [row_cell hh, ← Array.getElem?_toList, e2]⟩
theorem wors_is {base : Nat} {w : World} {v : Value} {P : List Wrd} (h : Wors base w v P) (hl : P.length ≤ 9223372036854775807) : ∃ ao cap, v = .slice ao P.length cap ∧ P.length ≤ cap ∧ Ws base w.heap.size w ao P.length P := by
  obtain ⟨ao, cap, rfl, hc⟩ := wors_form h
  refine ⟨ao, cap, rfl, hc, rfl, hl, fun i hi => ?_⟩
  obtain ⟨g, cp, e, h1, h2, h3, _⟩ := wors_at h i hi
  injection e with e1 e2 e3
  exact ⟨g, 0, e1, h1, h2, h3⟩

/-- The same, its slice known. -/
theorem wors_is6 {base : Nat} {w : World} {ao : Option Addr} {len cap : Nat} {P : List Wrd} (hl : len = P.length) (hm : len ≤ 1048576) (h : Wors base w (.slice ao len cap) P) : Ws base w.heap.size w ao len P := by
  obtain ⟨a, c, e, _, h2⟩ := wors_is h (by omega)
  injection e with e1 e2 e3
  rw [← e1, ← e2] at h2
  exact h2

set_option maxRecDepth 100000 in
/-- Words of another row behind those that are there, none among them. -/
theorem wors_app2 {base : Nat} {wr : World} {v : Value} {P : List Wrd} (h : Wors base wr v P) (hb : base ≤ wr.heap.size) {L B : Nat} {ao : Option Addr} {n : Nat} (c : Nat) {N : List Wrd} (hs : Ws L B wr ao n N) (hl : P.length + n ≤ 4000000) :
    ∃ ao2 cap w2, (Builtin.append_ #[24, 24] 24 #[v, .slice ao n c]).run Tryd.prog wr = .ok (.slice ao2 (P.length + n) cap) w2 ∧
      Wors base w2 (.slice ao2 (P.length + n) cap) (P ++ N) ∧ wr.grownBy w2 v.ownBlock ∧ (∀ g, (Value.slice ao2 (P.length + n) cap).ownBlock = some g → v.ownBlock = some g ∨ wr.heap.size ≤ g) := by
  obtain ⟨i0, hi, hz0, hz1, hz2⟩ := info_parts Tryd.infoWord
  by_cases hn : n = 0
  · subst hn
    have hN : N = [] := List.length_eq_zero_iff.1 hs.1.symm
    subst hN
    obtain ⟨a2, cap, rfl, hcap⟩ := wors_form h
    refine ⟨a2, cap, wr, ?_, by rw [List.append_nil, Nat.add_zero]; exact h, ⟨rfl, rfl, rfl, Nat.le_refl _, fun _ _ _ => rfl⟩, fun g hg => Or.inl hg⟩
    rw [Nat.add_zero]
    refine run_append_nothing (P := Tryd.prog) wr 24 24 24 34 i0 Tryd.underlying24 hi a2 P.length cap hcap _ ?_
    cases ao with
    | none => exact Src.ofNil _ Tryd.underlying24 c
    | some a => exact Src.ofSlice _ Tryd.underlying24 a 0 c [] (by simp) (by simp) (by simp)
  · have hn0 : 0 < N.length := by have := hs.1; omega
    obtain ⟨b, o, rfl, _, _, _⟩ := hs.2.2 0 hn0
    have hN := hs.1
    obtain ⟨g, cap, w2, hrun, hown2, hgrow, hat, hlt⟩ := run_append_lies (P := Tryd.prog) wr 24 24 base 34 i0 _ 2 16 Tryd.underlying24 hi hz0 hz1 hz2 rfl (by omega) v P.length _ h
      ⟨b, o, none⟩ n c (fl N) (by rw [fl_len, hN]) (fun j u hu => by
        have ea : (⟨b, o, none⟩ : Addr).add j = ⟨b, o + j, none⟩ := (by unfold Addr.add; split <;> simp_all)
        rw [ea]
        have hj : j < (fl N).length := (List.getElem?_eq_some_iff.1 hu).1
        rw [fl_len] at hj
        obtain ⟨i, hi⟩ : ∃ i, i = j / 2 := ⟨_, rfl⟩
        have hil : i < N.length := by omega
        obtain ⟨b', o', e, _, _, hc⟩ := hs.2.2 i hil
        injection e with e
        injection e with e1 e2
        subst e1 e2
        obtain ⟨g1, g2⟩ := fl_get N i hil
        rcases Nat.mod_two_eq_zero_or_one j with e | e
        · have e' : j = i * 2 := by omega
          rw [e', g1] at hu
          rw [e', hc.c0, hu]
        · have e' : j = i * 2 + 1 := by omega
          rw [e', g2] at hu
          rw [e', ← Nat.add_assoc, hc.c1, hu]) (fl_one N)
      (by omega) (by unfold maxLen; omega) (by omega) hb _ rfl
    refine ⟨_, cap, w2, hrun, ?_, hgrow, fun g' hg' => ?_⟩
    rotate_left
    · have e : g = g' := by simpa [Value.ownBlock] using hg'
      subst e
      rcases hat with h1 | h1
      · exact Or.inl h1
      · exact Or.inr (by omega)
    unfold Wors
    rw [List.length_append, fl_app, ← hN]
    exact hown2

theorem wors_app {base : Nat} {wr : World} {v : Value} {P : List Wrd} (h : Wors base wr v P) (hb : base ≤ wr.heap.size) {L B : Nat} {ao : Option Addr} {n : Nat} (c : Nat) {N : List Wrd} (hs : Ws L B wr ao n N) (hl : P.length + n ≤ 4000000) :
    ∃ ao2 cap w2, (Builtin.append_ #[24, 24] 24 #[v, .slice ao n c]).run Tryd.prog wr = .ok (.slice ao2 (P.length + n) cap) w2 ∧
      Wors base w2 (.slice ao2 (P.length + n) cap) (P ++ N) ∧ wr.grownBy w2 v.ownBlock := by
  obtain ⟨a, c', w2, h1, h2, h3, _⟩ := wors_app2 h hb c hs hl
  exact ⟨a, c', w2, h1, h2, h3⟩

/-- Nothing has changed but this row. -/
structure Kn (v : Value) (w w' : World) : Prop where
  os : w'.os = w.os
  tape : w'.tape = w.tape
  output : w'.output = w.output
  size : w'.heap.size = w.heap.size
  block : ∀ k, v.ownBlock ≠ some k → w'.heap[k]? = w.heap[k]?
theorem Kn.refl (v : Value) (w : World) : Kn v w w := ⟨rfl, rfl, rfl, rfl, fun _ _ => rfl⟩
theorem Kn.trans {v : Value} {w w' w'' : World} (h : Kn v w w') (k : Kn v w' w'') : Kn v w w'' :=
  ⟨k.os.trans h.os, k.tape.trans h.tape, k.output.trans h.output, k.size.trans h.size, fun i hi => (k.block i hi).trans (h.block i hi)⟩
theorem Kn.below {v : Value} {w w' : World} {B : Nat} (h : Kn v w w') (hv : ∀ k, v.ownBlock = some k → B ≤ k) : Below B w w' :=
  ⟨h.os, h.tape, h.output, Nat.le_of_eq h.size.symm, fun i hi => h.block i (fun e => by have := hv i e; omega)⟩

/-- A word of a row is set. -/
theorem wors_put {base : Nat} {w : World} {g n cap : Nat} {P : List Wrd} (h : Wors base w (.slice (some ⟨g, 0, none⟩) n cap) P) (j : Nat) (hj : j < P.length) (x : Wrd) :
    ∀ W, W = (w.setCell ⟨g, j * 2, none⟩ (.int .i64 x.K)).setCell ⟨g, j * 2 + 1, none⟩ (.int .i64 x.N) →
    Wors base W (.slice (some ⟨g, 0, none⟩) n cap) (P.set j x) ∧ Kn (.slice (some ⟨g, 0, none⟩) n cap) w W := by
  rintro W rfl
  rcases h.2 with ⟨e, hn⟩ | ⟨g', cap', cur, e, hg, hh, h1, h2, h3, h4⟩
  · cases e
  · injection e with e1 e2 e3
    injection e1 with e1
    injection e1 with e1
    subst e1
    subst e3
    have hr := row_set (row_set hh (j * 2) (.int .i64 x.K)) (j * 2 + 1) (.int .i64 x.N)
    refine ⟨⟨by rw [fl_len], Or.inr ⟨g, _, _, by rw [e2]; simp, hg, hr, by simpa using h1, h2, by simpa using h3, ?_⟩⟩, ⟨rfl, rfl, rfl, by simp, fun k hk => ?_⟩⟩
    · apply fl_ext
      · have e5 := congrArg List.length h4
        rw [fl_len] at e5
        simp only [List.length_set, Array.toList_setIfInBounds, List.length_take] at *
        omega
      · intro i hi
        simp only [List.length_set] at hi
        obtain ⟨g1, g2⟩ := fl_get P i hi
        rw [← h4, List.getElem?_take, if_pos (by omega)] at g1 g2
        simp only [List.length_set, Array.toList_setIfInBounds]
        have hcur : P.length * 2 ≤ cur.toList.length := by
          have e5 := congrArg List.length h4
          rw [fl_len, List.length_take] at e5
          omega
        rw [List.getElem?_take, if_pos (by omega), List.getElem?_take, if_pos (by omega)]
        by_cases e : i = j
        · subst e
          simp only [List.getElem?_set, List.getElem_set_self, List.length_set]
          refine ⟨?_, ?_⟩
          · rw [if_neg (by omega), if_pos trivial, if_pos (by omega)]
          · rw [if_pos trivial, if_pos (by omega)]
        · simp only [List.getElem?_set, List.length_set]
          rw [List.getElem_set_ne (by omega)]
          refine ⟨?_, ?_⟩
          · rw [if_neg (by omega), if_neg (by omega), g1]
          · rw [if_neg (by omega), if_neg (by omega), g2]
    · exact (row_other _ _ _ (fun e => hk (by rw [e]; rfl))).trans (row_other _ _ _ (fun e => hk (by rw [e]; rfl)))
theorem wors_cells {base : Nat} {w : World} {g n cap : Nat} {P : List Wrd} (h : Wors base w (.slice (some ⟨g, 0, none⟩) n cap) P) (o : Nat) : w.frozen? ⟨g, o, none⟩ = false := by
  rcases h.2 with ⟨e, hn⟩ | ⟨g', cap', cur, e, hg, hh, _⟩
  · cases e
  · injection e with e1 e2 e3
    injection e1 with e1
    injection e1 with e1
    subst e1
    exact row_free hh o

end Go.Proofs.YtapamdjoipofmaaDoor
