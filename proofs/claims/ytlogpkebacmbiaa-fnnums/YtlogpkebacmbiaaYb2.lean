/-
  Rows of bytes that can be appended to; their marks.
-/
import Derived.Test.YtlogpkebacmbiaaYb1
import Derived.Deep.AppendLies
import Derived.Deep.Upon
namespace Go.Proofs.Ytlogpkebacmbiaa
open Go.RowKit
set_option linter.unusedVariables false
set_option linter.unusedSimpArgs false

/-- A byte as a value. -/
def ib (n : Int) : Value := .int .u8 n

/-- A row of bytes that can be appended to. -/
def Byts (base : Nat) (wr : World) (v : Value) (P : List Int) : Prop := wr.ownsRow base 5 1 v P.length (P.map ib)

theorem byts_push {base : Nat} {wr : World} {v : Value} {P : List Int} (h : Byts base wr v P) (hb : base ≤ wr.heap.size) (hl : P.length ≤ 1048600) (l : Int) :
    ∃ g cap w2, (Builtin.append_ #[22, 22] 22 #[v, .slice (some ⟨wr.heap.size, 0, none⟩) 1 1]).run Try.prog (wr.alloc (.cells #[ib l] 5)) = .ok (.slice (some ⟨g, 0, none⟩) (P.length + 1) cap) w2 ∧
      Byts base w2 (.slice (some ⟨g, 0, none⟩) (P.length + 1) cap) (P ++ [l]) ∧ Below base wr w2 := by
  obtain ⟨i0, hi, hz0, hz1, hz2⟩ := info_parts Try.infoU8
  have hA : Below wr.heap.size wr (wr.alloc (.cells #[ib l] 5)) := (Below.refl _ _).alloc (Nat.le_refl _) _
  have h1 : Byts base (wr.alloc (.cells #[ib l] 5)) v P := by
    refine ⟨h.1, ?_⟩
    rcases h.2 with hn | ⟨g, cap, cur, rfl, hg, hh, r⟩
    · exact Or.inl hn
    · exact Or.inr ⟨g, cap, cur, rfl, hg, (hA.block g (Array.getElem?_eq_some_iff.1 hh).1).trans hh, r⟩
  obtain ⟨g, cap, w2, hrun, hown2, hgrow, hat, hlt⟩ := run_append_lies (P := Try.prog) (wr.alloc (.cells #[ib l] 5)) 22 22 base 5 i0 _ 1 1 Try.underlying22 hi hz0 hz1 hz2 rfl (by omega) v P.length _ h1
    ⟨wr.heap.size, 0, none⟩ 1 1 [ib l] rfl (World.news_of_block (cs := #[ib l]) (t := 5) (fr := (0, 0)) (heap_alloc_new wr _)) (by simp [ib, Value.oneCell'])
    (by omega) (by unfold maxLen; omega) (by omega) (by simp; omega) _ rfl
  have hvb : ∀ g, v.ownBlock = some g → base ≤ g := by
    intro g hg
    rcases h.2 with ⟨rfl, _⟩ | ⟨g', cap, cur, rfl, hb', _⟩
    · cases hg
    · have e : g' = g := by simpa [Value.ownBlock] using hg
      subst e; exact hb'
  have hsz := hgrow.size
  simp only [World.size_alloc] at hsz
  refine ⟨g, cap, w2, hrun, ?_, ⟨hgrow.os, hgrow.tape, hgrow.output, by omega, fun q hq => ?_⟩⟩
  · unfold Byts
    simpa using hown2
  · exact (hgrow.block q (by simp; omega) (fun e => by have := hvb q e.symm; omega)).trans (hA.block q (by omega))

theorem byts_own {base : Nat} {w : World} {v : Value} {P : List Int} (h : Byts base w v P) {g : Nat} (hg : v.ownBlock = some g) : base ≤ g ∧ g < w.heap.size := by
  rcases h.2 with ⟨rfl, _⟩ | ⟨g', cap, cur, rfl, hb', hh, _⟩
  · cases hg
  · have e : g' = g := by simpa [Value.ownBlock] using hg
    subst e
    exact ⟨hb', (Array.getElem?_eq_some_iff.1 hh).1⟩

theorem byts_keep {base : Nat} {w w' : World} {v : Value} {P : List Int} (h : Byts base w v P) (hk : ∀ g, v.ownBlock = some g → w'.heap[g]? = w.heap[g]?) : Byts base w' v P := by
  refine ⟨h.1, ?_⟩
  rcases h.2 with hn | ⟨g, cap, cur, rfl, hg, hh, r⟩
  · exact Or.inl hn
  · exact Or.inr ⟨g, cap, cur, rfl, hg, (hk g rfl).trans hh, r⟩

theorem byts_form {base : Nat} {w : World} {v : Value} {P : List Int} (h : Byts base w v P) : ∃ ao cap, v = .slice ao P.length cap := by
  rcases h.2 with ⟨rfl, hn⟩ | ⟨g, cap, cur, rfl, _⟩
  · exact ⟨none, 0, by rw [hn]⟩
  · exact ⟨_, cap, rfl⟩

theorem byts_grow {base : Nat} {wr : World} {v : Value} {P : List Int} (h : Byts base wr v P) (hb : base ≤ wr.heap.size) (N : List Int) (hN : 0 < N.length) (hl : P.length + N.length ≤ 1048700) (sb so c : Nat)
    (hs : ∀ j u, (N.map ib)[j]? = some u → wr.cell? ⟨sb, so + j, none⟩ = some u) :
    ∃ g cap w2, (Builtin.append_ #[22, 22] 22 #[v, .slice (some ⟨sb, so, none⟩) N.length c]).run Try.prog wr = .ok (.slice (some ⟨g, 0, none⟩) (P.length + N.length) cap) w2 ∧
      Byts base w2 (.slice (some ⟨g, 0, none⟩) (P.length + N.length) cap) (P ++ N) ∧ wr.grownBy w2 v.ownBlock ∧ (v.ownBlock = some g ∨ g = wr.heap.size) ∧ g < w2.heap.size := by
  obtain ⟨i0, hi, hz0, hz1, hz2⟩ := info_parts Try.infoU8
  obtain ⟨g, cap, w2, hrun, hown2, hgrow, hat, hlt⟩ := run_append_lies (P := Try.prog) wr 22 22 base 5 i0 _ 1 1 Try.underlying22 hi hz0 hz1 hz2 rfl (by omega) v P.length _ h
    ⟨sb, so, none⟩ N.length c (N.map ib) (by simp) (fun j u hu => by have e := hs j u hu; have ea : (⟨sb, so, none⟩ : Addr).add j = ⟨sb, so + j, none⟩ := (by unfold Addr.add; split <;> simp_all); rw [ea]; exact e) (by intro u hu; obtain ⟨l, _, rfl⟩ := List.mem_map.1 hu; rfl)
    hN (by unfold maxLen; omega) (by omega) hb _ rfl
  refine ⟨g, cap, w2, hrun, ?_, hgrow, hat, hlt⟩
  unfold Byts
  rw [List.length_append, List.map_append]
  exact hown2

/-- Numbers of another row behind those that are there, none among them. -/
theorem byts_app {base : Nat} {wr : World} {v : Value} {P : List Int} (h : Byts base wr v P) (hb : base ≤ wr.heap.size) {L B : Nat} {ao : Option Addr} {n : Nat} (c : Nat) {N : List Int} (hs : Bs L B wr ao n N) (hl : P.length + n ≤ 1048700) :
    ∃ ao2 cap w2, (Builtin.append_ #[22, 22] 22 #[v, .slice ao n c]).run Try.prog wr = .ok (.slice ao2 (P.length + n) cap) w2 ∧
      Byts base w2 (.slice ao2 (P.length + n) cap) (P ++ N) ∧ wr.grownBy w2 v.ownBlock := by
  by_cases hn : n = 0
  · subst hn
    have hN : N = [] := List.length_eq_zero_iff.1 hs.1.symm
    subst hN
    obtain ⟨i0, hi, hz0, hz1, hz2⟩ := info_parts Try.infoU8
    have hv : ∃ a2 cap, v = .slice a2 P.length cap ∧ P.length ≤ cap := by
      rcases h.2 with ⟨rfl, hn⟩ | ⟨g, cap, cur, rfl, hg, hh, h1, h2, h3, h4⟩
      · exact ⟨none, 0, by rw [hn], by omega⟩
      · exact ⟨_, cap, rfl, h1⟩
    obtain ⟨a2, cap, rfl, hcap⟩ := hv
    refine ⟨a2, cap, wr, ?_, by rw [List.append_nil, Nat.add_zero]; exact h, ⟨rfl, rfl, rfl, Nat.le_refl _, fun _ _ _ => rfl⟩⟩
    rw [Nat.add_zero]
    refine run_append_nothing (P := Try.prog) wr 22 22 22 5 i0 Try.underlying22 hi a2 P.length cap hcap _ ?_
    cases ao with
    | none => exact Src.ofNil _ Try.underlying22 c
    | some a => exact Src.ofSlice _ Try.underlying22 a 0 c [] (by simp) (by simp) (by simp)
  · have hn0 : 0 < N.length := by have := hs.1; omega
    obtain ⟨b, o, rfl, _, _, _⟩ := hs.2.2 0 hn0
    obtain ⟨g, cap, w2, r1, r2, r3, _, _⟩ := byts_grow h hb N hn0 (by have := hs.1; omega) b o c (fun j u hu => by
      rw [List.getElem?_map] at hu
      obtain ⟨x, hx, rfl⟩ := Option.map_eq_some_iff.1 hu
      obtain ⟨hj, rfl⟩ := List.getElem?_eq_some_iff.1 hx
      obtain ⟨b', o', e, _, _, hc⟩ := hs.2.2 j hj
      injection e with e
      injection e with e1 e2
      subst e1 e2
      exact hc)
    rw [← hs.1] at r1 r2
    exact ⟨_, cap, w2, r1, r2, r3⟩

theorem byts_cut {base : Nat} {w : World} {ao : Option Addr} {n cap : Nat} {P N : List Int} (h : Byts base w (.slice ao n cap) (P ++ N)) : Byts base w (.slice ao P.length cap) P ∨ (ao = none ∧ P = []) := by
  rcases h.2 with ⟨e, hn⟩ | ⟨g, cap', cur, e, hg, hh, h1, h2, h3, h4⟩
  · right
    cases e
    rw [List.length_append] at hn
    exact ⟨rfl, List.length_eq_zero_iff.1 (by omega)⟩
  · left
    injection e with e1 e2 e3
    subst e1
    subst e3
    refine ⟨by simp, Or.inr ⟨g, _, cur, rfl, hg, hh, ?_, h2, h3, ?_⟩⟩
    · rw [List.length_append] at h1; omega
    · have := congrArg (List.take (P.length * 1)) h4
      rw [List.take_take, List.map_append] at this
      rw [List.length_append] at this
      rw [Nat.min_eq_left (by omega)] at this
      rw [this, List.take_append_of_le_length (by simp), List.take_of_length_le (by simp)]

theorem byts_le {base base' : Nat} {w : World} {v : Value} {P : List Int} (h : Byts base w v P) (hb : base' ≤ base) : Byts base' w v P :=
  ⟨h.1, h.2.elim Or.inl (fun ⟨g, cap, cur, hv, hg, r⟩ => Or.inr ⟨g, cap, cur, hv, Nat.le_trans hb hg, r⟩)⟩

theorem byts_at {base : Nat} {w : World} {v : Value} {P : List Int} (h : Byts base w v P) (j : Nat) (hj : j < P.length) : ∃ g cap, v = .slice (some ⟨g, 0, none⟩) P.length cap ∧ base ≤ g ∧ g < w.heap.size ∧ w.cell? ⟨g, 0 + j, none⟩ = some (ib P[j]) := by
  rcases h.2 with ⟨rfl, hn⟩ | ⟨g, cap, cur, rfl, hg, hh, h1, h2, h3, h4⟩
  · omega
  · refine ⟨g, cap, rfl, hg, (Array.getElem?_eq_some_iff.1 hh).1, ?_⟩
    have e : (List.map ib P)[j]? = some (ib P[j]) := by simp [hj]
    rw [← h4, List.getElem?_take, if_pos (by omega)] at e
    rw [Nat.zero_add, row_cell hh, ← Array.getElem?_toList, e]

theorem byts_bel {base : Nat} {w w' : World} {v : Value} {P : List Int} (h : Byts base w v P) (hb : Below w.heap.size w w') : Byts base w' v P := byts_keep h fun g hg => hb.block g (byts_own h hg).2

end Go.Proofs.Ytlogpkebacmbiaa
