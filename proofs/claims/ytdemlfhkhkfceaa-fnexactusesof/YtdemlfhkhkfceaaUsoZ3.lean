/-
  Free names: what 'meet' and 'gatherBound' come to; the two rows of names that lie in memory.
-/
import Derived.Test.YtdemlfhkhkfceaaUsoZ2
namespace Go.Proofs.Ytdemlfhkhkfceaa
open Go.RowKit
set_option linter.unusedVariables false
set_option linter.unusedSimpArgs false

def bs (s : ByteArray) : List UInt8 := s.data.toList
theorem tk_bs (s : ByteArray) : tk (bs s) = .string s := by cases s; simp [tk, bs]
theorem mk_bs (s : ByteArray) : (⟨(bs s).toArray⟩ : ByteArray) = s := by cases s; simp [bs]

theorem toks_own {base : Nat} {w : World} {v : Value} {P : List (List UInt8)} (h : Toks base w v P) {g : Nat} (hg : v.ownBlock = some g) : base ≤ g ∧ g < w.heap.size := by
  rcases h.2 with ⟨rfl, _⟩ | ⟨g', cap, cur, rfl, hb', hh, _⟩
  · cases hg
  · have e : g' = g := by simpa [Value.ownBlock] using hg
    subst e
    exact ⟨hb', (Array.getElem?_eq_some_iff.1 hh).1⟩

theorem toks_form {base : Nat} {w : World} {v : Value} {P : List (List UInt8)} (h : Toks base w v P) : ∃ ao cap, v = .slice ao P.length cap := by
  rcases h.2 with ⟨rfl, hn⟩ | ⟨g, cap, cur, rfl, _⟩
  · exact ⟨none, 0, by rw [hn]⟩
  · exact ⟨_, cap, rfl⟩

theorem toks_grow {base : Nat} {wr : World} {v : Value} {P : List (List UInt8)} (h : Toks base wr v P) (hb : base ≤ wr.heap.size) (N : List (List UInt8)) (hN : 0 < N.length) (hl : P.length + N.length ≤ 1048577) (sb c : Nat)
    (hs : ∀ j u, (N.map tk)[j]? = some u → wr.cell? ⟨sb, 0 + j, none⟩ = some u) :
    ∃ g cap w2, (Builtin.append_ #[57, 57] 57 #[v, .slice (some ⟨sb, 0, none⟩) N.length c]).run Try.prog wr = .ok (.slice (some ⟨g, 0, none⟩) (P.length + N.length) cap) w2 ∧
      Toks base w2 (.slice (some ⟨g, 0, none⟩) (P.length + N.length) cap) (P ++ N) ∧ wr.grownBy w2 v.ownBlock ∧ (v.ownBlock = some g ∨ g = wr.heap.size) ∧ g < w2.heap.size := by
  obtain ⟨i0, hi, hz0, hz1, hz2⟩ := info_parts Try.infoStr
  obtain ⟨g, cap, w2, hrun, hown2, hgrow, hat, hlt⟩ := run_append_lies (P := Try.prog) wr 57 57 base 9 i0 _ 1 16 Try.underlying57 hi hz0 hz1 hz2 rfl (by omega) v P.length _ h
    ⟨sb, 0, none⟩ N.length c (N.map tk) (by simp) (fun j u hu => by have e := hs j u hu; have ea : (⟨sb, 0, none⟩ : Addr).add j = ⟨sb, 0 + j, none⟩ := (by unfold Addr.add; split <;> simp_all); rw [ea]; exact e) (by intro u hu; obtain ⟨l, _, rfl⟩ := List.mem_map.1 hu; rfl)
    hN (by unfold maxLen; omega) (by omega) hb _ rfl
  refine ⟨g, cap, w2, hrun, ?_, hgrow, hat, hlt⟩
  unfold Toks
  rw [List.length_append, List.map_append]
  exact hown2

end Go.Proofs.Ytdemlfhkhkfceaa

/-
  Free names in the model: 'l2Has', 'l2Binds'.
-/
namespace Go.Proofs.Ytdemlfhkhkfceaa
open Go.RowKit
set_option linter.unusedVariables false
set_option linter.unusedSimpArgs false

theorem toks_at {base : Nat} {w : World} {v : Value} {P : List (List UInt8)} (h : Toks base w v P) (j : Nat) (hj : j < P.length) : ∃ g cap, v = .slice (some ⟨g, 0, none⟩) P.length cap ∧ base ≤ g ∧ g < w.heap.size ∧ w.cell? ⟨g, 0 + j, none⟩ = some (tk P[j]) := by
  rcases h.2 with ⟨rfl, hn⟩ | ⟨g, cap, cur, rfl, hg, hh, h1, h2, h3, h4⟩
  · omega
  · refine ⟨g, cap, rfl, hg, (Array.getElem?_eq_some_iff.1 hh).1, ?_⟩
    have e : (List.map tk P)[j]? = some (tk P[j]) := by simp [hj]
    rw [← h4, List.getElem?_take, if_pos (by omega)] at e
    rw [Nat.zero_add, row_cell hh, ← Array.getElem?_toList, e]

/-- From w to w' no block has changed but the one that the row owns. -/
structure Ko (vo : Value) (w : World) (vo' : Value) (w' : World) : Prop where
  os : w'.os = w.os
  tape : w'.tape = w.tape
  output : w'.output = w.output
  size : w.heap.size ≤ w'.heap.size
  block : ∀ k, k < w.heap.size → vo.ownBlock ≠ some k → w'.heap[k]? = w.heap[k]?
  own : ∀ k, vo'.ownBlock = some k → (vo.ownBlock = some k ∨ w.heap.size ≤ k)

theorem Ko.trans {vo vo' vo'' : Value} {w w' w'' : World} (h : Ko vo w vo' w') (k : Ko vo' w' vo'' w'') : Ko vo w vo'' w'' := by
  refine ⟨k.os.trans h.os, k.tape.trans h.tape, k.output.trans h.output, Nat.le_trans h.size k.size, fun i hi h1 => ?_, fun i hi => ?_⟩
  · exact (k.block i (Nat.lt_of_lt_of_le hi h.size) (fun e => by rcases h.own i e with e | e; exact h1 e; omega)).trans (h.block i hi h1)
  · rcases k.own i hi with e | e
    · exact h.own i e
    · exact Or.inr (Nat.le_trans h.size e)
theorem Ko.below {base : Nat} {vo vo' : Value} {w w' : World} {Fr : List (List UInt8)} (h : Ko vo w vo' w') (ht : Toks base w vo Fr) (hb : base ≤ w.heap.size) : Below base w w' :=
  ⟨h.os, h.tape, h.output, h.size, fun k hk => h.block k (by omega) (fun e => by have := (toks_own ht e).1; omega)⟩

end Go.Proofs.Ytdemlfhkhkfceaa
