/-
  Free names: what 'meet' and 'gatherBound' come to; the two rows of names that lie in memory.
-/
import Derived.Test.YtgckmnchlkgakaaAluTk
import Derived.Test.YtgckmnchlkgakaaAluOw
import Derived.Test.YtgckmnchlkgakaaAluLwM
namespace Go.Proofs.Ytgckmnchlkgakaa
open Go.RowKit
set_option linter.unusedVariables false
set_option linter.unusedSimpArgs false

def bs (s : ByteArray) : List UInt8 := s.data.toList
theorem tk_bs (s : ByteArray) : tk (bs s) = .string s := by cases s; simp [tk, bs]
theorem toks_own {base : Nat} {w : World} {v : Value} {P : List (List UInt8)} (h : Toks base w v P) {g : Nat} (hg : v.ownBlock = some g) : base ≤ g ∧ g < w.heap.size := by
  rcases h.2 with ⟨rfl, _⟩ | ⟨g', cap, cur, rfl, hb', hh, _⟩
  · cases hg
  · have e : g' = g := by simpa [Value.ownBlock] using hg
    subst e
    exact ⟨hb', (Array.getElem?_eq_some_iff.1 hh).1⟩

theorem toks_keep {base : Nat} {w w' : World} {v : Value} {P : List (List UInt8)} (h : Toks base w v P) (hk : ∀ g, v.ownBlock = some g → w'.heap[g]? = w.heap[g]?) : Toks base w' v P := by
  refine ⟨h.1, ?_⟩
  rcases h.2 with hn | ⟨g, cap, cur, rfl, hg, hh, r⟩
  · exact Or.inl hn
  · exact Or.inr ⟨g, cap, cur, rfl, hg, (hk g rfl).trans hh, r⟩

theorem toks_form {base : Nat} {w : World} {v : Value} {P : List (List UInt8)} (h : Toks base w v P) : ∃ ao cap, v = .slice ao P.length cap := by
  rcases h.2 with ⟨rfl, hn⟩ | ⟨g, cap, cur, rfl, _⟩
  · exact ⟨none, 0, by rw [hn]⟩
  · exact ⟨_, cap, rfl⟩

theorem toks_grow {base : Nat} {wr : World} {v : Value} {P : List (List UInt8)} (h : Toks base wr v P) (hb : base ≤ wr.heap.size) (N : List (List UInt8)) (hN : 0 < N.length) (hl : P.length + N.length ≤ 1048577) (sb c : Nat)
    (hs : ∀ j u, (N.map tk)[j]? = some u → wr.cell? ⟨sb, 0 + j, none⟩ = some u) :
    ∃ g cap w2, (Builtin.append_ #[29, 29] 29 #[v, .slice (some ⟨sb, 0, none⟩) N.length c]).run Try.prog wr = .ok (.slice (some ⟨g, 0, none⟩) (P.length + N.length) cap) w2 ∧
      Toks base w2 (.slice (some ⟨g, 0, none⟩) (P.length + N.length) cap) (P ++ N) ∧ wr.grownBy w2 v.ownBlock ∧ (v.ownBlock = some g ∨ g = wr.heap.size) ∧ g < w2.heap.size := by
  obtain ⟨i0, hi, hz0, hz1, hz2⟩ := info_parts Try.infoStr
  obtain ⟨g, cap, w2, hrun, hown2, hgrow, hat, hlt⟩ := run_append_lies (P := Try.prog) wr 29 29 base 9 i0 _ 1 16 Try.underlying29 hi hz0 hz1 hz2 rfl (by omega) v P.length _ h
    ⟨sb, 0, none⟩ N.length c (N.map tk) (by simp) (fun j u hu => by have e := hs j u hu; have ea : (⟨sb, 0, none⟩ : Addr).add j = ⟨sb, 0 + j, none⟩ := (by unfold Addr.add; split <;> simp_all); rw [ea]; exact e) (by intro u hu; obtain ⟨l, _, rfl⟩ := List.mem_map.1 hu; rfl)
    hN (by unfold maxLen; omega) (by omega) hb _ rfl
  refine ⟨g, cap, w2, hrun, ?_, hgrow, hat, hlt⟩
  unfold Toks
  rw [List.length_append, List.map_append]
  exact hown2

theorem toks_cut {base : Nat} {w : World} {ao : Option Addr} {n cap : Nat} {P N : List (List UInt8)} (h : Toks base w (.slice ao n cap) (P ++ N)) : Toks base w (.slice ao P.length cap) P ∨ (ao = none ∧ P = []) := by
  rcases h.2 with ⟨e, hn⟩ | ⟨g, cap', cur, e, hg, hh, h1, h2, h3, h4⟩
  · right
    cases e
    rw [List.length_append] at hn
    exact ⟨rfl, List.length_eq_zero_iff.1 (by omega)⟩
  · left
    injection e with e1 e2 e3
    subst e1
    subst e3
    refine ⟨by simp, Or.inr ⟨g, _, cur, rfl, hg, hh, ?_, h2, h3, ?_⟩⟩
    · rw [List.length_append] at h1; omega
    · have := congrArg (List.take (P.length * 1)) h4
      rw [List.take_take, List.map_append] at this
      rw [List.length_append] at this
      rw [Nat.min_eq_left (by omega)] at this
      rw [this, List.take_append_of_le_length (by simp), List.take_of_length_le (by simp)]

theorem toks_le {base base' : Nat} {w : World} {v : Value} {P : List (List UInt8)} (h : Toks base w v P) (hb : base' ≤ base) : Toks base' w v P :=
  ⟨h.1, h.2.elim Or.inl (fun ⟨g, cap, cur, hv, hg, r⟩ => Or.inr ⟨g, cap, cur, hv, Nat.le_trans hb hg, r⟩)⟩

end Go.Proofs.Ytgckmnchlkgakaa
