/-
  Free names in the model: 'l2Has', 'l2Binds'.
-/
import Derived.Test.YtgckmnchlkgakaaAluGa00
namespace Go.Proofs.Ytgckmnchlkgakaa
open Go.RowKit
set_option linter.unusedVariables false
set_option linter.unusedSimpArgs false

theorem toks_at {base : Nat} {w : World} {v : Value} {P : List (List UInt8)} (h : Toks base w v P) (j : Nat) (hj : j < P.length) : ∃ g cap, v = .slice (some ⟨g, 0, none⟩) P.length cap ∧ base ≤ g ∧ g < w.heap.size ∧ w.cell? ⟨g, 0 + j, none⟩ = some (tk P[j]) := by
  rcases h.2 with ⟨rfl, hn⟩ | ⟨g, cap, cur, rfl, hg, hh, h1, h2, h3, h4⟩
  · omega
  · refine ⟨g, cap, rfl, hg, (Array.getElem?_eq_some_iff.1 hh).1, ?_⟩
    have e : (List.map tk P)[j]? = some (tk P[j]) := by simp [hj]
    rw [← h4, List.getElem?_take, if_pos (by omega)] at e
    rw [Nat.zero_add, row_cell hh, ← Array.getElem?_toList, e]

theorem toks_bel {base : Nat} {w w' : World} {v : Value} {P : List (List UInt8)} (h : Toks base w v P) (hb : Below w.heap.size w w') : Toks base w' v P := toks_keep h fun g hg => hb.block g (toks_own h hg).2

/-- From w to w' no block has changed but the one that the row owns. -/
structure Ko (vo : Value) (w : World) (vo' : Value) (w' : World) : Prop where
  os : w'.os = w.os
  tape : w'.tape = w.tape
  output : w'.output = w.output
  size : w.heap.size ≤ w'.heap.size
  block : ∀ k, k < w.heap.size → vo.ownBlock ≠ some k → w'.heap[k]? = w.heap[k]?
  own : ∀ k, vo'.ownBlock = some k → (vo.ownBlock = some k ∨ w.heap.size ≤ k)

theorem Ko.trans {vo vo' vo'' : Value} {w w' w'' : World} (h : Ko vo w vo' w') (k : Ko vo' w' vo'' w'') : Ko vo w vo'' w'' := by
  refine ⟨k.os.trans h.os, k.tape.trans h.tape, k.output.trans h.output, Nat.le_trans h.size k.size, fun i hi h1 => ?_, fun i hi => ?_⟩
  · exact (k.block i (Nat.lt_of_lt_of_le hi h.size) (fun e => by rcases h.own i e with e | e; exact h1 e; omega)).trans (h.block i hi h1)
  · rcases k.own i hi with e | e
    · exact h.own i e
    · exact Or.inr (Nat.le_trans h.size e)
theorem Ko.of_below {vo : Value} {w w' : World} (h : Below w.heap.size w w') : Ko vo w vo w' :=
  ⟨h.os, h.tape, h.output, h.size, fun k hk _ => h.block k hk, fun k hk => Or.inl hk⟩
theorem Ko.below {base : Nat} {vo vo' : Value} {w w' : World} {Fr : List (List UInt8)} (h : Ko vo w vo' w') (ht : Toks base w vo Fr) (hb : base ≤ w.heap.size) : Below base w w' :=
  ⟨h.os, h.tape, h.output, h.size, fun k hk => h.block k (by omega) (fun e => by have := (toks_own ht e).1; omega)⟩

end Go.Proofs.Ytgckmnchlkgakaa
