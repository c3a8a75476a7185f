/-
  'strconv.Itoa' at every number, while the table of powers of ten lies untouched; rows of tokens that grow.
-/
import Derived.Test.YtgljlgiebmnekaaDoorQtZ3
import Derived.Test.YtgljlgiebmnekaaDoorQtTt
namespace Go.Proofs.YtgljlgiebmnekaaDoor
open Go.RowKit Go.Sort
set_option linter.unusedVariables false
set_option linter.unusedSimpArgs false

/-- New tokens behind those that are there. -/
theorem toks_more {base : Nat} {wr : World} {v : Value} {P : List (List UInt8)} (h : Toks base wr v P) (hb : base ≤ wr.heap.size) (N : List (List UInt8)) (hN : 0 < N.length) (hl : P.length + N.length ≤ 1048577) (M : Array Value) (hM : M.toList = N.map tk) :
    ∃ g cap w2, (Builtin.append_ #[47, 47] 47 #[v, .slice (some ⟨wr.heap.size, 0, none⟩) N.length N.length]).run Tryd.prog (wr.alloc (.cells M 9)) = .ok (.slice (some ⟨g, 0, none⟩) (P.length + N.length) cap) w2 ∧
      Toks base w2 (.slice (some ⟨g, 0, none⟩) (P.length + N.length) cap) (P ++ N) ∧ Below base wr w2 := by
  obtain ⟨i0, hi, hz0, hz1, hz2⟩ := info_parts Tryd.infoStr
  have hA : Below wr.heap.size wr (wr.alloc (.cells M 9)) := (Below.refl _ _).alloc (Nat.le_refl _) _
  have h1 : Toks base (wr.alloc (.cells M 9)) v P := toks_below h hA
  obtain ⟨g, cap, w2, hrun, hown2, hgrow, hat, hlt⟩ := run_append_lies (P := Tryd.prog) (wr.alloc (.cells M 9)) 47 47 base 9 i0 _ 1 16 Tryd.underlying47 hi hz0 hz1 hz2 rfl (by omega) v P.length _ h1
    ⟨wr.heap.size, 0, none⟩ N.length N.length (N.map tk) (by simp) (by rw [← hM]; exact World.news_of_block (cs := M) (t := 9) (fr := (0, 0)) (heap_alloc_new wr _)) (by intro u hu; obtain ⟨l, _, rfl⟩ := List.mem_map.1 hu; rfl)
    hN (by unfold maxLen; omega) (by omega) (by simp; omega) _ rfl
  have hvb : ∀ g, v.ownBlock = some g → base ≤ g := by
    intro g hg
    rcases h.2 with ⟨rfl, _⟩ | ⟨g', cap, cur, rfl, hb', _⟩
    · cases hg
    · have e : g' = g := by simpa [Value.ownBlock] using hg
      subst e; exact hb'
  have hsz := hgrow.size
  simp only [World.size_alloc] at hsz
  refine ⟨g, cap, w2, hrun, ?_, ⟨hgrow.os, hgrow.tape, hgrow.output, by omega, fun q hq => ?_⟩⟩
  · unfold Toks
    rw [List.length_append, List.map_append]
    exact hown2
  · exact (hgrow.block q (by simp; omega) (fun e => by have := hvb q e.symm; omega)).trans (hA.block q (by omega))

theorem tk_sb (s : ByteArray) : tk s.data.toList = .string s := by cases s; simp [tk]

end Go.Proofs.YtgljlgiebmnekaaDoor
