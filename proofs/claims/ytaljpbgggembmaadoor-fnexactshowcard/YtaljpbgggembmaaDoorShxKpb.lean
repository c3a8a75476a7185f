/-
  What a round of a loop over an iterator keeps; blocks of cells there. No walk, no statement.
-/
import Derived.Test.YtaljpbgggembmaaDoorShxRw
import Derived.RangeFuncNested
import Derived.RangeFuncBound
import Derived.RangeFuncCalls
import Derived.RangeFuncLeaves
import Derived.Shelf.Abstract
import Derived.Shelf.RegionOpen
import Derived.WalkKit
import Derived.OwnWalkIn
import Derived.TacticsInMore
import Derived.LoopNIn
import Derived.LoopIn
namespace Go.Proofs.YtaljpbgggembmaaDoor
open Go.RowKit Go.Shelf
set_option linter.unusedVariables false
set_option linter.unusedSimpArgs false

/-- What a round that goes on keeps: what lay below n₀, and one box. -/
structure KpB (n₀ Bs : Nat) (W W' : World) : Prop where
  bel : Below n₀ W W'
  box : ∀ c t fr, W.heap[Bs]? = some (.cells c t fr) → W'.heap[Bs]? = some (.cells c t fr)
theorem KpB.refl (n₀ Bs : Nat) (W : World) : KpB n₀ Bs W W := ⟨Below.refl _ _, fun _ _ _ h => h⟩
theorem KpB.trans {n₀ Bs : Nat} {A B C : World} (h : KpB n₀ Bs A B) (k : KpB n₀ Bs B C) : KpB n₀ Bs A C := ⟨h.bel.trans k.bel, fun c t fr hc => k.box c t fr (h.box c t fr hc)⟩
theorem KpB.put {n₀ Bs B : Nat} (hB : n₀ ≤ B) (W : World) (l : Nat) (o o' : Obj) (hl : B ≤ l) (h : W.heap[l]? = some o) (ho : o.isCells = false) : KpB n₀ Bs W (W.putObj l o') := by
  have hg := grownBy_putObj' W l o'
  refine ⟨⟨hg.os, hg.tape, hg.output, hg.size, fun k hk => ?_⟩, fun c t fr hc => ?_⟩
  · exact World.putObj_heap_other (by omega)
  · have hne : l ≠ Bs := fun e => by
      subst e
      rw [hc] at h
      cases h
      cases ho
    rw [World.putObj_heap_other hne.symm]
    exact hc

/-- A block of cells. -/
def Blk (W : World) (B : Nat) (t : TypeId) (c : Array Value) : Prop := W.heap[B]? = some (.cells c t (0, 0))
theorem blk_own {β : Type} (B : Nat) (t : TypeId) (f : β → Array Value) : Own (fun s W => Blk W B t (f s)) := fun s X Y row hs hg hrow =>
  (hg.block B (Array.getElem?_eq_some_iff.1 hs).1 (fun e' => by obtain ⟨o, ho, hc⟩ := hrow B e'.symm; rw [show X.heap[B]? = _ from hs] at ho; cases ho; cases hc)).trans hs
theorem Blk.alloc {W : World} {B : Nat} {t : TypeId} {c : Array Value} (h : Blk W B t c) (o : Obj) : Blk (W.alloc o) B t c := (Below.heap_alloc _ _ _ (Array.getElem?_eq_some_iff.1 h).1).trans h
theorem Blk.set {W : World} {B B' : Nat} {t : TypeId} {c : Array Value} (h : Blk W B t c) (o : Nat) (v : Value) (hne : B ≠ B') : Blk (W.setCell ⟨B', o, none⟩ v) B t c := (row_other _ _ _ hne).trans h
theorem Blk.lt {W : World} {B : Nat} {t : TypeId} {c : Array Value} (h : Blk W B t c) : B < W.heap.size := (Array.getElem?_eq_some_iff.1 h).1

/-- Blocks of cells behind the end of a loop over an iterator. -/
theorem Blk.put {W : World} {B D : Nat} {t : TypeId} {c : Array Value} {o : Obj} (h : Blk W B t c) (hD : W.heap[D]? = some o) (ho : o.isCells = false) (o' : Obj) : Blk (W.putObj D o') B t c := by
  have hne : D ≠ B := fun e => by
    subst e
    rw [show W.heap[D]? = _ from h] at hD
    cases hD
    cases ho
  exact (World.putObj_heap_other hne.symm).trans h

theorem KpB.of_below {n₀ Bs : Nat} {X Y : World} (h : Below X.heap.size X Y) (hn : n₀ ≤ X.heap.size) : KpB n₀ Bs X Y :=
  ⟨h.mono hn, fun c t fr hc => (h.block Bs (Array.getElem?_eq_some_iff.1 hc).1).trans hc⟩
theorem grown_belK {X Y : World} (h : Below X.heap.size X Y) : X.grownBy Y none := ⟨h.os, h.tape, h.output, h.size, fun k hk _ => h.block k hk⟩

end Go.Proofs.YtaljpbgggembmaaDoor
