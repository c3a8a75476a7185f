/-
  Worlds in which nothing has changed but some blocks. No walk, no statement.
-/
import Derived.Test.YtaljpbgggembmaaDoorShxKpb
namespace Go.Proofs.YtaljpbgggembmaaDoor
open Go.RowKit Go.Shelf
set_option linter.unusedVariables false
set_option linter.unusedSimpArgs false

/-- Nothing that was there has changed but these blocks. -/
structure Oth (D : List Nat) (W0 W : World) : Prop where
  os : W.os = W0.os
  tape : W.tape = W0.tape
  output : W.output = W0.output
  size : W0.heap.size ≤ W.heap.size
  block : ∀ k, k < W0.heap.size → k ∉ D → W.heap[k]? = W0.heap[k]?
theorem Oth.refl (D : List Nat) (W : World) : Oth D W W := ⟨rfl, rfl, rfl, Nat.le_refl _, fun _ _ _ => rfl⟩
theorem Oth.below {D : List Nat} {W0 W W' : World} (h : Oth D W0 W) (hb : Below W.heap.size W W') : Oth D W0 W' :=
  ⟨hb.os.trans h.os, hb.tape.trans h.tape, hb.output.trans h.output, Nat.le_trans h.size hb.size, fun k hk hd => (hb.block k (Nat.lt_of_lt_of_le hk h.size)).trans (h.block k hk hd)⟩
theorem Oth.set {D : List Nat} {W0 W : World} (h : Oth D W0 W) {g : Nat} (hg : g ∈ D) (o : Nat) (v : Value) : Oth D W0 (W.setCell ⟨g, o, none⟩ v) :=
  ⟨h.os, h.tape, h.output, by simpa using h.size, fun k hk hd => (row_other _ _ _ (fun e => hd (by rw [e]; exact hg))).trans (h.block k hk hd)⟩
theorem Oth.new {D : List Nat} {W0 W : World} (h : Oth D W0 W) {g : Nat} (hg : W0.heap.size ≤ g) (o : Nat) (v : Value) : Oth D W0 (W.setCell ⟨g, o, none⟩ v) :=
  ⟨h.os, h.tape, h.output, by simpa using h.size, fun k hk hd => (row_other _ _ _ (by omega)).trans (h.block k hk hd)⟩
theorem Oth.alloc {D : List Nat} {W0 W : World} (h : Oth D W0 W) (o : Obj) : Oth D W0 (W.alloc o) := h.below ((Below.refl _ _).alloc (Nat.le_refl _) o)
theorem Oth.drewN {D : List Nat} {W0 W : World} (h : Oth D W0 W) (n : Nat) : Oth D W0 (W.drewN n) := ⟨h.os, h.tape, h.output, h.size, h.block⟩
theorem Oth.drew {D : List Nat} {W0 W : World} (h : Oth D W0 W) : Oth D W0 W.drew := ⟨h.os, h.tape, h.output, h.size, h.block⟩
theorem Oth.toBelow {D : List Nat} {W0 W : World} (h : Oth D W0 W) {n : Nat} (hn : n ≤ W0.heap.size) (hd : ∀ d ∈ D, n ≤ d) : Below n W0 W :=
  ⟨h.os, h.tape, h.output, h.size, fun k hk => h.block k (by omega) (fun e => by have := hd k e; omega)⟩
theorem Oth.put {D : List Nat} {W0 W : World} (h : Oth D W0 W) {l : Nat} (hl : W0.heap.size ≤ l) (o : Obj) : Oth D W0 (W.putObj l o) := by
  have hg := grownBy_putObj' W l o
  exact ⟨hg.os.trans h.os, hg.tape.trans h.tape, hg.output.trans h.output, Nat.le_trans h.size hg.size, fun k hk hd => (World.putObj_heap_other (by omega)).trans (h.block k hk hd)⟩
theorem ownFrom_oth {β : Type} {D : List Nat} {W0 : World} {B : Nat} (hB : W0.heap.size ≤ B) : OwnFrom B (fun (_ : β) W => Oth D W0 W) :=
  fun _ W W' row hs hg hr => ⟨hg.os.trans hs.os, hg.tape.trans hs.tape, hg.output.trans hs.output, Nat.le_trans hs.size hg.size, fun k hk hd =>
    (hg.block k (Nat.lt_of_lt_of_le hk hs.size) (fun e => by have := (hr k e.symm).1; omega)).trans (hs.block k hk hd)⟩
theorem keeps_set {W : World} {g o : Nat} {v : Value} : KeepsOthers W (W.setCell ⟨g, o, none⟩ v) := KeepsOthers.setCell _ _ _
theorem keeps_below {W W' : World} (h : Below W.heap.size W W') : KeepsOthers W W' := ⟨h.size, fun k o hk _ => (h.block k (Array.getElem?_eq_some_iff.1 hk).1).trans hk⟩
theorem oth_join {D : List Nat} {W0 W W' : World} (h : Oth [] W0 W) (k : Oth D W W') : Oth D W0 W' :=
  ⟨k.os.trans h.os, k.tape.trans h.tape, k.output.trans h.output, Nat.le_trans h.size k.size, fun i hi hd => (k.block i (Nat.lt_of_lt_of_le hi h.size) hd).trans (h.block i hi (by simp))⟩

end Go.Proofs.YtaljpbgggembmaaDoor
