/-
  The model's 'l12Show' at a word that is no list, given what it does with less fuel.
-/
import Derived.Test.YtaljpbgggembmaaDoorShxSm1
import Derived.Test.YtaljpbgggembmaaDoorShxBy8
import Derived.Test.YtaljpbgggembmaaDoorShxLi0
namespace Go.Proofs.YtaljpbgggembmaaDoor
open Go.RowKit
set_option linter.unusedVariables false
set_option linter.unusedSimpArgs false

/-- The two boxes that a call of 'l12Show' lays. -/
def box2 (w : World) (s : Int) (ao : Option Addr) (len cap : Nat) (K N : Int) : World := (w.alloc (.cells #[.int .i64 s, .slice ao len cap] 31)).alloc (.cells #[.int .i64 K, .int .i64 N] 33)
structure Bx (w W : World) (s : Int) (ao : Option Addr) (len cap : Nat) (K N : Int) : Prop where
  b0 : W.heap[w.heap.size]? = some (.cells #[.int .i64 s, .slice ao len cap] 31 (0, 0))
  b1 : W.heap[w.heap.size + 1]? = some (.cells #[.int .i64 K, .int .i64 N] 33 (0, 0))
theorem Bx.mk' (w : World) (s : Int) (ao : Option Addr) (len cap : Nat) (K N : Int) : Bx w (box2 w s ao len cap K N) s ao len cap K N ∧ Below w.heap.size w (box2 w s ao len cap K N) :=
  ⟨⟨by unfold box2; rw [Below.heap_alloc _ _ _ (by simp)]; exact heap_new rfl, by unfold box2; exact heap_new (by simp)⟩, by unfold box2; exact ((Below.refl _ _).alloc (Nat.le_refl _) _).alloc (by simp) _⟩
theorem tyH : (31 : TypeId) ≠ 5 := by decide
theorem tyW : (33 : TypeId) ≠ 5 := by decide
theorem Bx.sg {w W W' : World} {M : Nat} {s : Int} {ao : Option Addr} {len cap : Nat} {K N : Int} (h : Bx w W s ao len cap K N) (hM : M < w.heap.size) (hg : Sg M W W') : Bx w W' s ao len cap K N := ⟨hg.blk h.b0 (by omega) tyH, hg.blk h.b1 (by omega) tyW⟩

set_option maxRecDepth 100000 in
set_option maxHeartbeats 2000000 in
theorem sShow_zero {s : Int} {M len cap : Nat} {ao : Option Addr} {x : Wrd} {T : List UInt8} {v : Value} {w : World} (h : Ml w M 0 v T) (hl : T.length ≤ 900000) :
    Calls Tryd.prog 12 #[vH s ao len cap, vW x, .pointer (some ⟨M, 0, none⟩), v] w fun e w' => ∃ v', e = .returned v' ∧ Sg M w w' ∧ Ml w' M 0 v' (T ++ [46]) := by
  obtain ⟨hB, hb⟩ := Bx.mk' w s ao len cap x.K x.N
  have hM := h.lt
  have h1 := h.below hb
  have hc := h1.cell
  obtain ⟨g, cp, w2, hrun, hM2, hg2⟩ := h1.add [46] (by simp) [.int .u8 46] rfl 1 rfl (by simp; omega)
  obtain ⟨vo, vc, hve⟩ := byr_form h.row
  subst hve
  have hG := (Sg.below hb (by omega)).trans hg2
  unfold box2 at *
  simp only [World.size_alloc] at hrun
  have HR : Hid (_ = _) := hrun
  clear hrun hB hb h1 hg2
  go_enter Tryd.func12, Tryd.ntmps12
  go_wp2_with (at_builtin; refine list_run2 HR.out (by rfl) _ _ (by rfl) (by rfl) (by rfl) (by rfl) ?_)
  go_ret
  exact ⟨_, rfl, hG, hM2⟩

end Go.Proofs.YtaljpbgggembmaaDoor
