/-
  The model's 'l12Show' at a record and at a pair.
-/
import Derived.Test.YtaljpbgggembmaaDoorShxSm3
import Derived.Deep.RegionHeld3
namespace Go.Proofs.YtaljpbgggembmaaDoor
open Go.RowKit
set_option linter.unusedVariables false
set_option linter.unusedSimpArgs false

/-- A word of the heap at its place: two cells. -/
theorem ws_two {M : Nat} {w : World} {b o len : Nat} {l : List Wrd} (hs : Ws 0 M w (some ⟨b, o, none⟩) len l) (i : Nat) (h : i < l.length) : b < M ∧ w.cell? ⟨b, o + i * 2, none⟩ = some (.int .i64 (l.getD i wz).K) ∧ w.cell? ⟨b, o + i * 2 + 1, none⟩ = some (.int .i64 (l.getD i wz).N) := by
  have := obj_two hs i 0 (by omega)
  simpa using this

/-- The beginning at an object: one box more. -/
structure Ob (w Z : World) (M : Nat) (s : Int) (b o len cap a : Nat) (y : Wrd) (n : Int) (v : Value) (T : List UInt8) : Prop where
  ml : Ml Z M n v T
  sg : Sg M w Z
  bx : Bx w Z s (some ⟨b, o, none⟩) len cap 4 (a : Int)
  hd : Z.heap[w.heap.size + 1 + 1]? = some (.cells #[.int .i64 y.K, .int .i64 y.N] 33 (0, 0))
theorem Ob.step {w Z Z' : World} {M : Nat} {s : Int} {b o len cap a : Nat} {y : Wrd} {n n' : Int} {v v' : Value} {T T' : List UInt8} (h : Ob w Z M s b o len cap a y n v T) (hM : M < w.heap.size) (hg : Sg M Z Z') (hm : Ml Z' M n' v' T') : Ob w Z' M s b o len cap a y n' v' T' :=
  ⟨hm, h.sg.trans hg, h.bx.sg hM hg, hg.blk h.hd (by omega) tyW⟩
theorem Ob.drew {w Z : World} {M : Nat} {s : Int} {b o len cap a : Nat} {y : Wrd} {n : Int} {v : Value} {T : List UInt8} (h : Ob w Z M s b o len cap a y n v T) : Ob w Z.drew M s b o len cap a y n v T := ⟨h.ml.drew, h.sg.drewS, ⟨h.bx.b0, h.bx.b1⟩, h.hd⟩

def box3 (w : World) (M : Nat) (s : Int) (ao : Option Addr) (len cap a : Nat) (x : Wrd) (n : Int) : World := (box2 (w.setCell ⟨M, 0, none⟩ (.int .i64 n)) s ao len cap 4 (a : Int)).alloc (.cells #[.int .i64 x.K, .int .i64 x.N] 33)
theorem Ob.start {w : World} {M n : Nat} {s : Int} {b o len cap a : Nat} {y : Wrd} {v : Value} {T : List UInt8} (h : Ml w M ((n + 1 : Nat) : Int) v T) : Ob w (box3 w M s (some ⟨b, o, none⟩) len cap a y (n : Int)) M s b o len cap a y (n : Int) v T := by
  obtain ⟨c0, f0, hZ⟩ := Stz.start h s (some ⟨b, o, none⟩) len cap 4 (a : Int)
  have hA : Below (box2 (w.setCell ⟨M, 0, none⟩ (.int .i64 (n : Int))) s (some ⟨b, o, none⟩) len cap 4 (a : Int)).heap.size (box2 (w.setCell ⟨M, 0, none⟩ (.int .i64 (n : Int))) s (some ⟨b, o, none⟩) len cap 4 (a : Int)) (box3 w M s (some ⟨b, o, none⟩) len cap a y (n : Int)) := (Below.refl _ _).alloc (Nat.le_refl _) _
  have hz : (box2 (w.setCell ⟨M, 0, none⟩ (.int .i64 (n : Int))) s (some ⟨b, o, none⟩) len cap 4 (a : Int)).heap.size = w.heap.size + 1 + 1 := by unfold box2; simp
  have hM := h.lt
  have hg := Sg.below hA (show M ≤ _ by omega)
  exact ⟨hZ.ml.below hA, hZ.sg.trans hg, hZ.bx.sg hM hg, heap_new (by rw [hz])⟩

set_option maxRecDepth 100000 in
set_option maxHeartbeats 2000000 in
theorem sShow_fn {s : Int} {M b o len cap n a : Nat} {l : List Wrd} {T : List UInt8} {v : Value} {w : World} (h : Ml w M ((n + 1 : Nat) : Int) v T) (hs : Ws 0 M w (some ⟨b, o, none⟩) len l) (ha : a < l.length) (N' : Int) (hy : l.getD a wz = ⟨7, N'⟩) (hn : n ≤ 1000000) (hl : T.length ≤ 900000) :
    Calls Tryd.prog 12 #[vH s (some ⟨b, o, none⟩) len cap, vW ⟨4, (a : Int)⟩, .pointer (some ⟨M, 0, none⟩), v] w fun e w' => ∃ v', e = .returned v' ∧ Sg M w w' ∧ Ml w' M (n : Int) v' (T ++ [102, 110]) := by
  obtain ⟨c0, f0, hZ⟩ := Stz.start h s (some ⟨b, o, none⟩) len cap 4 (a : Int)
  have hO := Ob.start (s := s) (b := b) (o := o) (len := len) (cap := cap) (a := a) (y := ⟨7, N'⟩) h
  have hM := h.lt
  obtain ⟨vo, vc, hve⟩ := byr_form h.row
  subst hve
  obtain ⟨q0, q1⟩ := cells2 hZ.bx.b1
  obtain ⟨p0, p1⟩ := cells2 hZ.bx.b0
  obtain ⟨r0, r1⟩ := cells2 hO.hd
  have hsZ := hs.sg hZ.sg
  obtain ⟨hbM, d0, d1⟩ := ws_two hsZ a ha
  rw [hy] at d0 d1
  have hlen := hs.1
  have hi1 : (a : Int) < (len : Int) := by omega
  have hne : ¬ ((n + 1 : Nat) : Int) = 0 := by omega
  have hsub : ((n + 1 : Nat) : Int) - 1 = (n : Int) := by omega
  have c9 := h.cell
  have f9 := row_free h.blk 0
  generalize ((n + 1 : Nat) : Int) = m at *
  obtain ⟨g, cp, w3, hrun, hM3, hg3⟩ := hO.ml.add [102, 110] (by simp) [.int .u8 102, .int .u8 110] rfl 2 rfl (by simp; omega)
  have hG := hO.sg.trans hg3
  unfold box3 at *
  unfold box2 at *
  simp only [World.size_alloc, World.size_setCell] at hrun
  have HR : Hid (_ = _) := hrun
  clear h hZ hrun hg3 hO hs hsZ hlen hy
  go_enter Tryd.func12, Tryd.ntmps12
  go_wp2_with (at_builtin; refine list_run2 HR.out (by rfl) _ _ (by rfl) (by rfl) (by rfl) (by rfl) ?_)
  go_ret
  exact ⟨_, rfl, hG, hM3⟩

end Go.Proofs.YtaljpbgggembmaaDoor
