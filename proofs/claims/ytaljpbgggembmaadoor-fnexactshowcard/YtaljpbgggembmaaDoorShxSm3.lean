/-
  The model's 'l12Show' at numbers, truths and nothing.
-/
import Derived.Test.YtaljpbgggembmaaDoorShxSm2
namespace Go.Proofs.YtaljpbgggembmaaDoor
open Go.RowKit
set_option linter.unusedVariables false
set_option linter.unusedSimpArgs false

/-- The beginning of a call of 'l12Show' that may look: two boxes, one look less. -/
structure Stz (w Z : World) (M : Nat) (s : Int) (ao : Option Addr) (len cap : Nat) (K N : Int) (n : Int) (v : Value) (T : List UInt8) : Prop where
  ml : Ml Z M n v T
  sg : Sg M w Z
  bx : Bx w Z s ao len cap K N
theorem Stz.start {w : World} {M n : Nat} {v : Value} {T : List UInt8} (h : Ml w M ((n + 1 : Nat) : Int) v T) (s : Int) (ao : Option Addr) (len cap : Nat) (K N : Int) :
    (box2 w s ao len cap K N).cell? ⟨M, 0, none⟩ = some (.int .i64 ((n + 1 : Nat) : Int)) ∧ (box2 w s ao len cap K N).frozen? ⟨M, 0, none⟩ = false ∧ Stz w (box2 (w.setCell ⟨M, 0, none⟩ (.int .i64 (n : Int))) s ao len cap K N) M s ao len cap K N (n : Int) v T := by
  obtain ⟨hB, hb⟩ := Bx.mk' w s ao len cap K N
  have hM := h.lt
  have h1 := h.below hb
  obtain ⟨k1, k2⟩ := h.setN (n : Int)
  obtain ⟨hB2, hb2⟩ := Bx.mk' (w.setCell ⟨M, 0, none⟩ (.int .i64 (n : Int))) s ao len cap K N
  have hz : (w.setCell ⟨M, 0, none⟩ (.int .i64 (n : Int))).heap.size = w.heap.size := by simp
  have q0 := hB2.b0
  have q1 := hB2.b1
  rw [hz] at q0 q1
  exact ⟨h1.cell, row_free h1.blk 0, k1.below hb2, k2.trans (Sg.below hb2 (by omega)), ⟨q0, q1⟩⟩

set_option maxRecDepth 100000 in
set_option maxHeartbeats 2000000 in
theorem sShow_num {s : Int} {M len cap n : Nat} {ao : Option Addr} {N : Int} {T : List UInt8} {v : Value} {w : World} (h : Ml w M ((n + 1 : Nat) : Int) v T) (hn : n ≤ 1000000) (hl : T.length ≤ 900000) (h0 : -1000000 ≤ N) (h1 : N ≤ 1000000) :
    Calls Tryd.prog 12 #[vH s ao len cap, vW ⟨1, N⟩, .pointer (some ⟨M, 0, none⟩), v] w fun e w' => ∃ v', e = .returned v' ∧ Sg M w w' ∧ Ml w' M (n : Int) v' (T ++ Lib.itoa N) := by
  obtain ⟨c0, f0, hZ⟩ := Stz.start h s ao len cap 1 N
  have hM := h.lt
  have hlen := Lib.itoa_length_le N (by omega) (by omega)
  obtain ⟨vo, vc, hve⟩ := byr_form h.row
  subst hve
  have hml := hZ.ml
  have hsg := hZ.sg
  obtain ⟨q0, q1⟩ := cells2 hZ.bx.b1
  have hne : ¬ ((n + 1 : Nat) : Int) = 0 := by omega
  have hsub : ((n + 1 : Nat) : Int) - 1 = (n : Int) := by omega
  have c9 := h.cell
  have f9 := row_free h.blk 0
  generalize ((n + 1 : Nat) : Int) = m at *
  unfold box2 at *
  clear h hZ
  go_enter Tryd.func12, Tryd.ntmps12
  go_wp2_with fail
  refine (li_any N h0 h1 _).mono ?_
  rintro e w2 ⟨rfl, hb2⟩
  have hml2 := hml.below hb2
  have hsg2 := hsg.trans (Sg.below hb2 (by have := hml.lt; omega))
  obtain ⟨vo', vc', w3, hrun, hM3, hg3⟩ := hml2.addS (Lib.itoa N) (by omega)
  have hG := hsg2.trans hg3
  have HR : Hid (_ = _) := hrun
  clear hrun hml hsg hml2 hsg2 hg3 c0 f0 q0 q1
  go_wp2_with (at_builtin; refine list_run2 HR.out (by rfl) _ _ (by rfl) (by rfl) (by rfl) (by rfl) ?_)
  go_ret
  exact ⟨_, rfl, hG, hM3⟩

set_option maxRecDepth 100000 in
set_option maxHeartbeats 2000000 in
theorem sShow_bool {s : Int} {M len cap n : Nat} {ao : Option Addr} {N : Int} {T : List UInt8} {v : Value} {w : World} (h : Ml w M ((n + 1 : Nat) : Int) v T) (hn : n ≤ 1000000) (hl : T.length ≤ 900000) :
    Calls Tryd.prog 12 #[vH s ao len cap, vW ⟨2, N⟩, .pointer (some ⟨M, 0, none⟩), v] w fun e w' => ∃ v', e = .returned v' ∧ Sg M w w' ∧ Ml w' M (n : Int) v' (T ++ (if N = 1 then [116] else [117])) := by
  obtain ⟨c0, f0, hZ⟩ := Stz.start h s ao len cap 2 N
  have hM := h.lt
  obtain ⟨vo, vc, hve⟩ := byr_form h.row
  subst hve
  obtain ⟨q0, q1⟩ := cells2 hZ.bx.b1
  have hne : ¬ ((n + 1 : Nat) : Int) = 0 := by omega
  have hsub : ((n + 1 : Nat) : Int) - 1 = (n : Int) := by omega
  have c9 := h.cell
  have f9 := row_free h.blk 0
  generalize ((n + 1 : Nat) : Int) = m at *
  by_cases hN : N = 1
  · rw [if_pos hN]
    subst hN
    obtain ⟨g, cp, w3, hrun, hM3, hg3⟩ := hZ.ml.add [116] (by simp) [.int .u8 116] rfl 1 rfl (by simp; omega)
    have hG := hZ.sg.trans hg3
    unfold box2 at *
    simp only [World.size_alloc, World.size_setCell] at hrun
    have HR : Hid (_ = _) := hrun
    clear h hZ hrun hg3
    go_enter Tryd.func12, Tryd.ntmps12
    go_wp2_with (at_builtin; refine list_run2 HR.out (by rfl) _ _ (by rfl) (by rfl) (by rfl) (by rfl) ?_)
    go_ret
    exact ⟨_, rfl, hG, hM3⟩
  · rw [if_neg hN]
    obtain ⟨g, cp, w3, hrun, hM3, hg3⟩ := hZ.ml.add [117] (by simp) [.int .u8 117] rfl 1 rfl (by simp; omega)
    have hG := hZ.sg.trans hg3
    unfold box2 at *
    simp only [World.size_alloc, World.size_setCell] at hrun
    have HR : Hid (_ = _) := hrun
    clear h hZ hrun hg3
    go_enter Tryd.func12, Tryd.ntmps12
    go_wp2_with (at_builtin; refine list_run2 HR.out (by rfl) _ _ (by rfl) (by rfl) (by rfl) (by rfl) ?_)
    go_ret
    exact ⟨_, rfl, hG, hM3⟩

set_option maxRecDepth 100000 in
set_option maxHeartbeats 2000000 in
theorem sShow_nil {s : Int} {M len cap n : Nat} {ao : Option Addr} {N : Int} {T : List UInt8} {v : Value} {w : World} (h : Ml w M ((n + 1 : Nat) : Int) v T) (hn : n ≤ 1000000) (hl : T.length ≤ 900000) :
    Calls Tryd.prog 12 #[vH s ao len cap, vW ⟨3, N⟩, .pointer (some ⟨M, 0, none⟩), v] w fun e w' => ∃ v', e = .returned v' ∧ Sg M w w' ∧ Ml w' M (n : Int) v' (T ++ [91, 93]) := by
  obtain ⟨c0, f0, hZ⟩ := Stz.start h s ao len cap 3 N
  have hM := h.lt
  obtain ⟨vo, vc, hve⟩ := byr_form h.row
  subst hve
  obtain ⟨q0, q1⟩ := cells2 hZ.bx.b1
  have hne : ¬ ((n + 1 : Nat) : Int) = 0 := by omega
  have hsub : ((n + 1 : Nat) : Int) - 1 = (n : Int) := by omega
  have c9 := h.cell
  have f9 := row_free h.blk 0
  generalize ((n + 1 : Nat) : Int) = m at *
  obtain ⟨g, cp, w3, hrun, hM3, hg3⟩ := hZ.ml.add [91, 93] (by simp) [.int .u8 91, .int .u8 93] rfl 2 rfl (by simp; omega)
  have hG := hZ.sg.trans hg3
  unfold box2 at *
  simp only [World.size_alloc, World.size_setCell] at hrun
  have HR : Hid (_ = _) := hrun
  clear h hZ hrun hg3
  go_enter Tryd.func12, Tryd.ntmps12
  go_wp2_with (at_builtin; refine list_run2 HR.out (by rfl) _ _ (by rfl) (by rfl) (by rfl) (by rfl) ?_)
  go_ret
  exact ⟨_, rfl, hG, hM3⟩

end Go.Proofs.YtaljpbgggembmaaDoor
