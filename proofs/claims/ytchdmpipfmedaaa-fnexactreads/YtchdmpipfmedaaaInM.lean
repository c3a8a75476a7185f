/-
  An instruction of one's own: made, marked.
-/
import Derived.Test.YtchdmpipfmedaaaMkI
namespace Go.Proofs.Ytchdmpipfmedaaa
open Go.RowKit
set_option linter.unusedVariables false
set_option linter.unusedSimpArgs false

set_option maxHeartbeats 400000 in
theorem toIns_own (L B : Nat) (i : Insn) (ao : Option Addr) (len cap : Nat) (w : World) (hB : B ≤ w.heap.size) (hs : Is L B w ao len i.L) (hl : len ≤ 1048576) :
    Calls Try.prog 20 #[vI i ao len cap] w fun e w' => ∃ g, e = .returned (vI i (some ⟨g, 0, none⟩) len len) ∧ Below w.heap.size w w' ∧ Nums w.heap.size w' (.slice (some ⟨g, 0, none⟩) len len) i.L := by
  obtain ⟨X, hX⟩ : ∃ X, X = (((w.alloc (.cells #[.int .i64 i.Op, .int .i64 i.D, .int .i64 i.X, .int .i64 i.Y, .int .i64 i.N, .slice ao len cap, .int .i64 i.To] 38)).alloc (.cells #[.int .i64 0, .int .i64 0, .int .i64 0, .int .i64 0, .int .i64 0, .slice none 0 0, .int .i64 0] 41)).alloc (.cells #[.int .i64 i.Op, .int .i64 i.D, .int .i64 i.X, .int .i64 i.Y, .int .i64 i.N, .slice none 0 0, .int .i64 0] 41)) := ⟨_, rfl⟩
  have hXs : X.heap.size = w.heap.size + 3 := by rw [hX]; simp
  have hXb : Below w.heap.size w X := by rw [hX]; exact (((Below.refl _ _).alloc (Nat.le_refl _) _).alloc (by simp) _).alloc (by simp; omega) _
  have hX0 : X.heap[w.heap.size]? = some (.cells #[.int .i64 i.Op, .int .i64 i.D, .int .i64 i.X, .int .i64 i.Y, .int .i64 i.N, .slice ao len cap, .int .i64 i.To] 38 (0, 0)) := by
    rw [hX, Below.heap_alloc _ _ _ (by simp; omega), Below.heap_alloc _ _ _ (by simp)]; exact heap_new (by simp)
  have hX1 : X.heap[w.heap.size + 1]? = some (.cells #[.int .i64 0, .int .i64 0, .int .i64 0, .int .i64 0, .int .i64 0, .slice none 0 0, .int .i64 0] 41 (0, 0)) := by
    rw [hX, Below.heap_alloc _ _ _ (by simp)]; exact heap_new (by simp)
  have hX2 : X.heap[w.heap.size + 1 + 1]? = some (.cells #[.int .i64 i.Op, .int .i64 i.D, .int .i64 i.X, .int .i64 i.Y, .int .i64 i.N, .slice none 0 0, .int .i64 0] 41 (0, 0)) := by
    rw [hX]; exact heap_new (by simp)
  have hs1 := hs.below hXb hB
  have HX : Hid (X = _) := hX
  clear hX
  go_enter Try.func20, Try.ntmps20
  go_wp2_with fail
  rw [← HX.out]
  refine (toIntS_own _ _ _ _ _ _ _ (by omega) hs1 hl).mono ?_
  rintro e w1 ⟨g, rfl, hb1, hs2⟩
  have hw1 := hb1.size
  obtain ⟨a0, a1, a2, a3, a4, a5, a6⟩ := cells7 ((hb1.block _ (by omega)).trans hX0)
  have y1 := (hb1.block _ (by omega)).trans hX1
  have y2 := (hb1.block _ (by omega)).trans hX2
  obtain ⟨b0, b1, b2, b3, b4, b5, b6⟩ := cells7 y1
  obtain ⟨c0, c1, c2, c3, c4, c5, c6⟩ := cells7 y2
  have r1 := row_free y1
  have r2 := row_free y2
  have hbel : Below w.heap.size w w1 := hXb.trans (hb1.mono (by omega))
  have hXw : w.heap.size ≤ X.heap.size := by omega
  clear hX0 hX1 hX2 y1 y2 hXb
  go_wp2_with fail
  have key : ∀ Y, Y = setL ((w1.setCell ⟨w.heap.size + 1 + 1, 5, none⟩ (.slice (some ⟨g, 0, none⟩) len len)).setCell ⟨w.heap.size + 1 + 1, 6, none⟩ (.int .i64 i.To)) (w.heap.size + 1) 0 [.int .i64 i.Op, .int .i64 i.D, .int .i64 i.X, .int .i64 i.Y, .int .i64 i.N, .slice (some ⟨g, 0, none⟩) len len, .int .i64 i.To] → Below w.heap.size w Y ∧ Nums w.heap.size Y (.slice (some ⟨g, 0, none⟩) len len) i.L := by
    rintro Y rfl
    refine ⟨setL_below (Nat.le_succ _) _ _ _ ((hbel.setCell (p := ⟨w.heap.size + 1 + 1, 5, none⟩) (by show w.heap.size ≤ w.heap.size + 1 + 1; omega) _).setCell (p := ⟨w.heap.size + 1 + 1, 6, none⟩) (by show w.heap.size ≤ w.heap.size + 1 + 1; omega) _), ?_⟩
    refine nums_le (nums_keep hs2 fun j hj => ?_) hXw
    have hj2 := (nums_own hs2 hj).1
    rw [setL_other (by omega), row_other _ _ _ (by omega), row_other _ _ _ (by omega)]
  refine bodyPost_ret (v := vI i (some ⟨g, 0, none⟩) len len) (by simp [results, Try.results20, go_sem, b0, b1, b2, b3, b4, b5, b6]) rfl ⟨g, rfl, key _ rfl⟩


set_option maxHeartbeats 400000 in
theorem markIns_any {base : Nat} (i : Insn) (ao : Option Addr) (len cap : Nat) (k : Int) (w : World) (h : Nums base w (.slice ao len cap) i.L) (hlen : len = i.L.length) (h0 : 0 ≤ k) (hl : k + len ≤ 10000000) :
    Calls Try.prog 23 #[vI i ao len cap, .int .i64 k] w fun e w' => e = .returned (.int .i64 (k + len)) ∧ Below w.heap.size w w' ∨ e = .returned (.int .i64 (k + len)) ∧ ∃ g, ao = some ⟨g, 0, none⟩ ∧ base ≤ g ∧ g < w.heap.size ∧ w'.os = w.os ∧ w'.tape = w.tape ∧ w'.output = w.output ∧ w.heap.size ≤ w'.heap.size ∧ ∀ q, q < w.heap.size → q ≠ g → w'.heap[q]? = w.heap[q]? := by
  have hXb : Below w.heap.size w (w.alloc (.cells #[.int .i64 i.Op, .int .i64 i.D, .int .i64 i.X, .int .i64 i.Y, .int .i64 i.N, .slice ao len cap, .int .i64 i.To] 41)) := (Below.refl _ _).alloc (Nat.le_refl _) _
  have HL : Hid (len = i.L.length) := hlen
  have HO : Hid (∀ g, (Value.slice ao len cap).ownBlock = some g → base ≤ g ∧ g < w.heap.size) := fun g hg => nums_own h hg
  have HF : Hid (ao = none ∨ ∃ g, ao = some ⟨g, 0, none⟩) := by
    rcases h.2 with ⟨e, _⟩ | ⟨g, _, _, e, _⟩
    · cases e; exact Or.inl rfl
    · injection e with e; exact Or.inr ⟨g, e⟩
  have K := markIntS_any _ i.L k _ (nums_bel h hXb) h0 (by omega)
  rw [← hlen] at K
  clear h hlen
  go_enter Try.func23, Try.ntmps23
  go_wp2_with fail
  refine K.mono ?_
  rintro e w1 ⟨rfl, hk1, hN1⟩
  clear K hN1
  go_wp2_with fail
  go_ret
  have hz := hk1.size
  rw [World.size_alloc] at hz
  rcases HF.out with rfl | ⟨g, rfl⟩
  · exact Or.inl ⟨rfl, hXb.trans (hk1.below (fun k hk => by cases hk))⟩
  · obtain ⟨g1, g2⟩ := HO.out g rfl
    refine Or.inr ⟨rfl, g, rfl, g1, g2, hk1.os.trans hXb.os, hk1.tape.trans hXb.tape, hk1.output.trans hXb.output, by omega, fun q hq hne => (hk1.block q (fun e => hne ?_)).trans (hXb.block q hq)⟩
    have e' : some g = some q := e
    injection e' with e'
    exact e'.symm

end Go.Proofs.Ytchdmpipfmedaaa
