/-
  What 'placeOf', 'ask' and 'goOn' come to.
-/
import Derived.Test.YtmjpckbpkpbkjaaPu1
import Derived.Test.YtmjpckbpkpbkjaaLwM
import Derived.Test.YtmjpckbpkpbkjaaRb
import Derived.Deep.RegionHeld3
import Derived.Deep.RegionLaw
namespace Go.Proofs.Ytmjpckbpkpbkjaa
open Go.RowKit
set_option linter.unusedVariables false
set_option linter.unusedSimpArgs false

set_option maxHeartbeats 1000000 in
theorem placeOf_any (c cap : Nat) (w : World) :
    Calls Try.prog 22 #[.slice (some ⟨c, 0, none⟩) 2 cap] w fun e w' => e = .returned (keyP c) ∧ Below w.heap.size w w' := by
  have hbel : Below w.heap.size w (w.alloc (.cells #[.pointer (some ⟨c, 0, none⟩), .int .i64 2] 56)) := (Below.refl _ _).alloc (Nat.le_refl _) _
  have h : (w.alloc (.cells #[.pointer (some ⟨c, 0, none⟩), .int .i64 2] 56)).heap[w.heap.size]? = _ := heap_new rfl
  have p0 := row_cell h 0
  have p1 := row_cell h 1
  clear h
  go_enter Try.func22, Try.ntmps22
  go_wp2_with fail
  refine bodyPost_ret (v := keyP c) (by simp [results, Try.results22, go_sem, p0, p1, keyP]) rfl ⟨rfl, hbel⟩

/-- What is asked: a term's fields as values. -/
theorem ask_val (D d : Nat) (t : Tm) (a1 : Option Addr) (l1 c1 : Nat) (a2 : Option Addr) (l2 c2 : Nat) (a3 : Option Addr) (l3 c3 : Nat) (wr : World) (wp : Nat) (hf : Fm 0 wr.heap.size wr D d t a1 l1 a2 l2 a3 l3) (hv : isVal t.K = true) :
    Calls Try.prog 16 #[.pointer (some ⟨wp, 0, none⟩), .agg #[.int .i64 t.K, .int .i64 t.N, .string t.S, .string t.Z, .int .i64 t.T.K, .int .i64 t.T.N, .slice a1 l1 c1, .slice a2 l2 c2, .slice a3 l3 c3]] wr fun e w' => e = .returned (.bool true) ∧ Below wr.heap.size wr w' := by
  obtain ⟨X, hX⟩ : ∃ X, X = wr.alloc (.cells #[.int .i64 t.K, .int .i64 t.N, .string t.S, .string t.Z, .int .i64 t.T.K, .int .i64 t.T.N, .slice a1 l1 c1, .slice a2 l2 c2, .slice a3 l3 c3] 35) := ⟨_, rfl⟩
  have hXb : Below wr.heap.size wr X := by rw [hX]; exact (Below.refl _ _).alloc (Nat.le_refl _) _
  have HX : Hid (X = _) := hX
  clear hX
  go_enter Try.func16, Try.ntmps16
  go_wp2_with fail
  rw [← HX.out]
  refine (isValue_any D d 0 wr.heap.size t _ _ _ _ _ _ _ _ _ X hXb.size (Fm.below hXb (Nat.le_refl _) hf)).mono ?_
  rintro e w1 ⟨rfl, hb1⟩
  rw [hv]
  go_wp2_with fail
  go_ret
  exact ⟨rfl, hXb.trans (hb1.mono hXb.size)⟩

theorem ask_no (D d : Nat) (t : Tm) (a1 : Option Addr) (l1 c1 : Nat) (a2 : Option Addr) (l2 c2 : Nat) (a3 : Option Addr) (l3 c3 : Nat) (wr : World) (wp : Nat) (hf : Fm 0 wr.heap.size wr D d t a1 l1 a2 l2 a3 l3) (hv : isVal t.K = false) (hn : ¬ ((t.K = 9 ∨ t.K = 13) ∧ l3 = 2)) :
    Calls Try.prog 16 #[.pointer (some ⟨wp, 0, none⟩), .agg #[.int .i64 t.K, .int .i64 t.N, .string t.S, .string t.Z, .int .i64 t.T.K, .int .i64 t.T.N, .slice a1 l1 c1, .slice a2 l2 c2, .slice a3 l3 c3]] wr fun e w' => e = .returned (.bool false) ∧ Below wr.heap.size wr w' := by
  obtain ⟨X, hX⟩ : ∃ X, X = wr.alloc (.cells #[.int .i64 t.K, .int .i64 t.N, .string t.S, .string t.Z, .int .i64 t.T.K, .int .i64 t.T.N, .slice a1 l1 c1, .slice a2 l2 c2, .slice a3 l3 c3] 35) := ⟨_, rfl⟩
  have hXb : Below wr.heap.size wr X := by rw [hX]; exact (Below.refl _ _).alloc (Nat.le_refl _) _
  have hX1 : X.heap[wr.heap.size]? = some (.cells #[.int .i64 t.K, .int .i64 t.N, .string t.S, .string t.Z, .int .i64 t.T.K, .int .i64 t.T.N, .slice a1 l1 c1, .slice a2 l2 c2, .slice a3 l3 c3] 35 (0, 0)) := by rw [hX]; exact heap_new rfl
  have hXs : X.heap.size = wr.heap.size + 1 := by rw [hX]; simp
  have HX : Hid (X = _) := hX
  clear hX
  have hl3 := hf.m.len.2
  go_enter Try.func16, Try.ntmps16
  go_wp2_with fail
  rw [← HX.out]
  refine (isValue_any D d 0 wr.heap.size t _ _ _ _ _ _ _ _ _ X hXb.size (Fm.below hXb (Nat.le_refl _) hf)).mono ?_
  rintro e w1 ⟨rfl, hb1⟩
  rw [hv]
  have hbw : Below wr.heap.size wr w1 := hXb.trans (hb1.mono hXb.size)
  have y1 := (hb1.block wr.heap.size (by omega)).trans hX1
  obtain ⟨f0, f1, f2, f3, f4, f5, f6, f7, f8⟩ := Nine.box y1
  by_cases h9 : t.K = 9
  · have h2 : ((l3 : Int) != 2) = true := by rw [bne_iff_ne]; intro e; exact hn ⟨Or.inl h9, by omega⟩
    have h9b : (t.K != 9) = false := by simp [h9]
    clear hn h9
    go_wp2_with fail
    go_ret
    exact ⟨rfl, hbw⟩
  · have h9b : (t.K != 9) = true := by rw [bne_iff_ne]; exact h9
    by_cases h13 : t.K = 13
    · have h2 : ((l3 : Int) != 2) = true := by rw [bne_iff_ne]; intro e; exact hn ⟨Or.inr h13, by omega⟩
      have h13b : (t.K != 13) = false := by simp [h13]
      clear hn h9 h13
      go_wp2_with fail
      go_ret
      exact ⟨rfl, hbw⟩
    · have h13b : (t.K != 13) = true := by rw [bne_iff_ne]; exact h13
      clear hn h9 h13
      go_wp2_with fail
      go_ret
      exact ⟨rfl, hbw⟩

end Go.Proofs.Ytmjpckbpkpbkjaa
