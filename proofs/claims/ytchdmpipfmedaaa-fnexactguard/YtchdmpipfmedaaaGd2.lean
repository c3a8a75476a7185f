/-
  The program's 'Guard'.
-/
import Derived.Test.YtchdmpipfmedaaaGd1
namespace Go.Proofs.Ytchdmpipfmedaaa
open Go.RowKit
set_option linter.unusedVariables false
set_option linter.unusedSimpArgs false

set_option maxRecDepth 100000 in
set_option maxHeartbeats 1000000 in
theorem tryAround_out (p : Pc) (ao : Option Addr) (len cap : Nat) (n : Int) (w : World) (hlen : len = p.Ins.length) (hl : len ≤ 1048576) (hn : (decide (0 ≤ n) && decide (n < p.Ins.length)) = false) :
    Calls Try.prog 29 #[vP p ao len cap, .int .i64 n] w fun e w' => TryEnd none e ∧ Below w.heap.size w w' := by
  obtain ⟨X, hX⟩ : ∃ X, X = ((w.alloc (.cells #[.int .i64 p.Lam, .int .i64 p.In, .int .i64 p.Regs, .slice ao len cap] 29)).alloc (.cells #[.int .i64 0, .int .i64 0, .int .i64 0, .int .i64 0, .int .i64 0, .slice none 0 0, .int .i64 0] 41)).alloc (.cells #[.bool false] 4) := ⟨_, rfl⟩
  have KP := hasPlace_any p ao len cap n X hlen hl
  rw [hn] at KP
  have HX : Hid (X = _) := hX
  have hXs : X.heap.size = w.heap.size + 3 := by rw [hX]; simp
  have hXb : Below w.heap.size w X := by rw [hX]; exact (((Below.refl _ _).alloc (Nat.le_refl _) _).alloc (by simp) _).alloc (by simp; omega) _
  have x1 : X.heap[w.heap.size + 1]? = some (.cells z7 41 (0, 0)) := by
    rw [hX, Below.heap_alloc _ _ _ (by simp)]; exact heap_new (by simp)
  have x2 : X.heap[w.heap.size + 1 + 1]? = some (.cells #[.bool false] 4 (0, 0)) := by
    rw [hX]; exact heap_new (by simp)
  clear hX hn hlen
  go_enter Try.func29, Try.ntmps29
  go_wp2_with fail
  rw [← HX.out]
  refine KP.mono ?_
  rintro e w1 ⟨rfl, hb1⟩
  clear KP
  have hz1 := hb1.size
  have hw1 : Below w.heap.size w w1 := hXb.trans (hb1.mono (by omega))
  have y1 := (hb1.block _ (by omega)).trans x1
  have y2 := (hb1.block _ (by omega)).trans x2
  obtain ⟨r0, r1, r2, r3, r4, r5, r6⟩ := cells7 (show w1.heap[w.heap.size + 1]? = some (.cells #[.int .i64 0, .int .i64 0, .int .i64 0, .int .i64 0, .int .i64 0, .slice none 0 0, .int .i64 0] 41 (0, 0)) from y1)
  have rf := row_free y1
  have cR := row_cell y2 0
  have fR := row_free y2 0
  have RW := ret_world (by omega) (show Blk w1 (w.heap.size + 1) _ _ from y1) rfl (show Boxed w1 (w.heap.size + 1 + 1) _ _ from y2) (by omega) (by omega) hw1 z7 rfl false
  have HRW : Hid (∀ Z, Z = _ → _) := RW
  clear RW
  go_wp2_with fail
  obtain ⟨Z, hZ⟩ : ∃ Z, Z = (((((((w1.setCell ⟨w.heap.size + 1, 0, none⟩ (.int .i64 0)).setCell ⟨w.heap.size + 1, 1, none⟩ (.int .i64 0)).setCell ⟨w.heap.size + 1, 2, none⟩ (.int .i64 0)).setCell ⟨w.heap.size + 1, 3, none⟩ (.int .i64 0)).setCell ⟨w.heap.size + 1, 4, none⟩ (.int .i64 0)).setCell ⟨w.heap.size + 1, 5, none⟩ (.slice none 0 0)).setCell ⟨w.heap.size + 1, 6, none⟩ (.int .i64 0)).setCell ⟨w.heap.size + 1 + 1, 0, none⟩ (.bool false) := ⟨_, rfl⟩
  obtain ⟨t1, t2, t3, t4⟩ := HRW.out Z hZ
  rw [← hZ]
  clear hZ
  obtain ⟨s0, s1, s2, s3, s4, s5, s6⟩ := cells7 (show Z.heap[w.heap.size + 1]? = some (.cells #[.int .i64 0, .int .i64 0, .int .i64 0, .int .i64 0, .int .i64 0, .slice none 0 0, .int .i64 0] 41 (0, 0)) from t2)
  have s7 := t3.cell
  exact bodyPost_ret (v := .tuple #[.agg #[.int .i64 0, .int .i64 0, .int .i64 0, .int .i64 0, .int .i64 0, .slice none 0 0, .int .i64 0], .bool false]) (by simp [results, Try.results29, go_sem, s0, s1, s2, s3, s4, s5, s6, s7]) rfl ⟨rfl, t4⟩

/-- 'tryAround' at every place. -/
def tryP (p : Pc) (n : Int) : Option Insn := if 0 ≤ n ∧ n < p.Ins.length then tryB 0 (p.Ins.take n.toNat).reverse else none
theorem grdP_eq (p : Pc) (n : Int) : grdP p n = match tryP p n with | some x => x.To | none => -1 := by
  unfold grdP tryP
  split
  · rfl
  · rfl

theorem tryAround_any (L B : Nat) (p : Pc) (ao : Option Addr) (len cap : Nat) (n : Int) (w : World) (hB : B ≤ w.heap.size) (hs : Iss L B w ao len p.Ins) (hl : len ≤ 1048576) (hcap : len ≤ cap) :
    Calls Try.prog 29 #[vP p ao len cap, .int .i64 n] w fun e w' => TryEnd (tryP p n) e ∧ Below w.heap.size w w' := by
  have hlen := hs.1
  by_cases h : 0 ≤ n ∧ n < p.Ins.length
  · obtain ⟨k, rfl⟩ : ∃ k : Nat, n = k := ⟨n.toNat, by omega⟩
    have e : tryP p k = tryB 0 (p.Ins.take k).reverse := by unfold tryP; rw [if_pos h]; rfl
    rw [e]
    exact tryAround_in L B p ao len cap k w hB hs hl (by omega) hcap
  · have e : tryP p n = none := by unfold tryP; rw [if_neg h]
    rw [e]
    exact tryAround_out p ao len cap n w hlen hl (by simp; omega)

set_option maxRecDepth 100000 in
set_option maxHeartbeats 1000000 in
theorem guard_any (L B : Nat) (p : Pc) (ao : Option Addr) (len cap : Nat) (n : Int) (w : World) (hB : B ≤ w.heap.size) (hs : Iss L B w ao len p.Ins) (hl : len ≤ 1048576) (hcap : len ≤ cap) :
    Calls Try.prog 10 #[vP p ao len cap, .int .i64 n] w fun e w' => e = .returned (.int .i64 (grdP p n)) ∧ Below w.heap.size w w' := by
  have hXb : Below w.heap.size w (w.alloc (.cells #[.int .i64 p.Lam, .int .i64 p.In, .int .i64 p.Regs, .slice ao len cap] 29)) := (Below.refl _ _).alloc (Nat.le_refl _) _
  have K := tryAround_any L B p ao len cap n _ (by simp; omega) (hs.below hXb hB) hl hcap
  have HG := grdP_eq p n
  have HGH : Hid (grdP p n = match tryP p n with | some x => x.To | none => -1) := HG
  clear HG
  cases hr : tryP p n with
  | none =>
    rw [hr] at K HGH
    have HE : Hid (grdP p n = -1) := HGH
    go_enter Try.func10, Try.ntmps10
    go_wp2_with fail
    refine K.mono ?_
    rintro e w1 ⟨he, hb1⟩
    obtain rfl : e = .returned (.tuple #[.agg #[.int .i64 0, .int .i64 0, .int .i64 0, .int .i64 0, .int .i64 0, .slice none 0 0, .int .i64 0], .bool false]) := he
    have hz := hb1.size
    have hbw : Below w.heap.size w w1 := hXb.trans (hb1.mono (by simp))
    clear K
    go_wp2_with fail
    go_ret
    exact ⟨ret_int (by rw [HE.out]), hbw.alloc hbw.size _⟩
  | some x =>
    rw [hr] at K HGH
    have HE : Hid (grdP p n = x.To) := HGH
    go_enter Try.func10, Try.ntmps10
    go_wp2_with fail
    refine K.mono ?_
    rintro e w1 ⟨⟨a, l, c, rfl⟩, hb1⟩
    have hz := hb1.size
    have hbw : Below w.heap.size w w1 := hXb.trans (hb1.mono (by simp))
    clear K
    go_wp2_with fail
    go_ret
    exact ⟨ret_int (by rw [HE.out]), hbw.alloc hbw.size _⟩

end Go.Proofs.Ytchdmpipfmedaaa
