/-
  The program's 'ascendingOf': a copy of a list, sorted, those alike struck.
-/
import Derived.Test.YtchdmpipfmedaaaAddL
import Derived.Test.YtchdmpipfmedaaaIr2
import Derived.Test.YtchdmpipfmedaaaSoI
import Derived.Sort.OwnSortedInts
import Derived.Laws.IdiomCopy
namespace Go.Proofs.Ytchdmpipfmedaaa
open Go.RowKit
set_option linter.unusedVariables false
set_option linter.unusedSimpArgs false

theorem ik_enc : ik = Value.int .i64 := rfl

theorem sort_nums {base : Nat} {w : World} {v : Value} {P : List Int} (h : Nums base w v P) (hl : P.length ≤ 2000000) :
    Calls Try.prog 45 #[v] w fun e w' => e = .returned (.tuple #[]) ∧ Below base w w' ∧ Nums base w' v (P.mergeSort fun x y => decide (x ≤ y)) := by
  rcases h.2 with ⟨rfl, hn⟩ | ⟨g, cap, cur, rfl, hg, hh, h1, h2, h3, h4⟩
  · obtain rfl : P = [] := List.length_eq_zero_iff.1 hn
    refine (Try.slices_Sort_int_none none 0 w).mono ?_
    rintro e w' ⟨h1, rfl⟩
    exact ⟨h1, Below.refl _ _, by simpa using h⟩
  · have hgw := (Array.getElem?_eq_some_iff.1 hh).1
    refine (Try.slices_Sort_int g 0 cap P w (holds_of_blockI hh (by simpa [ik_enc] using h4)) hgw (by omega)).mono ?_
    rintro e w' ⟨e1, n, os, rfl⟩
    have hl2 : (P.mergeSort fun x y => decide (x ≤ y)).length = P.length := List.length_mergeSort P
    have hgr := grownBy_sortedI (w := w) (g := g) (n := n) (os := os) (P.mergeSort fun x y => decide (x ≤ y)).toArray
    refine ⟨e1, ⟨hgr.os, hgr.tape, hgr.output, hgr.size, fun k hk => hgr.block k (by omega) (fun e => by injection e with e; omega)⟩, ?_⟩
    have := ownsRow_sortedI (n := n) (os := os) hl2 hg hh h1 h2 h3
    unfold Nums
    rw [hl2]
    exact this

theorem compact_le (zs : List Int) : (Lib.compact zs).length ≤ zs.length := by
  unfold Lib.compact Lib.compactUpTo
  rw [List.length_map]
  exact Nat.le_trans (List.length_filter_le _ _) (by simp)

theorem compact_nums {base : Nat} {w : World} {v : Value} {P : List Int} (h : Nums base w v P) (hl : P.length ≤ 2000000) :
    Calls Try.prog 46 #[v] w fun e w' => ∃ v', e = .returned v' ∧ Below base w w' ∧ Nums base w' v' (Lib.compact P) := by
  rcases h.2 with ⟨rfl, hn⟩ | ⟨g, cap, cur, rfl, hg, hh, h1, h2, h3, h4⟩
  · obtain rfl : P = [] := List.length_eq_zero_iff.1 hn
    refine (Try.slices_Compact_int_empty none 0 w).mono ?_
    rintro e w' ⟨h1, rfl⟩
    exact ⟨_, h1, Below.refl _ _, h⟩
  · refine (Try.slices_Compact_int g 0 cap P w (holds_of_blockI hh (by simpa [ik_enc] using h4)) (by omega) h1).mono ?_
    rintro e w' ⟨e1, n, rfl⟩
    have hc := compact_le P
    have hgr := grownBy_sortedI (w := w) (g := g) (n := n) (os := #[]) (Lib.compact P ++ List.replicate (P.length - (Lib.compact P).length) 0).toArray
    have how := ownsRow_sortedI (n := n) (os := #[]) (ts := Lib.compact P ++ List.replicate (P.length - (Lib.compact P).length) 0) (by simp; omega) hg hh h1 h2 h3
    rw [Sort.grow_empty] at hgr how
    refine ⟨_, e1, ⟨hgr.os, hgr.tape, hgr.output, hgr.size, fun k hk => hgr.block k (by have := (Array.getElem?_eq_some_iff.1 hh).1; omega) (fun e => by injection e with e; omega)⟩, ?_⟩
    have key : ∀ Z : World, Z.ownsRow base 3 1 (.slice (some ⟨g, 0, none⟩) P.length cap) P.length ((Lib.compact P ++ List.replicate (P.length - (Lib.compact P).length) 0).map (Value.int .i64)) → Nums base Z (.slice (some ⟨g, 0, none⟩) (Lib.compact P).length cap) (Lib.compact P) := by
      intro Z how
      have hN : Nums base Z (.slice (some ⟨g, 0, none⟩) P.length cap) (Lib.compact P ++ List.replicate (P.length - (Lib.compact P).length) 0) := by
        unfold Nums
        have e : (Lib.compact P ++ List.replicate (P.length - (Lib.compact P).length) 0).length = P.length := by simp; omega
        rw [e]
        exact how
      rcases nums_cut hN with h | ⟨h, _⟩
      · exact h
      · cases h
    exact key _ how

theorem setCells_eq (b : Nat) : ∀ (vs : List Value) (w : World) (o : Nat), w.setCells b o vs = setL w b o vs
  | [], w, o => rfl
  | v :: vs, w, o => by rw [setL, ← setCells_eq b vs]; rfl

/-- A list copied into a row that was made for it. -/
theorem copy_row {L B : Nat} {w : World} {ao : Option Addr} {n : Nat} {l : List Int} (c : Nat) (hB : B ≤ w.heap.size) (hs : Is L B w ao n l) (C : Array Value) (hC : C.size = n) (hn : n ≤ 1048576) :
    ∃ Y, (Builtin.copy_ #[33, 33] 3 #[.slice (some ⟨w.heap.size, 0, none⟩) n n, .slice ao n c]).run Try.prog (w.alloc (.cells C 3)) = .ok (.int .i64 n) Y ∧ Below w.heap.size w Y ∧ Nums w.heap.size Y (.slice (some ⟨w.heap.size, 0, none⟩) n n) l := by
  obtain ⟨i0, hi, hz0, hz1, hz2⟩ := info_parts Try.infoInt
  have hin : (Try.prog.info? 3).map (·.size) = some 1 := by rw [hi]; simp [hz1]
  have hXb : Below w.heap.size w (w.alloc (.cells C 3)) := (Below.refl _ _).alloc (Nat.le_refl _) _
  have hX0 : (w.alloc (.cells C 3)).heap[w.heap.size]? = some (.cells C 3 (0, 0)) := heap_new rfl
  by_cases h0 : n = 0
  · subst h0
    obtain rfl : l = [] := List.length_eq_zero_iff.1 hs.1.symm
    refine ⟨_, run_copy_none (P := Try.prog) (w.alloc (.cells C 3)) 33 33 3 3 _ _ 0 0 0 c Try.underlying33 hin rfl, hXb, ?_⟩
    exact ⟨by simp, Or.inr ⟨w.heap.size, 0, C, by simp, Nat.le_refl _, hX0, by simp, by simp, by simpa using hC, by simp⟩⟩
  · have hl0 : 0 < l.length := by have := hs.1; omega
    obtain ⟨b, o, rfl, _, hb, _⟩ := hs.2.2 0 hl0
    have hrun := run_copy_cells (P := Try.prog) (w.alloc (.cells C 3)) 33 33 3 3 w.heap.size 0 n n ⟨b, o, none⟩ n c (l.map ik) Try.underlying33 hin
      (by rw [List.length_map, ← hs.1]; simp)
      (fun j v hv => by
        rw [List.getElem?_map] at hv
        obtain ⟨x, hx, rfl⟩ := Option.map_eq_some_iff.1 hv
        obtain ⟨hj, rfl⟩ := List.getElem?_eq_some_iff.1 hx
        obtain ⟨b', o', e, _, hb', hc⟩ := hs.2.2 j hj
        injection e with e
        injection e with e1 e2
        subst e1 e2
        have ea : (⟨b, o, none⟩ : Addr).add j = ⟨b, o + j, none⟩ := by unfold Addr.add; split <;> simp_all
        rw [ea]
        exact (bcell hXb (by omega) _).trans hc)
      (fun j hj => by
        rw [List.length_map] at hj
        rw [row_cell hX0, Array.getElem?_eq_getElem (by have := hs.1; omega)]
        rfl)
      (fun j hj => row_free hX0 _)
      (by intro v hv; obtain ⟨x, _, rfl⟩ := List.mem_map.1 hv; rfl)
    have hlen : (l.map ik).length = n := by rw [List.length_map, hs.1]
    rw [hlen, setCells_eq] at hrun
    refine ⟨_, hrun, setL_below (Nat.le_refl _) _ _ _ hXb, ?_⟩
    obtain ⟨cs', q1, q2, q3, q4⟩ := setL_row (l.map ik) (w.alloc (.cells C 3)) 0 C hX0
    refine ⟨by rw [List.length_map]; omega, Or.inr ⟨w.heap.size, n, cs', by rw [hs.1], Nat.le_refl _, q1, by have := hs.1; omega, by unfold maxLen; omega, by omega, ?_⟩⟩
    apply List.ext_getElem?
    intro j
    by_cases hj : j < l.length
    · rw [List.getElem?_take_of_lt (by omega), Array.getElem?_toList]
      have := q4 j (by rw [List.length_map]; exact hj) (by have := hs.1; omega)
      rw [Nat.zero_add] at this
      rw [this, List.getElem?_eq_getElem (by rw [List.length_map]; exact hj)]
    · rw [List.getElem?_take_eq_none (by omega), List.getElem?_eq_none (by rw [List.length_map]; omega)]

set_option maxRecDepth 100000 in
set_option maxHeartbeats 1000000 in
theorem ascendingOf_any (L B : Nat) (ao : Option Addr) (len cap : Nat) (l : List Int) (w : World) (hB : B ≤ w.heap.size) (hs : Is L B w ao len l) (hl : len ≤ 1048576) :
    Calls Try.prog 37 #[.slice ao len cap] w fun e w' => ∃ v, e = .returned v ∧ Nums w.heap.size w' v (redL l) ∧ Below w.heap.size w w' := by
  have HL : Hid (len = l.length) := hs.1
  obtain ⟨i0, hi, hz0, hz1, hz2⟩ := info_parts Try.infoInt
  have hmk : ∃ C : Array Value, C.size = len ∧ ∀ w : World, (Instr.makeSlice 33 (.int .i64 (len : Int)) (.int .i64 (len : Int))).run Try.prog w = .ok (.slice (some ⟨w.heap.size, 0, none⟩) len len) (w.alloc (.cells C 3)) := by
    refine ⟨madeCells (Value.cells (.int .i64 0)) (len * 1), by rw [size_madeCells, Nat.mul_one], fun w => ?_⟩
    have := run_make (P := Try.prog) (w := w) 33 3 i0 _ Try.underlying33 hi hz0 .i64 .i64 (len : Int) (len : Int) (by omega) (by omega) (by rw [hz2]; omega) (by omega)
    rw [hz1] at this
    simpa using this
  obtain ⟨C, hC, hmk⟩ := hmk
  obtain ⟨Y, hrun, hYb, hN⟩ := copy_row cap hB hs C hC hl
  have hYs := hYb.size
  have KS := sort_nums hN (by have := HL.out; omega)
  clear hN hi hz0 hz1 hz2
  go_enter Try.func37, Try.ntmps37
  go_wp2_with fail
  refine KS.mono ?_
  rintro e w2 ⟨rfl, hb2, hN2⟩
  clear KS hrun
  have hlm : (l.mergeSort fun x y => decide (x ≤ y)).length = l.length := List.length_mergeSort l
  have KC := compact_nums hN2 (by rw [hlm]; have := HL.out; omega)
  rw [compact_sort] at KC
  clear hN2 hlm
  go_wp2_with fail
  refine KC.mono ?_
  rintro e w3 ⟨v, rfl, hb3, hN3⟩
  obtain ⟨a3, c3, rfl⟩ := nums_form hN3
  go_wp2_with fail
  go_ret
  exact ⟨_, rfl, hN3, hYb.trans (hb2.trans hb3)⟩

end Go.Proofs.Ytchdmpipfmedaaa
