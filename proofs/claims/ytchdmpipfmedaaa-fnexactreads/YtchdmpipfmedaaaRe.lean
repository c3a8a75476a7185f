/-
  The program's 'Reads'. (Written by mkre.py.)
-/
import Derived.Test.YtchdmpipfmedaaaAscO
import Derived.Test.YtchdmpipfmedaaaSRe
import Derived.Test.YtchdmpipfmedaaaPcS
namespace Go.Proofs.Ytchdmpipfmedaaa
open Go.RowKit
set_option linter.unusedVariables false
set_option linter.unusedSimpArgs false

theorem nums_nil (base : Nat) (w : World) : Nums base w (.slice none 0 0) [] := World.ownsRow_nil _ _ _ _

set_option maxRecDepth 100000 in
set_option maxHeartbeats 2000000 in
theorem reads_make (L B : Nat) (i : Insn) (ao : Option Addr) (len cap : Nat) (w : World) (hB : B ≤ w.heap.size) (hs : Is L B w ao len i.L) (hl : len ≤ 1048576) (H8 : Hid (i.Op = 8)) (HUX : Hid (uX i.Op = false)) (HUY : Hid (uY i.Op = false)) :
    Calls Try.prog 21 #[vI i ao len cap] w fun e w' => ∃ v, e = .returned v ∧ Nums w.heap.size w' v (readsI i) ∧ Below w.heap.size w w' := by
  obtain ⟨X, hX⟩ : ∃ X, X = w.alloc (.cells #[.int .i64 i.Op, .int .i64 i.D, .int .i64 i.X, .int .i64 i.Y, .int .i64 i.N, .slice ao len cap, .int .i64 i.To] 41) := ⟨_, rfl⟩
  have hXs : X.heap.size = w.heap.size + 1 := by rw [hX]; simp
  have hXb : Below w.heap.size w X := by rw [hX]; exact (Below.refl _ _).alloc (Nat.le_refl _) _
  have hX1 : X.heap[w.heap.size]? = some (.cells #[.int .i64 i.Op, .int .i64 i.D, .int .i64 i.X, .int .i64 i.Y, .int .i64 i.N, .slice ao len cap, .int .i64 i.To] 41 (0, 0)) := by rw [hX]; exact heap_new rfl
  have HX : Hid (X = _) := hX
  have HL : Hid (len = i.L.length) := hs.1
  have hs1 := hs.below hXb hB
  clear hX
  have hb8 : (i.Op == 8) = true := by rw [H8.out]; rfl
  have HRD : Hid (readsI i = redL i.L) := by show _ = _; unfold readsI rawI; rw [if_pos hb8]
  have K := ascendingOf_any L B ao len cap i.L X (by omega) hs1 hl
  go_enter Try.func21, Try.ntmps21
  go_wp2_with fail
  rw [← HX.out]
  refine K.mono ?_
  rintro e w1 ⟨v, rfl, hN, hb1⟩
  obtain ⟨a3, c3, rfl⟩ := nums_form hN
  go_wp2_with fail
  go_ret
  exact ⟨_, rfl, by rw [HRD.out]; exact nums_le hN (by omega), hXb.trans (hb1.mono (by omega))⟩

set_option maxRecDepth 100000 in
set_option maxHeartbeats 2000000 in
theorem reads_none (L B : Nat) (i : Insn) (ao : Option Addr) (len cap : Nat) (w : World) (hB : B ≤ w.heap.size) (hs : Is L B w ao len i.L) (hl : len ≤ 1048576) (h8 : ¬ i.Op = 8) (HUX : Hid (uX i.Op = false)) (HUY : Hid (uY i.Op = false)) :
    Calls Try.prog 21 #[vI i ao len cap] w fun e w' => ∃ v, e = .returned v ∧ Nums w.heap.size w' v (readsI i) ∧ Below w.heap.size w w' := by
  obtain ⟨X, hX⟩ : ∃ X, X = w.alloc (.cells #[.int .i64 i.Op, .int .i64 i.D, .int .i64 i.X, .int .i64 i.Y, .int .i64 i.N, .slice ao len cap, .int .i64 i.To] 41) := ⟨_, rfl⟩
  have hXs : X.heap.size = w.heap.size + 1 := by rw [hX]; simp
  have hXb : Below w.heap.size w X := by rw [hX]; exact (Below.refl _ _).alloc (Nat.le_refl _) _
  have hX1 : X.heap[w.heap.size]? = some (.cells #[.int .i64 i.Op, .int .i64 i.D, .int .i64 i.X, .int .i64 i.Y, .int .i64 i.N, .slice ao len cap, .int .i64 i.To] 41 (0, 0)) := by rw [hX]; exact heap_new rfl
  have HX : Hid (X = _) := hX
  have HL : Hid (len = i.L.length) := hs.1
  have hs1 := hs.below hXb hB
  clear hX
  have hb8 : (i.Op == 8) = false := beq_eq_false_iff_ne.2 h8
  have HRD : Hid (readsI i = redL []) := by show _ = _; unfold readsI rawI; rw [if_neg (by rw [hb8]; simp), HUX.out, HUY.out]; rfl
  clear h8
  go_enter Try.func21, Try.ntmps21
  go_wp2_with fail
  rw [← HX.out]
  refine (fieldsOf_any _ _).mono ?_
  rintro e w1 ⟨rfl, hb1⟩
  rw [HUX.out, HUY.out]
  have hz1 := hb1.size
  have hw1 : Below w.heap.size w w1 := hXb.trans (hb1.mono (by omega))
  obtain ⟨Y, hY⟩ : ∃ Y, Y = w1.alloc (.cells #[.bool (uD i.Op), .bool false, .bool false, .bool (uT i.Op)] 65) := ⟨_, rfl⟩
  have hYs : Y.heap.size = w1.heap.size + 1 := by rw [hY]; simp
  have hYb : Below w1.heap.size w1 Y := by rw [hY]; exact (Below.refl _ _).alloc (Nat.le_refl _) _
  have hYw : Below w.heap.size w Y := hw1.trans (hYb.mono hw1.size)
  have hY1 : Y.heap[w1.heap.size]? = some (.cells #[.bool (uD i.Op), .bool false, .bool false, .bool (uT i.Op)] 65 (0, 0)) := by rw [hY]; exact heap_new rfl
  have y1 := (hb1.block _ (by omega)).trans hX1
  obtain ⟨f0, f1, f2, f3, f4, f5, f6⟩ := cells7 y1
  have hYX := (hYb.block _ (by omega)).trans y1
  have hxl : w.heap.size < w1.heap.size := by omega
  have hN0 : Nums Y.heap.size Y (.slice none 0 0) [] := nums_nil _ _
  have HY : Hid (Y = _) := hY
  clear hY
  go_wp2_with fail
  rw [← HY.out]
  obtain ⟨an, cn, en, hIn⟩ := nums_is hN0 (by simp)
  injection en with en1 en2 en3
  subst en1 en3
  clear en2
  have K := ascendingOf_any _ _ _ _ 0 _ Y (Nat.le_refl _) hIn (by simp)
  refine K.mono ?_
  rintro e w5 ⟨v5, rfl, hN5, hb5⟩
  obtain ⟨a5, c5, rfl⟩ := nums_form hN5
  have hend : Below w.heap.size w Y := hYw
  clear K
  go_wp2_with fail
  go_ret
  exact ⟨_, rfl, by rw [HRD.out]; exact nums_le hN5 hend.size, hend.trans (hb5.mono hend.size)⟩

set_option maxRecDepth 100000 in
set_option maxHeartbeats 2000000 in
theorem reads_x (L B : Nat) (i : Insn) (ao : Option Addr) (len cap : Nat) (w : World) (hB : B ≤ w.heap.size) (hs : Is L B w ao len i.L) (hl : len ≤ 1048576) (h8 : ¬ i.Op = 8) (HUX : Hid (uX i.Op = true)) (HUY : Hid (uY i.Op = false)) :
    Calls Try.prog 21 #[vI i ao len cap] w fun e w' => ∃ v, e = .returned v ∧ Nums w.heap.size w' v (readsI i) ∧ Below w.heap.size w w' := by
  obtain ⟨X, hX⟩ : ∃ X, X = w.alloc (.cells #[.int .i64 i.Op, .int .i64 i.D, .int .i64 i.X, .int .i64 i.Y, .int .i64 i.N, .slice ao len cap, .int .i64 i.To] 41) := ⟨_, rfl⟩
  have hXs : X.heap.size = w.heap.size + 1 := by rw [hX]; simp
  have hXb : Below w.heap.size w X := by rw [hX]; exact (Below.refl _ _).alloc (Nat.le_refl _) _
  have hX1 : X.heap[w.heap.size]? = some (.cells #[.int .i64 i.Op, .int .i64 i.D, .int .i64 i.X, .int .i64 i.Y, .int .i64 i.N, .slice ao len cap, .int .i64 i.To] 41 (0, 0)) := by rw [hX]; exact heap_new rfl
  have HX : Hid (X = _) := hX
  have HL : Hid (len = i.L.length) := hs.1
  have hs1 := hs.below hXb hB
  clear hX
  have hb8 : (i.Op == 8) = false := beq_eq_false_iff_ne.2 h8
  have HRD : Hid (readsI i = redL [i.X]) := by show _ = _; unfold readsI rawI; rw [if_neg (by rw [hb8]; simp), HUX.out, HUY.out]; rfl
  clear h8
  go_enter Try.func21, Try.ntmps21
  go_wp2_with fail
  rw [← HX.out]
  refine (fieldsOf_any _ _).mono ?_
  rintro e w1 ⟨rfl, hb1⟩
  rw [HUX.out, HUY.out]
  have hz1 := hb1.size
  have hw1 : Below w.heap.size w w1 := hXb.trans (hb1.mono (by omega))
  obtain ⟨Y, hY⟩ : ∃ Y, Y = w1.alloc (.cells #[.bool (uD i.Op), .bool true, .bool false, .bool (uT i.Op)] 65) := ⟨_, rfl⟩
  have hYs : Y.heap.size = w1.heap.size + 1 := by rw [hY]; simp
  have hYb : Below w1.heap.size w1 Y := by rw [hY]; exact (Below.refl _ _).alloc (Nat.le_refl _) _
  have hYw : Below w.heap.size w Y := hw1.trans (hYb.mono hw1.size)
  have hY1 : Y.heap[w1.heap.size]? = some (.cells #[.bool (uD i.Op), .bool true, .bool false, .bool (uT i.Op)] 65 (0, 0)) := by rw [hY]; exact heap_new rfl
  have y1 := (hb1.block _ (by omega)).trans hX1
  obtain ⟨f0, f1, f2, f3, f4, f5, f6⟩ := cells7 y1
  have hYX := (hYb.block _ (by omega)).trans y1
  have hxl : w.heap.size < w1.heap.size := by omega
  have hN0 : Nums Y.heap.size Y (.slice none 0 0) [] := nums_nil _ _
  have HY : Hid (Y = _) := hY
  clear hY
  obtain ⟨g1, cp1, z1, HR1, HN1, hq1⟩ := nums_one hN0 (by rfl) (Nat.le_refl _) (by omega) i.X
  rw [HY.out, World.size_alloc] at HR1
  have hq1' : Below Y.heap.size Y z1 := hq1
  obtain ⟨p10, p11, p12, p13, p14, p15, p16⟩ := cells7 ((hq1'.block _ (by omega)).trans hYX)
  obtain ⟨r10, r11, r12, r13⟩ := cells4 ((hq1'.block _ (by omega)).trans hY1)
  go_wp2_with (first | (at_builtin; refine list_run HR1.out (by rfl) _ _ (by rfl) (by rfl) (by rfl) (by rfl) ?_; clear HR1))
  obtain ⟨an, cn, en, hIn⟩ := nums_is HN1.out (by simp)
  injection en with en1 en2 en3
  subst en1 en3
  clear en2
  have K := ascendingOf_any _ _ _ _ cp1 _ z1 (Nat.le_refl _) hIn (by simp)
  refine K.mono ?_
  rintro e w5 ⟨v5, rfl, hN5, hb5⟩
  obtain ⟨a5, c5, rfl⟩ := nums_form hN5
  have hend : Below w.heap.size w z1 := hYw.trans (hq1'.mono hYw.size)
  clear K
  go_wp2_with fail
  go_ret
  exact ⟨_, rfl, by rw [HRD.out]; exact nums_le hN5 hend.size, hend.trans (hb5.mono hend.size)⟩

set_option maxRecDepth 100000 in
set_option maxHeartbeats 2000000 in
theorem reads_xy (L B : Nat) (i : Insn) (ao : Option Addr) (len cap : Nat) (w : World) (hB : B ≤ w.heap.size) (hs : Is L B w ao len i.L) (hl : len ≤ 1048576) (h8 : ¬ i.Op = 8) (HUX : Hid (uX i.Op = true)) (HUY : Hid (uY i.Op = true)) :
    Calls Try.prog 21 #[vI i ao len cap] w fun e w' => ∃ v, e = .returned v ∧ Nums w.heap.size w' v (readsI i) ∧ Below w.heap.size w w' := by
  obtain ⟨X, hX⟩ : ∃ X, X = w.alloc (.cells #[.int .i64 i.Op, .int .i64 i.D, .int .i64 i.X, .int .i64 i.Y, .int .i64 i.N, .slice ao len cap, .int .i64 i.To] 41) := ⟨_, rfl⟩
  have hXs : X.heap.size = w.heap.size + 1 := by rw [hX]; simp
  have hXb : Below w.heap.size w X := by rw [hX]; exact (Below.refl _ _).alloc (Nat.le_refl _) _
  have hX1 : X.heap[w.heap.size]? = some (.cells #[.int .i64 i.Op, .int .i64 i.D, .int .i64 i.X, .int .i64 i.Y, .int .i64 i.N, .slice ao len cap, .int .i64 i.To] 41 (0, 0)) := by rw [hX]; exact heap_new rfl
  have HX : Hid (X = _) := hX
  have HL : Hid (len = i.L.length) := hs.1
  have hs1 := hs.below hXb hB
  clear hX
  have hb8 : (i.Op == 8) = false := beq_eq_false_iff_ne.2 h8
  have HRD : Hid (readsI i = redL [i.X, i.Y]) := by show _ = _; unfold readsI rawI; rw [if_neg (by rw [hb8]; simp), HUX.out, HUY.out]; rfl
  clear h8
  go_enter Try.func21, Try.ntmps21
  go_wp2_with fail
  rw [← HX.out]
  refine (fieldsOf_any _ _).mono ?_
  rintro e w1 ⟨rfl, hb1⟩
  rw [HUX.out, HUY.out]
  have hz1 := hb1.size
  have hw1 : Below w.heap.size w w1 := hXb.trans (hb1.mono (by omega))
  obtain ⟨Y, hY⟩ : ∃ Y, Y = w1.alloc (.cells #[.bool (uD i.Op), .bool true, .bool true, .bool (uT i.Op)] 65) := ⟨_, rfl⟩
  have hYs : Y.heap.size = w1.heap.size + 1 := by rw [hY]; simp
  have hYb : Below w1.heap.size w1 Y := by rw [hY]; exact (Below.refl _ _).alloc (Nat.le_refl _) _
  have hYw : Below w.heap.size w Y := hw1.trans (hYb.mono hw1.size)
  have hY1 : Y.heap[w1.heap.size]? = some (.cells #[.bool (uD i.Op), .bool true, .bool true, .bool (uT i.Op)] 65 (0, 0)) := by rw [hY]; exact heap_new rfl
  have y1 := (hb1.block _ (by omega)).trans hX1
  obtain ⟨f0, f1, f2, f3, f4, f5, f6⟩ := cells7 y1
  have hYX := (hYb.block _ (by omega)).trans y1
  have hxl : w.heap.size < w1.heap.size := by omega
  have hN0 : Nums Y.heap.size Y (.slice none 0 0) [] := nums_nil _ _
  have HY : Hid (Y = _) := hY
  clear hY
  obtain ⟨g1, cp1, z1, HR1, HN1, hq1⟩ := nums_one hN0 (by rfl) (Nat.le_refl _) (by omega) i.X
  rw [HY.out, World.size_alloc] at HR1
  have hq1' : Below Y.heap.size Y z1 := hq1
  obtain ⟨p10, p11, p12, p13, p14, p15, p16⟩ := cells7 ((hq1'.block _ (by omega)).trans hYX)
  obtain ⟨r10, r11, r12, r13⟩ := cells4 ((hq1'.block _ (by omega)).trans hY1)
  obtain ⟨g2, cp2, z2, HR2, HN2, hq2⟩ := nums_one HN1.out (by rfl) (hq1.size) (by omega) i.Y
  have hq2' : Below Y.heap.size Y z2 := hq1.trans hq2
  obtain ⟨p20, p21, p22, p23, p24, p25, p26⟩ := cells7 ((hq2'.block _ (by omega)).trans hYX)
  obtain ⟨r20, r21, r22, r23⟩ := cells4 ((hq2'.block _ (by omega)).trans hY1)
  go_wp2_with (first | (at_builtin; refine list_run HR1.out (by rfl) _ _ (by rfl) (by rfl) (by rfl) (by rfl) ?_; clear HR1) | (at_builtin; refine list_run HR2.out (by rfl) _ _ (by rfl) (by rfl) (by rfl) (by rfl) ?_; clear HR2))
  obtain ⟨an, cn, en, hIn⟩ := nums_is HN2.out (by simp)
  injection en with en1 en2 en3
  subst en1 en3
  clear en2
  have K := ascendingOf_any _ _ _ _ cp2 _ z2 (Nat.le_refl _) hIn (by simp)
  refine K.mono ?_
  rintro e w5 ⟨v5, rfl, hN5, hb5⟩
  obtain ⟨a5, c5, rfl⟩ := nums_form hN5
  have hend : Below w.heap.size w z2 := hYw.trans (hq2'.mono hYw.size)
  clear K
  go_wp2_with fail
  go_ret
  exact ⟨_, rfl, by rw [HRD.out]; exact nums_le hN5 hend.size, hend.trans (hb5.mono hend.size)⟩

theorem reads_any (L B : Nat) (i : Insn) (ao : Option Addr) (len cap : Nat) (w : World) (hB : B ≤ w.heap.size) (hs : Is L B w ao len i.L) (hl : len ≤ 1048576) :
    Calls Try.prog 21 #[vI i ao len cap] w fun e w' => ∃ v, e = .returned v ∧ Nums w.heap.size w' v (readsI i) ∧ Below w.heap.size w w' := by
  by_cases h8 : i.Op = 8
  · exact reads_make L B i ao len cap w hB hs hl h8 (by show _ = _; rw [h8]; rfl) (by show _ = _; rw [h8]; rfl)
  · cases hx : uX i.Op with
    | false =>
      cases hy : uY i.Op with
      | false => exact reads_none L B i ao len cap w hB hs hl h8 hx hy
      | true => rw [uY_uX hy] at hx; cases hx
    | true =>
      cases hy : uY i.Op with
      | false => exact reads_x L B i ao len cap w hB hs hl h8 hx hy
      | true => exact reads_xy L B i ao len cap w hB hs hl h8 hx hy

end Go.Proofs.Ytchdmpipfmedaaa
