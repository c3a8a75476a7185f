/-
  'Show' of the model.
-/
import Derived.Test.YtaljpbgggembmaaDoorShxSm7
import Derived.Test.YtaljpbgggembmaaDoorShxBy9
import Derived.Test.YtaljpbgggembmaaDoorShxSRo0
namespace Go.Proofs.YtaljpbgggembmaaDoor
open Go.RowKit
set_option linter.unusedVariables false
set_option linter.unusedSimpArgs false

theorem byr_conv {base : Nat} {w : World} {v : Value} {T : List UInt8} (h : Byr base w v T) (h0 : T ≠ []) : (convert 39 9 v).run Tryd.prog w = .ok (.string ⟨T.toArray⟩) w := by
  have hl0 : T.length ≠ 0 := by simpa using h0
  rcases h.2 with ⟨_, hz⟩ | ⟨g, vc, cur, rfl, hbg, hg, hnc, hcm, hcs, htake⟩
  · exact absurd hz hl0
  · refine run_convert_bytes_back _ _ _ _ ⟨g, 0, none⟩ vc T Tryd.underlying39 Tryd.underlying5 Tryd.underlying9 ?_
    intro j hj
    have e1 : (⟨g, 0, none⟩ : Addr).add j = ⟨g, j, none⟩ := by unfold Addr.add; split <;> simp_all
    rw [e1, row_cell hg]
    have e2 : (cur.toList.take (T.length * 1))[j]? = some (.int .u8 (T[j].toNat : Int)) := by rw [htake]; simp [Lib.byteCells, hj]
    rw [List.getElem?_take, if_pos (by omega), Array.getElem?_toList] at e2
    exact e2

set_option maxRecDepth 100000 in
set_option maxHeartbeats 2000000 in
theorem sShow_any (s : Int) (ao : Option Addr) (len cap : Nat) (l : List Wrd) (x : Wrd) (w : World) (hs : Ws 0 w.heap.size w ao len l) (hl : len ≤ 1048576) :
    Calls Tryd.prog 5 #[vH s ao len cap, vW x] w fun e w' => e = .returned (.string ⟨(shT s l x).toArray⟩) ∧ Below w.heap.size w w' := by
  obtain ⟨X, hX⟩ : ∃ X, X = ((w.alloc (.cells #[.int .i64 s, .slice ao len cap] 31)).alloc (.cells #[.int .i64 x.K, .int .i64 x.N] 33)).alloc (.cells #[.int .i64 x.K, .int .i64 x.N] 33) := ⟨_, rfl⟩
  have hXs : X.heap.size = w.heap.size + 3 := by rw [hX]; simp
  have hXb : Below w.heap.size w X := by rw [hX]; exact (((Below.refl _ _).alloc (Nat.le_refl _) _).alloc (by simp) _).alloc (by simp; omega) _
  have x0 : X.heap[w.heap.size]? = some (.cells #[.int .i64 s, .slice ao len cap] 31 (0, 0)) := by rw [hX, Below.heap_alloc _ _ _ (by simp; omega), Below.heap_alloc _ _ _ (by simp)]; exact heap_new rfl
  have x1 : X.heap[w.heap.size + 1]? = some (.cells #[.int .i64 x.K, .int .i64 x.N] 33 (0, 0)) := by rw [hX, Below.heap_alloc _ _ _ (by simp)]; exact heap_new (by simp)
  have x2 : X.heap[w.heap.size + 2]? = some (.cells #[.int .i64 x.K, .int .i64 x.N] 33 (0, 0)) := by rw [hX]; exact heap_new (by simp)
  have hsX : Ws 0 w.heap.size X ao len l := hs.below hXb (Nat.le_refl _)
  have hrX : Ws 0 X.heap.size X (some ⟨w.heap.size + 2, 0, none⟩) 1 [x] := by
    refine ⟨rfl, by omega, fun i hi => ?_⟩
    have e : i = 0 := by simpa using hi
    subst e
    obtain ⟨c0, c1⟩ := cells2 x2
    exact ⟨w.heap.size + 2, 0, rfl, by omega, by omega, ⟨by simpa using c0, by simpa using c1⟩⟩
  have KR := l12Roots_any 0 w.heap.size 0 X.heap.size s ao len cap l (some ⟨w.heap.size + 2, 0, none⟩) 1 1 [x] X (by omega) (Nat.le_refl _) hsX hrX hl (by omega)
  have HX : Hid (X = _) := hX
  clear hX x2 hrX
  have HST : Hid (shT s l x = if rokB s l [x] then (shw l 6001 6000 x).1 else []) := rfl
  generalize hq : rokB s l [x] = q at *
  have HQ : Hid (rokB s l [x] = q) := hq
  generalize hst : shT s l x = st at *
  clear hq hst
  cases q with
  | false =>
    have hst0 : st = [] := HST.out
    subst hst0
    go_enter Tryd.func5, Tryd.ntmps5
    go_wp2_with fail
    rw [← HX.out]
    refine KR.mono ?_
    rintro e w1 ⟨rfl, hb1⟩
    have hbw : Below w.heap.size w w1 := hXb.trans (hb1.mono (by omega))
    go_wp2_with fail
    go_ret
    exact ⟨rfl, hbw⟩
  | true =>
    have hst1 : st = (shw l 6001 6000 x).1 := HST.out
    have hrr : okH s l = true ∧ rgt (heads l) x = true := by
      have := HQ.out
      unfold rokB at this
      simpa using this
    obtain ⟨hok, hrx⟩ := hrr
    go_enter Tryd.func5, Tryd.ntmps5
    go_wp2_with fail
    rw [← HX.out]
    refine KR.mono ?_
    rintro e w1 ⟨rfl, hb1⟩
    have hz1 := hb1.size
    have hbw : Below w.heap.size w w1 := hXb.trans (hb1.mono (by omega))
    have y0 := (hb1.block _ (by omega)).trans x0
    have y1 := (hb1.block _ (by omega)).trans x1
    obtain ⟨Z, hZ⟩ : ∃ Z, Z = (w1.alloc (.cells #[.int .i64 6000] 3)).alloc (.cells #[] 5) := ⟨_, rfl⟩
    have hA1 : Below w1.heap.size w1 (w1.alloc (.cells #[.int .i64 6000] 3)) := (Below.refl _ _).alloc (Nat.le_refl _) _
    have hZb : Below w1.heap.size w1 Z := by rw [hZ]; exact hA1.alloc (by simp) _
    have z0 : Z.heap[w1.heap.size]? = some (.cells #[.int .i64 6000] 3 (0, 0)) := by rw [hZ, Below.heap_alloc _ _ _ (by simp)]; exact heap_new rfl
    have z1 : Z.heap[w1.heap.size + 1]? = some (.cells #[] 5 (0, 0)) := by rw [hZ]; exact heap_new (by simp)
    have hMl : Ml Z w1.heap.size ((6000 : Nat) : Int) (.slice (some ⟨w1.heap.size + 1, 0, none⟩) 0 0) [] := ⟨z0, rfl, Or.inr ⟨w1.heap.size + 1, 0, #[], rfl, Nat.le_refl _, z1, by simp, by simp, by simp, by simp [Lib.byteCells]⟩⟩
    have hs1 : Ws 0 w1.heap.size Z ao len l := (hs.keep (fun k _ hk => hbw.block k hk) (Nat.le_refl _) hbw.size).below hZb (Nat.le_refl _)
    have KW := saidM_all (M := w1.heap.size) (ao := ao) (cap := cap) hok hl 6001 6001 (Nat.le_refl _) 6000 x [] _ Z (by omega) hrx hMl hs1 (by simp)
    rw [List.nil_append, ← hst1] at KW
    have hst2 : st ≠ [] := by rw [hst1]; exact shw_some l 6000 6000 x
    obtain ⟨u0, u1⟩ := cells2 y0
    obtain ⟨u2, u3⟩ := cells2 y1
    obtain ⟨t0, t1⟩ := cells2 ((hA1.block _ (by omega)).trans y0)
    obtain ⟨t2, t3⟩ := cells2 ((hA1.block _ (by omega)).trans y1)
    have hbwZ : Below w.heap.size w Z := hbw.trans (hZb.mono hbw.size)
    have HZ : Hid (Z = _) := hZ
    generalize ((shw l 6001 6000 x).2 : Int) = nn at *
    clear hst1 HST hMl hs1 hA1 y0 y1 KR hb1 x0 x1 hsX z0 z1 hZb hZ
    unfold vW at KW
    go_wp2_with fail
    rw [← HZ.out]
    refine KW.mono ?_
    rintro e w2 ⟨v2, rfl, hg2, hM2⟩
    clear KW
    have hcv := byr_conv hM2.row hst2
    obtain ⟨vo2, vc2, hve2⟩ := byr_form hM2.row
    subst hve2
    have hbw2 : Below w.heap.size w w2 := hbwZ.trans (hg2.bel.mono (by omega))
    clear hM2 hg2
    go_wp2_with fail
    go_ret
    exact ⟨rfl, hbw2⟩

end Go.Proofs.YtaljpbgggembmaaDoor
