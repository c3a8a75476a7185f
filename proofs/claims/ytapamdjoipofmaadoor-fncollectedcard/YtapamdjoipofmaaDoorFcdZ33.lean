/-
  'String' of a builder in a 'shower'; 'Show' of the program.
-/
import Derived.Test.YtapamdjoipofmaaDoorFcdBy8
import Derived.Test.YtapamdjoipofmaaDoorFcdZ11
import Derived.RegionTactic
import Derived.Test.YtapamdjoipofmaaDoorFcdZ26
import Derived.Test.YtapamdjoipofmaaDoorFcdZ16
namespace Go.Proofs.YtapamdjoipofmaaDoor
open Go.RowKit
set_option linter.unusedVariables false
set_option linter.unusedSimpArgs false

theorem Tryd.cellsByte : Tryd.prog.cellsOf 5 = 1 := by kernel_rfl

set_option maxRecDepth 100000 in
set_option maxHeartbeats 2000000 in
theorem string_any {w : World} {S : Nat} {ao : Option Addr} {len cap : Nat} {n : Int} {T : List UInt8} (h : Shw w S ao len cap n T) (h0 : T ≠ []) :
    Calls Tryd.prog 24 #[.pointer (some ⟨S, 2, none⟩)] w fun e w' => e = .returned (.string ⟨T.toArray⟩) ∧ Below S w w' := by
  obtain ⟨p, v, hb, hp, hr⟩ := h.at_
  have hl0 : T.length ≠ 0 := by simpa using h0
  obtain ⟨g, vc, cur, rfl, hbg, hg, hnc, hcm, hcs, htake⟩ : ∃ g vc cur, v = .slice (some ⟨g, 0, none⟩) T.length vc ∧ S + 1 ≤ g ∧ w.heap[g]? = some (.cells cur 5 (0, 0)) ∧ T.length ≤ vc ∧ vc ≤ maxLen ∧ cur.size = vc * 1 ∧ cur.toList.take (T.length * 1) = Lib.byteCells T := by
    rcases hr.2 with ⟨_, hz⟩ | ⟨g, cap, cur, hv, r⟩
    · exact absurd hz hl0
    · exact ⟨g, cap, cur, hv, r⟩
  obtain ⟨c0, c1, c2, c3⟩ := cells4b hb
  have hSD : (Builtin.unsafeSliceData_ #[22] 88 #[.slice (some ⟨g, 0, none⟩) T.length vc]).run Tryd.prog w.drew = .ok (.pointer (some ⟨g, 0, none⟩)) w.drew :=
    Lib.run_unsafeSliceData_row _ _ _ _ _ _ (by omega)
  have hUS : (Builtin.unsafeString_ #[88, 3] 9 #[.pointer (some ⟨g, 0, none⟩), .int .i64 T.length]).run Tryd.prog w.drew = .ok (.string ⟨T.toArray⟩) (w.drew.freeze ⟨g, 0, none⟩ T.length) := by
    refine Lib.run_unsafeString_row w.drew 88 3 9 5 Tryd.underlying88 Tryd.cellsByte g cur.size (by have hg' : w.drew.heap[g]? = some (.cells cur 5 (0, 0)) := hg; simp [World.shape?, hg']) T h0 (by omega) (by unfold maxLen at hcm; omega) ?_
    intro j x hx
    have e1 : (⟨g, 0, none⟩ : Addr).add j = ⟨g, j, none⟩ := by unfold Addr.add; split <;> simp_all
    rw [e1]
    show w.cell? ⟨g, j, none⟩ = _
    have hj := (List.getElem?_eq_some_iff.1 hx).1
    rw [row_cell hg]
    have e2 : (cur.toList.take (T.length * 1))[j]? = some (.int .u8 x.toNat) := by rw [htake]; simp [Lib.byteCells, hx]
    rw [List.getElem?_take, if_pos (by omega), Array.getElem?_toList] at e2
    exact e2
  have hBl : Below S w (w.drew.freeze ⟨g, 0, none⟩ T.length) := Lib.below_freeze (Below.drew (Below.refl S w)) (p := ⟨g, 0, none⟩) (by show S ≤ g; omega) _
  have HB : Hid (Below S w _) := hBl
  clear hBl hr hb hg htake h
  go_enter Tryd.func24, Tryd.ntmps24
  go_wp2_with fail
  go_region
  all_goals
    go_wp2_with fail
    go_ret
    exact ⟨rfl, HB.out⟩

/-- The text that 'Show' tells. -/
def shT (s : Int) (l : List Wrd) (x : Wrd) : List UInt8 := if rokB s l [x] then (shw l 6001 6000 x).1 else []
theorem shw_some (l : List Wrd) (f n : Nat) (x : Wrd) : (shw l (f + 1) n x).1 ≠ [] := by
  cases n with
  | zero => rw [shw_zero]; simp
  | succ n =>
    rw [shw]
    split
    · show Lib.itoa x.N ≠ []
      unfold Lib.itoa
      split
      · simp
      · rw [Lib.decDigits]
        split <;> simp
    · split
      · show (if x.N = 1 then [116] else [117] : List UInt8) ≠ []
        split <;> simp
      · split
        · simp
        · split
          · simp
          · split <;> simp

set_option maxRecDepth 100000 in
set_option maxHeartbeats 2000000 in
theorem show_any {B : Nat} (s : Int) (ao : Option Addr) (len cap : Nat) (l : List Wrd) (x : Wrd) (w : World) (hs : Ws 0 w.heap.size w ao len l) (hl : len ≤ 1048576) (hcap : len ≤ cap) (hT : TabB B w) (hB : B ≤ w.heap.size) :
    Calls Tryd.prog 9 #[vH s ao len cap, vW x] w fun e w' => e = .returned (.string ⟨(shT s l x).toArray⟩) ∧ Below w.heap.size w w' := by
  obtain ⟨X, hX⟩ : ∃ X, X = ((w.alloc (.cells #[.int .i64 s, .slice ao len cap] 26)).alloc (.cells #[.int .i64 x.K, .int .i64 x.N] 34)).alloc (.cells #[.int .i64 x.K, .int .i64 x.N] 34) := ⟨_, rfl⟩
  have hXs : X.heap.size = w.heap.size + 3 := by rw [hX]; simp
  have hXb : Below w.heap.size w X := by rw [hX]; exact (((Below.refl _ _).alloc (Nat.le_refl _) _).alloc (by simp) _).alloc (by simp; omega) _
  have x0 : X.heap[w.heap.size]? = some (.cells #[.int .i64 s, .slice ao len cap] 26 (0, 0)) := by rw [hX, Below.heap_alloc _ _ _ (by simp; omega), Below.heap_alloc _ _ _ (by simp)]; exact heap_new rfl
  have x1 : X.heap[w.heap.size + 1]? = some (.cells #[.int .i64 x.K, .int .i64 x.N] 34 (0, 0)) := by rw [hX, Below.heap_alloc _ _ _ (by simp)]; exact heap_new (by simp)
  have x2 : X.heap[w.heap.size + 2]? = some (.cells #[.int .i64 x.K, .int .i64 x.N] 34 (0, 0)) := by rw [hX]; exact heap_new (by simp)
  have hsX : Ws 0 w.heap.size X ao len l := hs.below hXb (Nat.le_refl _)
  have hrX : Ws 0 X.heap.size X (some ⟨w.heap.size + 2, 0, none⟩) 1 [x] := by
    refine ⟨rfl, by omega, fun i hi => ?_⟩
    have e : i = 0 := by simpa using hi
    subst e
    obtain ⟨c0, c1⟩ := cells2 x2
    exact ⟨w.heap.size + 2, 0, rfl, by omega, by omega, ⟨by simpa using c0, by simpa using c1⟩⟩
  have KR := rootsRight_any 0 w.heap.size 0 X.heap.size s ao len cap l (some ⟨w.heap.size + 2, 0, none⟩) 1 1 [x] X (by omega) (Nat.le_refl _) hsX hrX hl (by omega) hcap
  have HX : Hid (X = _) := hX
  clear hX x2 hrX
  have HST : Hid (shT s l x = if rokB s l [x] then (shw l 6001 6000 x).1 else []) := rfl
  generalize hq : rokB s l [x] = q at *
  have HQ : Hid (rokB s l [x] = q) := hq
  generalize hst : shT s l x = st at *
  clear hq hst
  cases q with
  | false =>
    have hst0 : st = [] := HST.out
    subst hst0
    go_enter Tryd.func9, Tryd.ntmps9
    go_wp2_with fail
    rw [← HX.out]
    refine KR.mono ?_
    rintro e w1 ⟨rfl, hb1⟩
    have hbw : Below w.heap.size w w1 := hXb.trans (hb1.mono (by omega))
    go_wp2_with fail
    go_ret
    exact ⟨rfl, hbw⟩
  | true =>
    have hst1 : st = (shw l 6001 6000 x).1 := HST.out
    have hrr : okH s l = true ∧ rgt (heads l) x = true := by
      have := HQ.out
      unfold rokB at this
      simpa using this
    obtain ⟨hok, hrx⟩ := hrr
    go_enter Tryd.func9, Tryd.ntmps9
    go_wp2_with fail
    rw [← HX.out]
    refine KR.mono ?_
    rintro e w1 ⟨rfl, hb1⟩
    have hz1 := hb1.size
    have hbw : Below w.heap.size w w1 := hXb.trans (hb1.mono (by omega))
    have y0 := (hb1.block _ (by omega)).trans x0
    have y1 := (hb1.block _ (by omega)).trans x1
    have hA1 : Below w1.heap.size w1 (w1.alloc (.cells #[.slice ao len cap, .int .i64 6000, .pointer none, .slice none 0 0] 60)) := (Below.refl _ _).alloc (Nat.le_refl _) _
    have hSh : Shw (w1.alloc (.cells #[.slice ao len cap, .int .i64 6000, .pointer none, .slice none 0 0] 60)) w1.heap.size ao len cap ((6000 : Nat) : Int) [] :=
      ⟨_, _, heap_new rfl, Or.inl rfl, rfl, Or.inl ⟨rfl, rfl⟩⟩
    have hs1 : Ws 0 w1.heap.size (w1.alloc (.cells #[.slice ao len cap, .int .i64 6000, .pointer none, .slice none 0 0] 60)) ao len l := (hs.keep (fun k _ hk => hbw.block k hk) (Nat.le_refl _) hbw.size).below hA1 (Nat.le_refl _)
    have hT1 : TabB B (w1.alloc (.cells #[.slice ao len cap, .int .i64 6000, .pointer none, .slice none 0 0] 60)) := (hT.below (hbw.mono hB)).below (hA1.mono (by omega))
    have KW := word_all (ao := ao) hok hcap hl (show B ≤ w1.heap.size by omega) 6001 6001 (Nat.le_refl _) 6000 x [] _ (by omega) hrx hSh hs1 hT1 (by simp)
    rw [List.nil_append, ← hst1] at KW
    have hst2 : st ≠ [] := by rw [hst1]; exact shw_some l 6000 6000 x
    obtain ⟨z0, z1⟩ := cells2 y0
    have y1A := (hA1.block _ (by omega)).trans y1
    obtain ⟨u0, u1⟩ := cells2 y1A
    have hbwA : Below w.heap.size w (w1.alloc (.cells #[.slice ao len cap, .int .i64 6000, .pointer none, .slice none 0 0] 60)) := hbw.trans (hA1.mono hbw.size)
    generalize ((shw l 6001 6000 x).2 : Int) = nn at *
    clear hst1 HST hSh hs1 hT1 hA1 y0 y1 y1A KR hb1 x0 x1 hsX
    unfold vW at KW
    go_wp2_with fail
    refine KW.mono ?_
    rintro e w2 ⟨rfl, hg2, hS2⟩
    clear KW
    have hbw2 : Below w.heap.size w w2 := hbwA.trans (hg2.bel.mono (by omega))
    go_wp2_with fail
    refine (string_any hS2 hst2).mono ?_
    rintro e w3 ⟨rfl, hb3⟩
    have hbw3 : Below w.heap.size w w3 := hbw2.trans (hb3.mono (by omega))
    go_wp2_with fail
    go_ret
    exact ⟨rfl, hbw3⟩

end Go.Proofs.YtapamdjoipofmaaDoor

/-
  Plain: what a collection of a right heap comes to, in the words of the law FnCollected.
-/
namespace Go.Proofs.YtapamdjoipofmaaDoor
open Go.RowKit
set_option linter.unusedVariables false
set_option linter.unusedSimpArgs false

theorem col_is {s : Int} {l roots : List Wrd} (h : okH s l = true) (hr : roots.all (rgt (heads l)) = true) :
    colL s l roots = col l (plc l roots) ∧ colR s l roots = roots.map (mvW l (plc l roots)) := by
  have hr0 : rokB s l roots = true := by unfold rokB; rw [h, hr]; rfl
  exact ⟨by unfold colL; rw [if_pos hr0]; rfl, by unfold colR; rw [if_pos hr0]⟩

/-- A collected heap is right, as long as what is reached, no longer than before. -/
theorem col_facts {s : Int} {l roots : List Wrd} (h : okH s l = true) (hr : roots.all (rgt (heads l)) = true) :
    okH s (colL s l roots) = true ∧ (colR s l roots).length = roots.length ∧ (colL s l roots).length = rchN s l roots ∧ (colL s l roots).length ≤ l.length := by
  obtain ⟨hP, hC⟩ := plc_PL h hr
  obtain ⟨e1, e2⟩ := col_is h hr
  have hr0 : rokB s l roots = true := by unfold rokB; rw [h, hr]; rfl
  have e3 : rchN s l roots = wrds l (plc l roots) := by unfold rchN; rw [if_pos hr0]
  rw [e1, e2, e3]
  exact ⟨col_ok h hP hC, List.length_map _, col_len hP, by rw [col_len hP]; exact wrds_le hP⟩

/-- A root shows the same behind the collection, and something. -/
theorem col_shows {s : Int} {l roots : List Wrd} (h : okH s l = true) (hr : roots.all (rgt (heads l)) = true) {i : Nat} (hi : i < roots.length) (hi' : i < (colR s l roots).length) :
    shT s (colL s l roots) (colR s l roots)[i] = shT s l roots[i] ∧ shT s l roots[i] ≠ [] := by
  obtain ⟨hP, hC⟩ := plc_PL h hr
  obtain ⟨e1, e2⟩ := col_is h hr
  have hm := List.all_eq_true.1 hr
  have hx := hm roots[i] (List.getElem_mem _)
  have hin : roots[i].K = 4 → roots[i].N.toNat ∈ plc l roots := fun hk => root_in (List.getElem_mem _) hk
  have e3 : (colR s l roots)[i] = mvW l (plc l roots) roots[i] := by simp [e2]
  have q0 : rokB s l [roots[i]] = true := by unfold rokB; rw [h]; simp [hx]
  have q1 : rokB s (col l (plc l roots)) [mvW l (plc l roots) roots[i]] = true := by unfold rokB; rw [col_ok h hP hC]; simp [rgt_mv hP hx hin]
  rw [e3, e1]
  unfold shT
  rw [if_pos q0, if_pos q1, ((shw_mv h hP hC 6001).1 6000 _ hx hin)]
  exact ⟨rfl, shw_some l 6000 6000 _⟩

end Go.Proofs.YtapamdjoipofmaaDoor
