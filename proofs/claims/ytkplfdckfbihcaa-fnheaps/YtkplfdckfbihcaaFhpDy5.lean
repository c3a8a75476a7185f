/-
  What the model's 'l12DrawAny' comes to: some heap of few words.
-/
import Derived.Test.YtkplfdckfbihcaaFhpDy4
namespace Go.Proofs.Ytkplfdckfbihcaa
open Go.RowKit
set_option linter.unusedVariables false
set_option linter.unusedSimpArgs false

/-- What a drawing of a heap comes to. -/
def HpEnd (w : World) (p : Nat) (cao : Option Addr) (clen ccap : Nat) (e : Ending) (w' : World) : Prop :=
  ∃ s ao n cap l, e = .returned (vH s ao n cap) ∧ Drw w w' p cao clen ccap ∧ Wors (w.heap.size + 1) w' (.slice ao n cap) l ∧ l.length ≤ 80

set_option maxRecDepth 100000 in
set_option maxHeartbeats 4000000 in
theorem l12DrawAny_any (p : Nat) (cao : Option Addr) (clen ccap : Nat) (most : Int) (w : World) (hc : Cur w p cao clen ccap) (h1 : 3 ≤ most) (h2 : most ≤ 20) :
    Calls Try.prog 16 #[.pointer (some ⟨p, 0, none⟩), .int .i64 most] w fun e w' => HpEnd w p cao clen ccap e w' := by
  have hp := hc.lt
  have hA : Below w.heap.size w (w.alloc (.cells #[.int .i64 0, .slice none 0 0] 26)) := (Below.refl _ _).alloc (Nat.le_refl _) _
  have hr0 : (w.alloc (.cells #[.int .i64 0, .slice none 0 0] 26)).heap[w.heap.size]? = some (.cells #[.int .i64 0, .slice none 0 0] 26 (0, 0)) := heap_new rfl
  go_enter Try.func16, Try.ntmps16
  go_wp2_with fail
  refine (l12Draw_any p cao clen ccap most _ (hc.below hA) h1 h2).mono ?_
  rintro e w1 ⟨s, ao, n, cap, l, rfl, hD1, hW1, hl⟩
  obtain ⟨ao', cap', ev, hcap⟩ := wors_form hW1
  injection ev with ev1 ev2 ev3
  subst ev1 ev2 ev3
  simp only [World.size_alloc] at hW1
  have hr1 := (hD1.blk (by simp) (by omega)).trans hr0
  have hS0 := DwS.start ((drw_below hc hA).trans hD1) hp hr1 s (.slice ao l.length cap) l (wors_le hW1 (by omega))
  generalize hH : w1.heap.size = H at *
  have HH : Hid (w1.heap.size = H) := hH
  have HL80 : Hid (l.length ≤ 80) := hl
  clear hH hr0 hr1 hW1 hD1 hl
  go_wp2_with fail
  rw [HH.out]
  refine (l1Below_any p cao clen ccap 12 _ hS0.drw.cur (by omega) (by omega)).mono ?_
  rintro e w2 ⟨x, rfl, hx0, hx1, hD2⟩
  have hS := hS0.draw hD2
  clear hS0 hD2
  by_cases e0 : x = 0
  · subst e0
    have hA2 : Below w2.heap.size w2 (w2.alloc (.cells #[.int .i64 0, .int .i64 5001, .int .i64 (-1)] 3)) := (Below.refl _ _).alloc (Nat.le_refl _) _
    have hS2 := hS.below hA2
    have hpw : p < w2.heap.size := by have := hS.lt; have := hS.hH; omega
    go_wp2_with fail
    refine (l1Int_any p cao clen ccap w2.heap.size 3 3 [0, 5001, -1] _ hS2.drw.cur (by exact heap_new rfl) (by omega) rfl (by omega) (by omega)).mono ?_
    rintro e w3 ⟨s3, rfl, hs3, hD3⟩
    have hS3 := hS2.draw hD3
    obtain ⟨b0, b1⟩ := cells2 hS3.box
    have b2 := row_free hS3.box
    obtain ⟨r0, r1⟩ := cells2 hS3.res
    have r2 := row_free hS3.res
    have hne : ¬ w.heap.size = H := by have := hS3.hH; omega
    have hne' : ¬ H = w.heap.size := by omega
    obtain ⟨q1, q2⟩ := (hS3.size s3).fin
    have HQ1 : Hid (Drw _ _ _ _ _ _) := q1
    have HQ2 : Hid (Wors _ _ _ _) := q2
    clear q1 q2 hS2 hS3 hS hs3
    go_wp2_with fail
    refine bodyPost_ret (v := vH s3 ao l.length cap) (by simp [results, Try.results16, go_sem, r0, r1, hne, hne']) rfl ⟨s3, ao, l.length, cap, l, rfl, HQ1.out, HQ2.out, HL80.out⟩
  · by_cases e1 : x = 1
    · subst e1
      by_cases hl0 : 0 < l.length
      · have hS2 := hS.drew
        obtain ⟨b0, b1⟩ := cells2 hS.box
        obtain ⟨g, hg⟩ : ∃ g, ao = some ⟨g, 0, none⟩ := by
          obtain ⟨g, c, e, _⟩ := wors_at hS.row 0 hl0
          injection e with e1 e2 e3
          exact ⟨g, e1⟩
        subst hg
        have hwlt := hS.hH
        have hHlt := hS.lt
        have hbl : l.length ≤ 256 := by have := HL80.out; omega
        have hP0 : Hid True := trivial
        go_wp2_with fail
        go_region_law (first
          | (clear hP0; go_simp; go_at_call 23; refine (l1Below_any p cao clen ccap (l.length : Int) w2.drew hS2.drw.cur (by omega) (by omega)).mono ?_; rintro e w3 ⟨y, rfl, hy0, hy1, hD3⟩; obtain ⟨yn, hyn⟩ : ∃ yn : Nat, y = yn := ⟨y.toNat, (Int.toNat_of_nonneg hy0).symm⟩; subst hyn; have hyl : yn < l.length := Int.ofNat_lt.1 hy1; have hS3 := hS2.draw hD3; obtain ⟨n0, n1⟩ := cells2 hS3.box; have hP1 : Hid True := trivial)
          | (clear hP1; go_simp; go_at_call 23; refine (l1Below_any p cao clen ccap 9 w3 hS3.drw.cur (by omega) (by omega)).mono ?_; rintro e w4 ⟨z, rfl, hz0, hz1, hD4⟩; have hS4 := hS3.draw hD4; obtain ⟨o0, o1⟩ := cells2 hS4.box; have hP2 : Hid True := trivial)
          | (clear hP2; go_simp; go_at_call 23; refine (l1Below_any p cao clen ccap 5 w4 hS4.drw.cur (by omega) (by omega)).mono ?_; rintro e w5 ⟨t, rfl, ht0, ht1, hD5⟩; have hS5 := hS4.draw hD5; obtain ⟨p0, p1⟩ := cells2 hS5.box; obtain ⟨m0, m1⟩ := wors_two hS5.row yn hyl; have m2 := wors_cells hS5.row))
        all_goals
          have hS6 := hS5.put yn hyl ⟨z, t⟩
          obtain ⟨c0, c1⟩ := cells2 hS6.box
          obtain ⟨r0, r1⟩ := cells2 hS6.res
          have r2 := row_free hS6.res
          obtain ⟨q1, q2⟩ := hS6.fin
          have HQ1 : Hid (Drw _ _ _ _ _ _) := q1
          have HQ2 : Hid (Wors _ _ _ _) := q2
          have HL8 : Hid ((l.set yn ⟨z, t⟩).length ≤ 80) := by show _ ≤ _; rw [List.length_set]; exact HL80.out
          clear q1 q2 hS6 hS5 m0 m1 m2 b0 b1
          go_wp2_with fail
          refine bodyPost_ret (v := vH s (some ⟨g, 0, none⟩) l.length cap) (by simp [results, Try.results16, go_sem, r0, r1]) rfl ⟨s, some ⟨g, 0, none⟩, l.length, cap, l.set yn ⟨z, t⟩, rfl, HQ1.out, HQ2.out, HL8.out⟩
      · obtain ⟨b0, b1⟩ := cells2 hS.box
        obtain ⟨r0, r1⟩ := cells2 hS.res
        have r2 := row_free hS.res
        obtain ⟨q1, q2⟩ := hS.fin
        have HQ1 : Hid (Drw _ _ _ _ _ _) := q1
        have HQ2 : Hid (Wors _ _ _ _) := q2
        clear q1 q2 hS
        go_wp2_with fail
        refine bodyPost_ret (v := vH s ao l.length cap) (by simp [results, Try.results16, go_sem, r0, r1]) rfl ⟨s, ao, l.length, cap, l, rfl, HQ1.out, HQ2.out, HL80.out⟩
    · obtain ⟨b0, b1⟩ := cells2 hS.box
      obtain ⟨r0, r1⟩ := cells2 hS.res
      have r2 := row_free hS.res
      obtain ⟨q1, q2⟩ := hS.fin
      have HQ1 : Hid (Drw _ _ _ _ _ _) := q1
      have HQ2 : Hid (Wors _ _ _ _) := q2
      clear q1 q2 hS
      go_wp2_with fail
      refine bodyPost_ret (v := vH s ao l.length cap) (by simp [results, Try.results16, go_sem, r0, r1]) rfl ⟨s, ao, l.length, cap, l, rfl, HQ1.out, HQ2.out, HL80.out⟩

end Go.Proofs.Ytkplfdckfbihcaa
