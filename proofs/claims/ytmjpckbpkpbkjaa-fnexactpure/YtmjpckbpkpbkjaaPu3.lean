/-
  What 'ask' comes to, of a pair.
-/
import Derived.Test.YtmjpckbpkpbkjaaPu2
namespace Go.Proofs.Ytmjpckbpkpbkjaa
open Go.RowKit
set_option linter.unusedVariables false
set_option linter.unusedSimpArgs false

set_option maxHeartbeats 4000000 in
theorem ask_pair (D d : Nat) (t : Tm) (a1 : Option Addr) (l1 c1 : Nat) (a2 : Option Addr) (l2 c2 : Nat) (c c3 : Nat) (w wr : World) (wp mp : Nat) (v : Value) (fs : List Fr) (cs : List Nat) (hD : PDyn w wr wp mp v fs cs) (hf : Fm 0 wr.heap.size wr D d t a1 l1 a2 l2 (some ⟨c, 0, none⟩) 2) (hv : isVal t.K = false) (hp : t.K = 9 ∨ t.K = 13)
    (hc : c ∉ cs) (hfr : ∀ x, x = c ∨ x ∈ cs → ∃ a t, w.heap[x]? = some (.cells a t (0, 0))) (hsz : fs.length ≤ 2097153) (ts : List Tm) (bss : List (List Nat)) :
    Calls Try.prog 16 #[.pointer (some ⟨wp, 0, none⟩), .agg #[.int .i64 t.K, .int .i64 t.N, .string t.S, .string t.Z, .int .i64 t.T.K, .int .i64 t.T.N, .slice a1 l1 c1, .slice a2 l2 c2, .slice (some ⟨c, 0, none⟩) 2 c3]] wr fun e w' => e = .returned (.bool true) ∧ ∃ v', PDyn w w' wp mp v' (fs ++ [⟨c, c3, ts, bss, 0⟩]) (c :: cs) := by
  obtain ⟨X, hX⟩ : ∃ X, X = wr.alloc (.cells #[.int .i64 t.K, .int .i64 t.N, .string t.S, .string t.Z, .int .i64 t.T.K, .int .i64 t.T.N, .slice a1 l1 c1, .slice a2 l2 c2, .slice (some ⟨c, 0, none⟩) 2 c3] 35) := ⟨_, rfl⟩
  have hXb : Below wr.heap.size wr X := by rw [hX]; exact (Below.refl _ _).alloc (Nat.le_refl _) _
  have hX1 : X.heap[wr.heap.size]? = some (.cells #[.int .i64 t.K, .int .i64 t.N, .string t.S, .string t.Z, .int .i64 t.T.K, .int .i64 t.T.N, .slice a1 l1 c1, .slice a2 l2 c2, .slice (some ⟨c, 0, none⟩) 2 c3] 35 (0, 0)) := by rw [hX]; exact heap_new rfl
  have hXs : X.heap.size = wr.heap.size + 1 := by rw [hX]; simp
  have HX : Hid (X = _) := hX
  clear hX
  have hwl : wp < wr.heap.size := (Array.getElem?_eq_some_iff.1 hD.box).1
  go_enter Try.func16, Try.ntmps16
  go_wp2_with fail
  rw [← HX.out]
  refine (isValue_any D d 0 wr.heap.size t _ _ _ _ _ _ _ _ _ X hXb.size (Fm.below hXb (Nat.le_refl _) hf)).mono ?_
  rintro e w1 ⟨rfl, hb1⟩
  rw [hv]
  have hbw1 : Below wr.heap.size wr w1 := hXb.trans (hb1.mono hXb.size)
  have y1 := (hb1.block wr.heap.size (by omega)).trans hX1
  have hz1 := hb1.size
  obtain ⟨f0, f1, f2, f3, f4, f5, f6, f7, f8⟩ := Nine.box y1
  have hk : ((t.K != 9) && (t.K != 13)) = false := by rcases hp with h | h <;> simp [h]
  cases h9 : (t.K != 9)
  case' true => have h13 : (t.K != 13) = false := by simpa [h9] using hk
  all_goals
    clear hk hp
    go_wp2_with fail
    refine (placeOf_any c c3 w1).mono ?_
    rintro e w2 ⟨rfl, hb2⟩
    have hz2 := hb2.size
    have hbw2 : Below wr.heap.size wr w2 := hbw1.trans (hb2.mono hbw1.size)
    have y2 := (hb2.block wr.heap.size (by omega)).trans y1
    clear f0 f1 f2 f3 f4 f5 f6 f7 f8
    unfold keyP
    obtain ⟨Y, hY⟩ : ∃ Y, Y = w2.alloc (.cells #[.pointer (some ⟨c, 0, none⟩), .int .i64 2] 56) := ⟨_, rfl⟩
    have hYb : Below w2.heap.size w2 Y := by rw [hY]; exact (Below.refl _ _).alloc (Nat.le_refl _) _
    have hYs : Y.heap.size = w2.heap.size + 1 := by rw [hY]; simp
    have hYk : Y.heap[w2.heap.size]? = some (.cells #[.pointer (some ⟨c, 0, none⟩), .int .i64 2] 56 (0, 0)) := by rw [hY]; exact heap_new rfl
    have hYt := (hYb.block wr.heap.size (by omega)).trans y2
    have hDY : PDyn w Y wp mp v fs cs := p_below hD (hbw2.trans (hYb.mono hbw2.size))
    have HY : Hid (Y = _) := hY
    clear hY
    go_wp2_with fail
    rw [← HY.out]
    have hlk := p_look (p_below hDY (Below.refl _ _).drew) c hc hfr
    unfold keyP at hlk
    have b0 := row_cell hDY.box 0
    have b1 := row_cell hDY.box 1
    have k0 := row_cell hYk 0
    have k1 := row_cell hYk 1
    go_region
    go_wp2_with fail
    have hD1 : PDyn w Y.drew wp mp v fs cs := p_below hDY (Below.refl _ _).drew
    have hK1 : Y.drew.heap[w2.heap.size]? = some (.cells #[.pointer (some ⟨c, 0, none⟩), .int .i64 2] 56 (0, 0)) := hYk
    have hT1 : Y.drew.heap[wr.heap.size]? = some (.cells #[.int .i64 t.K, .int .i64 t.N, .string t.S, .string t.Z, .int .i64 t.T.K, .int .i64 t.T.N, .slice a1 l1 c1, .slice a2 l2 c2, .slice (some ⟨c, 0, none⟩) 2 c3] 35 (0, 0)) := hYt
    clear hlk b0 b1 k0 k1 hDY hYk hYt hYb hYs HY
    generalize Y.drew = Y1 at *
    obtain ⟨Z, hup, hDZ, hZo, hZs⟩ := p_key (p_below hD1 (Below.refl _ _).drew) c hfr (.int .i64 1)
    unfold keyP at hup
    have hne := p_apart hD1
    have hTZ : Z.heap[wr.heap.size]? = some (.cells #[.int .i64 t.K, .int .i64 t.N, .string t.S, .string t.Z, .int .i64 t.T.K, .int .i64 t.T.N, .slice a1 l1 c1, .slice a2 l2 c2, .slice (some ⟨c, 0, none⟩) 2 c3] 35 (0, 0)) := (hZo _ (by
      intro e
      obtain ⟨es, cl, hm, _⟩ := hD1.map
      rw [← e, hT1] at hm; cases hm)).trans hT1
    have b1 := row_cell hD1.box 1
    have k0 := row_cell hK1 0
    have k1 := row_cell hK1 1
    go_region
    go_wp2_with fail
    clear b1 k0 k1 hup hD1 hK1 hT1 hZo hZs
    obtain ⟨g, cap, W2, hrun, hDW, hWo, hWb, hWx⟩ := p_push (p_below hDZ (Below.refl _ _).drew) hsz ⟨c, c3, ts, bss, 0⟩
    have hpl : wr.heap.size < Z.heap.size := (Array.getElem?_eq_some_iff.1 hTZ).1
    have hvT : v.ownBlock ≠ some wr.heap.size := fun e => by
      obtain ⟨_, cur, fr, e1⟩ := own_cells hDZ.row e
      rw [hTZ] at e1; cases e1
    have hTW : W2.heap[wr.heap.size]? = some (.cells #[.int .i64 t.K, .int .i64 t.N, .string t.S, .string t.Z, .int .i64 t.T.K, .int .i64 t.T.N, .slice a1 l1 c1, .slice a2 l2 c2, .slice (some ⟨c, 0, none⟩) 2 c3] 35 (0, 0)) := (hWo _ hpl hvT).trans hTZ
    have hwl2 : wp < Z.heap.size := (Array.getElem?_eq_some_iff.1 hDZ.box).1
    have S0 : Z.cell? ⟨wp, 0, none⟩ = some v ∧ Z.frozen? ⟨wp, 0, none⟩ = false ∧ Z.cell? ⟨wr.heap.size, 8, none⟩ = some (.slice (some ⟨c, 0, none⟩) 2 c3) := ⟨row_cell hDZ.box 0, row_free hDZ.box 0, row_cell hTZ 8⟩
    have SA : Hid (∀ o, (Z.alloc o).cell? ⟨wp, 0, none⟩ = some v ∧ (Z.alloc o).frozen? ⟨wp, 0, none⟩ = false ∧ (Z.alloc o).cell? ⟨wr.heap.size, 8, none⟩ = some (.slice (some ⟨c, 0, none⟩) 2 c3)) := fun o => by
      have e1 : (Z.alloc o).heap[wp]? = _ := (Below.heap_alloc _ _ _ hwl2).trans hDZ.box
      have e2 : (Z.alloc o).heap[wr.heap.size]? = _ := (Below.heap_alloc _ _ _ hpl).trans hTZ
      exact ⟨row_cell e1 0, row_free e1 0, row_cell e2 8⟩
    have S2 : Hid (W2.cell? ⟨wp, 0, none⟩ = some v ∧ W2.frozen? ⟨wp, 0, none⟩ = false ∧ W2.cell? ⟨wr.heap.size, 8, none⟩ = some (.slice (some ⟨c, 0, none⟩) 2 c3)) := ⟨row_cell hWx 0, row_free hWx 0, row_cell hTW 8⟩
    have HR : Hid ((Builtin.append_ #[46, 46] 46 #[v, .slice (some ⟨Z.heap.size, 0, none⟩) 1 1]).run Try.prog (Z.alloc (.cells #[.slice (some ⟨c, 0, none⟩) 2 c3, .int .i64 0] 59)).drew = .ok (.slice (some ⟨g, 0, none⟩) (fs.length + 1) cap) W2) := hrun
    obtain ⟨m0, m1, m2⟩ := S0
    have n0 := fun o => (SA.out o).1
    have n1 := fun o => (SA.out o).2.1
    have n2 := fun o => (SA.out o).2.2
    obtain ⟨q0, q1, q2⟩ := S2.out
    have hrun2 := HR.out
    clear hrun hWo hWb hWx hTW
    go_region_law (refine step_run hrun2 (by rfl) _ _ (by rfl) (by rfl) (by rfl) (by rfl) ?_)
    all_goals (try go_wp2_with fail)
    all_goals
      go_ret
      exact ⟨rfl, _, hDW⟩

end Go.Proofs.Ytmjpckbpkpbkjaa
