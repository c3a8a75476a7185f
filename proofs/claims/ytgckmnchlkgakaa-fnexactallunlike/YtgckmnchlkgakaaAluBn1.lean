/-
  'Binders' of the program.
-/
import Derived.Test.YtgckmnchlkgakaaAluEachB
import Derived.Test.YtgckmnchlkgakaaAluBn0
import Derived.Test.YtgckmnchlkgakaaAluLf20
import Derived.Test.YtgckmnchlkgakaaAluTq
namespace Go.Proofs.Ytgckmnchlkgakaa
open Go.RowKit
set_option linter.unusedVariables false
set_option linter.unusedSimpArgs false

/-- The row of names behind the pointer p. -/
def IB (p : Nat) (X : List Tm) (F : Nat → Prop) (w : World) : Prop :=
  ∃ v, w.heap[p]? = some (.cells #[v] 29 (0, 0)) ∧ Toks (p + 1) w v ((X.map ownB).flatten) ∧ F = fun k => k = p ∨ v.ownBlock = some k

set_option maxRecDepth 100000 in
set_option maxHeartbeats 2000000 in
theorem seeB_any (L B p D d : Nat) (hBp : B ≤ p) : SeeB L B p p D d (IB p) := by
  refine ⟨?_, ?_, ?_⟩
  · rintro X F w w' ⟨v, h1, h2, h3⟩ hb
    exact ⟨v, (hb.block p (Array.getElem?_eq_some_iff.1 h1).1).trans h1, toks_bel h2 hb, h3⟩
  · rintro X F w k ⟨v, h1, h2, rfl⟩ hk
    have hp := (Array.getElem?_eq_some_iff.1 h1).1
    rcases hk with rfl | hk
    · exact ⟨Nat.le_refl _, hp⟩
    · have := toks_own h2 hk; omega
  · rintro d' t a1 l1 c1 a2 l2 c2 a3 l3 c3 X F w hd hb ⟨v, hpb, hT, rfl⟩ hf hn hX
    have hp := (Array.getElem?_eq_some_iff.1 hpb).1
    have HL3 : Hid (l3 = t.A.length) := hf.m.len.1
    have hPl := binds_len X
    obtain ⟨N, hNe⟩ : ∃ N, ownB t = N := ⟨_, rfl⟩
    have hN2 : N.length ≤ 2 := by rw [← hNe]; exact ownB_len t
    have HXN : Hid (((X ++ [t]).map ownB).flatten = (X.map ownB).flatten ++ N) := by show _ = _; rw [← hNe]; simp
    obtain ⟨P, hP⟩ : ∃ P, (X.map ownB).flatten = P := ⟨_, rfl⟩
    rw [hP] at hT HXN hPl
    clear hP
    obtain ⟨ao, cap, rfl⟩ := toks_form hT
    obtain ⟨n, hn0⟩ : ∃ n, P.length = n := ⟨_, rfl⟩
    obtain ⟨W, hW⟩ : ∃ W, W = w.alloc (.cells #[.int .i64 t.K, .int .i64 t.N, .string t.S, .string t.Z, .int .i64 t.T.K, .int .i64 t.T.N, .slice a1 l1 c1, .slice a2 l2 c2, .slice a3 l3 c3] 36) := ⟨_, rfl⟩
    have hWs : W.heap.size = w.heap.size + 1 := by rw [hW]; simp
    have hWb : Below w.heap.size w W := by rw [hW]; exact (Below.refl _ _).alloc (Nat.le_refl _) _
    have hW0 : W.heap[w.heap.size]? = some (.cells #[.int .i64 t.K, .int .i64 t.N, .string t.S, .string t.Z, .int .i64 t.T.K, .int .i64 t.T.N, .slice a1 l1 c1, .slice a2 l2 c2, .slice a3 l3 c3] 36 (0, 0)) := by rw [hW]; exact heap_new rfl
    have HW : Hid (W = _) := hW
    have hpW := (hWb.block p hp).trans hpb
    have y0 := cell_1 hpW
    obtain ⟨f0, f1, f2, f3, f4, f5, f6, f7, f8⟩ := Nine.box hW0
    have APR : Hid (∀ (w1 : World) (xo : Option Addr) (c : Nat), Below W.drew.heap.size W.drew w1 → (0 < N.length → ∃ sb, xo = some ⟨sb, 0, none⟩ ∧ W.drew.heap.size ≤ sb ∧ w1.heap[sb]? = some (.cells (N.map tk).toArray 9 (0, 0))) →
        ∃ a' n' c' w2, (Builtin.append_ #[29, 29] 29 #[.slice ao n cap, .slice xo N.length c]).run Try.prog w1 = .ok (.slice a' n' c') w2 ∧ w2.cell? ⟨p, 0, none⟩ = some (.slice ao n cap) ∧ w2.frozen? ⟨p, 0, none⟩ = false ∧
          ∃ F', IB p (X ++ [t]) F' (w2.setCell ⟨p, 0, none⟩ (.slice a' n' c')) ∧ Kf (fun k => k = p ∨ Value.ownBlock (.slice ao n cap) = some k) w F' (w2.setCell ⟨p, 0, none⟩ (.slice a' n' c'))) := by
      intro w1 xo c hb1 hx
      have hbw : Below w.heap.size w w1 := hWb.trans ((Below.refl _ _).drew.trans (hb1.mono (show w.heap.size ≤ W.heap.size by omega)))
      have hT1 : Toks (p + 1) w1 (.slice ao P.length cap) P := toks_bel hT hbw
      have hz := hbw.size
      obtain ⟨v', w2, hrun, hT2, hgr, how⟩ := toks_join hT1 (by omega) N (by omega) xo c (fun h => by
        obtain ⟨sb, e1, _, e2⟩ := hx h
        refine ⟨sb, e1, fun j u hu => ?_⟩
        rw [Nat.zero_add, row_cell e2, List.getElem?_toArray]
        exact hu)
      rw [hn0] at hrun
      obtain ⟨a', c', rfl⟩ := toks_form hT2
      have hown : ∀ k, Value.ownBlock (.slice ao P.length cap) = some k → p < k := fun k e => by have := (toks_own hT e).1; omega
      have hp2 := (hgr.block p (by omega) (fun e => by have := hown p e.symm; omega)).trans ((hbw.block p hp).trans hpb)
      refine ⟨a', _, c', w2, hrun, by rw [← hn0]; exact cell_1 hp2, row_free hp2 0, (fun k => k = p ∨ Value.ownBlock (.slice a' (P ++ N).length c') = some k), ⟨.slice a' (P ++ N).length c', by rw [row_set hp2]; rfl, ?_, rfl⟩, ⟨?_, ?_, ?_, ?_, fun k hk hnk => ?_, fun k hk => ?_⟩⟩
      · rw [HXN.out]
        refine toks_keep hT2 fun k hk => row_other _ _ _ ?_
        have := (toks_own hT2 hk).1
        omega
      · exact hgr.os.trans hbw.os
      · exact hgr.tape.trans hbw.tape
      · exact hgr.output.trans hbw.output
      · have := hgr.size
        rw [World.size_setCell]
        omega
      · have h1 : k ≠ p := fun e => hnk (Or.inl e)
        rw [row_other _ _ _ h1]
        exact (hgr.block k (by omega) (fun e => hnk (Or.inr (by rw [← hn0]; exact e.symm)))).trans (hbw.block k hk)
      · rcases hk with hk | hk
        · exact Or.inl (Or.inl hk)
        · rcases how k hk with e | e
          · exact Or.inl (Or.inr (by rw [← hn0]; exact e))
          · exact Or.inr (by omega)
    have hltp : p < W.heap.size := by omega
    rw [hn0] at y0 ⊢
    have HNE : Hid (ownB t = N) := hNe
    clear hW hpb hpW hT hW0 hWs hn0 hPl hb hNe
    go_enter Try.func36, Try.ntmps36
    go_wp2_with fail
    rw [← HW.out]
    go_region_law (first | (refine step_run hrun (by rfl) _ _ (by rfl) (by rfl) (by rfl) (by rfl) ?_) | (go_simp; go_at_call 37; refine (namesBy_any t hn _ _ _ _ _ _ _ _ _ HL3.out N HNE.out _).mono ?_; rintro e w1 ⟨xo, c, rfl, hb1, hx⟩; have a0 := (bcell hb1 hltp 0).trans y0; obtain ⟨a', n', c', w2, hrun, q2, q3, hQ⟩ := APR.out w1 xo c hb1 hx))
    all_goals
      go_wp2_with fail
      refine bodyPost_end (v := .tuple #[]) (by simp [results, Try.results36, go_sem]) rfl ?_
      exact ⟨rfl, hQ⟩

set_option maxRecDepth 100000 in
set_option maxHeartbeats 1000000 in
theorem binders_any (D d L B : Nat) (t : Tm) (a1 : Option Addr) (l1 c1 : Nat) (a2 : Option Addr) (l2 c2 : Nat) (a3 : Option Addr) (l3 c3 : Nat) (w : World) (hB : B ≤ w.heap.size) (hf : Fm L B w D d t a1 l1 a2 l2 a3 l3) :
    Calls Try.prog 11 #[.agg #[.int .i64 t.K, .int .i64 t.N, .string t.S, .string t.Z, .int .i64 t.T.K, .int .i64 t.T.N, .slice a1 l1 c1, .slice a2 l2 c2, .slice a3 l3 c3]] w fun e w' => ∃ v, e = .returned v ∧ Below w.heap.size w w' ∧ Toks w.heap.size w' v (bndT t) := by
  obtain ⟨W, hW⟩ : ∃ W, W = (w.alloc (.cells #[.int .i64 t.K, .int .i64 t.N, .string t.S, .string t.Z, .int .i64 t.T.K, .int .i64 t.T.N, .slice a1 l1 c1, .slice a2 l2 c2, .slice a3 l3 c3] 36)).alloc (.cells #[.slice none 0 0] 29) := ⟨_, rfl⟩
  have hWs : W.heap.size = w.heap.size + 2 := by rw [hW]; simp
  have hWb : Below w.heap.size w W := by rw [hW]; exact ((Below.refl _ _).alloc (Nat.le_refl _) _).alloc (by simp) _
  have hW0 : W.heap[w.heap.size]? = some (.cells #[.int .i64 t.K, .int .i64 t.N, .string t.S, .string t.Z, .int .i64 t.T.K, .int .i64 t.T.N, .slice a1 l1 c1, .slice a2 l2 c2, .slice a3 l3 c3] 36 (0, 0)) := by rw [hW, Below.heap_alloc _ _ _ (by simp)]; exact heap_new rfl
  have hW1 : W.heap[w.heap.size + 1]? = some (.cells #[.slice none 0 0] 29 (0, 0)) := by rw [hW]; exact heap_new (by simp)
  have HW : Hid (W = _) := hW
  have HS : Hid (W.heap.size = w.heap.size + 2) := hWs
  have hfW := Fm.below hWb hB hf
  clear hW hWs
  cases hq : okM t
  · have HQ : Hid (okM t = false) := hq
    have HT : Hid (bndT t = []) := by show _ = _; simp [bndT, hq]
    clear hq
    go_enter Try.func11, Try.ntmps11
    go_wp2_with fail
    rw [← HW.out]
    refine (termOk_any D d L B t _ _ _ _ _ _ _ _ _ _ (by have := HS.out; omega) hfW).mono ?_
    rintro e w1 ⟨rfl, hb1⟩
    rw [HQ.out]
    have y1 := cell_1 ((hb1.block (w.heap.size + 1) (by have := HS.out; omega)).trans hW1)
    have hbw : Below w.heap.size w w1 := hWb.trans (hb1.mono (by have := HS.out; omega))
    go_wp2_with fail
    go_ret
    exact ⟨_, rfl, hbw, by rw [HT.out]; exact World.ownsRow_nil _ _ _ _⟩
  · have HQ : Hid (okM t = true) := hq
    have HT : Hid (bndT t = bndW t) := by show _ = _; simp [bndT, hq]
    obtain ⟨m, hm, hm6⟩ := okM_some hq
    clear hq
    go_enter Try.func11, Try.ntmps11
    go_wp2_with fail
    rw [← HW.out]
    refine (termOk_any D d L B t _ _ _ _ _ _ _ _ _ _ (by have := HS.out; omega) hfW).mono ?_
    rintro e w1 ⟨rfl, hb1⟩
    rw [HQ.out]
    have x1 := (hb1.block (w.heap.size + 1) (by have := HS.out; omega)).trans hW1
    have x0 := (hb1.block w.heap.size (by have := HS.out; omega)).trans hW0
    have hbw : Below w.heap.size w w1 := hWb.trans (hb1.mono (by have := HS.out; omega))
    have hz1 : w.heap.size + 2 ≤ w1.heap.size := by have := HS.out; have := hb1.size; omega
    obtain ⟨f0, f1, f2, f3, f4, f5, f6, f7, f8⟩ := Nine.box x0
    have hI : IB (w.heap.size + 1) [] (fun k => k = w.heap.size + 1 ∨ Value.ownBlock (.slice none 0 0) = some k) w1 := ⟨_, x1, World.ownsRow_nil _ _ _ _, rfl⟩
    go_wp2_with fail
    refine (eachB_any 24 L B (w.heap.size + 1) (w.heap.size + 1) D d (IB (w.heap.size + 1)) (seeB_any L B (w.heap.size + 1) D d (by omega)) (by omega) d t _ _ _ _ _ _ _ _ _ [] _ m w1 (Nat.le_refl _) (by omega) hI (Fm.below hbw hB hf) hm (by simp; omega)).mono ?_
    rintro e w2 ⟨rfl, F2, ⟨v, hv1, hv2, rfl⟩, hk⟩
    have y1 := cell_1 hv1
    obtain ⟨ao, cp, rfl⟩ := toks_form hv2
    obtain ⟨n3, hn3⟩ : ∃ x, (([] ++ allW t).map ownB).flatten.length = x := ⟨_, rfl⟩
    rw [hn3] at hv2 y1
    clear hn3 hv1
    have hbw2 : Below w.heap.size w w2 := hbw.trans (hk.below (fun k hk => by rcases hk with rfl | hk; omega; cases hk) (by omega))
    clear f0 f1 f2 f3 f4 f5 f6 f7 f8
    go_wp2_with fail
    go_ret
    refine ⟨_, rfl, hbw2, ?_⟩
    rw [HT.out]
    exact toks_le (base := w.heap.size + 1 + 1) hv2 (by omega)

end Go.Proofs.Ytgckmnchlkgakaa
