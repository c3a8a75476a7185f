/-
  'copyTerm' of the program: the same term in memory of its own.
-/
import Derived.Test.YtgckmnchlkgakaaLmaZ13
import Derived.Test.YtgckmnchlkgakaaLmaCpM
namespace Go.Proofs.Ytgckmnchlkgakaa
open Go.RowKit
set_option linter.unusedVariables false
set_option linter.unusedSimpArgs false

def SaidCt (D d : Nat) : Prop := ∀ (L B : Nat) (t : Tm) (a1 : Option Addr) (l1 c1 : Nat) (a2 : Option Addr) (l2 c2 : Nat) (a3 : Option Addr) (l3 c3 : Nat) (w : World), B ≤ w.heap.size → Fm L B w D d t a1 l1 a2 l2 a3 l3 → cntM t ≤ 1048576 →
    Calls Try.prog 67 #[.agg #[.int .i64 t.K, .int .i64 t.N, .string t.S, .string t.Z, .int .i64 t.T.K, .int .i64 t.T.N, .slice a1 l1 c1, .slice a2 l2 c2, .slice a3 l3 c3]] w fun e w' => ∃ b1 m1 e1 b2 e2 b3 e3, e = .returned (.agg #[.int .i64 t.K, .int .i64 t.N, .string t.S, .string t.Z, .int .i64 t.T.K, .int .i64 t.T.N, .slice b1 m1 e1, .slice b2 l2 e2, .slice b3 l3 e3]) ∧ Below w.heap.size w w' ∧ FmO w.heap.size w'.heap.size w' (D + 1) d t b1 m1 b2 l2 b3 l3

set_option maxRecDepth 100000 in
set_option maxHeartbeats 4000000 in
theorem ct_step (D d : Nat) (IH : ∀ e, e < d → SaidCt D e) : SaidCt D d := by
  intro L B t a1 l1 c1 a2 l2 c2 a3 l3 c3 w hB hf hc
  obtain ⟨hl3, hl3m⟩ := hf.m.len
  have HL : Hid (l3 = t.A.length) := hl3
  have hce := cntM_eq t
  have hc3 : l3 ≤ 1048576 := by have := cntMS_eq t.A; omega
  have HCA : Hid (cntMS t.A ≤ 1048576) := by show _ ≤ _; omega
  obtain ⟨X, hX⟩ : ∃ X, X = ((w.alloc (.cells #[.int .i64 t.K, .int .i64 t.N, .string t.S, .string t.Z, .int .i64 t.T.K, .int .i64 t.T.N, .slice a1 l1 c1, .slice a2 l2 c2, .slice a3 l3 c3] 36)).alloc (.cells #[.int .i64 0, .int .i64 0, .string ⟨#[]⟩, .string ⟨#[]⟩, .int .i64 0, .int .i64 0, .slice none 0 0, .slice none 0 0, .slice none 0 0] 36)) := ⟨_, rfl⟩
  have hXs : X.heap.size = w.heap.size + 2 := by rw [hX]; simp
  have hXb : Below w.heap.size w X := by rw [hX]; exact ((Below.refl _ _).alloc (Nat.le_refl _) _).alloc (by simp) _
  have hX0 : X.heap[w.heap.size]? = some (.cells #[.int .i64 t.K, .int .i64 t.N, .string t.S, .string t.Z, .int .i64 t.T.K, .int .i64 t.T.N, .slice a1 l1 c1, .slice a2 l2 c2, .slice a3 l3 c3] 36 (0, 0)) := by rw [hX, Below.heap_alloc _ _ _ (by simp)]; exact heap_new rfl
  have hX1 : X.heap[w.heap.size + 1]? = some (.cells #[.int .i64 0, .int .i64 0, .string ⟨#[]⟩, .string ⟨#[]⟩, .int .i64 0, .int .i64 0, .slice none 0 0, .slice none 0 0, .slice none 0 0] 36 (0, 0)) := by rw [hX]; exact heap_new (by simp)
  have hfX := Fm.below hXb hB hf
  have HX : Hid (X = _) := hX
  have HXS : Hid (X.heap.size = w.heap.size + 2) := hXs
  clear hX hce hl3
  go_enter Try.func67, Try.ntmps67
  go_wp2_with fail
  rw [← HX.out]
  refine (copyHead_any D d L B t _ _ _ _ _ _ _ _ _ X (by omega) hfX hc).mono ?_
  rintro e w1 ⟨b1, m1, e1, b2, e2, M, rfl, hb1, hM1, hM2, ho1, ho2⟩
  have hz1 := hb1.size
  have hbw1 : Below w.heap.size w w1 := hXb.trans (hb1.mono (by omega))
  have x0 := (hb1.block w.heap.size (by omega)).trans hX0
  have x1 := (hb1.block (w.heap.size + 1) (by omega)).trans hX1
  obtain ⟨h, hh⟩ : ∃ h, h = w1.heap.size := ⟨_, rfl⟩
  have hhz : w.heap.size + 2 ≤ h := by omega
  obtain ⟨W, hW⟩ : ∃ W, W = w1.alloc (.cells #[.int .i64 t.K, .int .i64 t.N, .string t.S, .string t.Z, .int .i64 t.T.K, .int .i64 t.T.N, .slice b1 m1 e1, .slice b2 l2 e2, .slice none 0 0] 36) := ⟨_, rfl⟩
  have hWb : Below w1.heap.size w1 W := by rw [hW]; exact (Below.refl _ _).alloc (Nat.le_refl _) _
  have hW0 : W.heap[h]? = some (.cells #[.int .i64 t.K, .int .i64 t.N, .string t.S, .string t.Z, .int .i64 t.T.K, .int .i64 t.T.N, .slice b1 m1 e1, .slice b2 l2 e2, .slice none 0 0] 36 (0, 0)) := by rw [hW]; exact heap_new hh
  have hWs : W.heap.size = h + 1 := by rw [hW, hh]; simp
  have HW : Hid (W = _) := hW
  have HH : Hid (h = w1.heap.size) := hh
  have xw0 := (hWb.block w.heap.size (by omega)).trans x0
  have hWh : Below h w1 W := by rw [hh]; exact hWb
  have HO : Hid (OwR X.heap.size M w1 (D + 1) b1 m1 t.T.A ∧ OwR M w1.heap.size w1 (D + 1) b2 l2 t.Ts ∧ X.heap.size ≤ M ∧ M ≤ w1.heap.size) := ⟨ho1, ho2, hM1, hM2⟩
  have HX01 : Hid (w1.heap[w.heap.size]? = some (.cells #[.int .i64 t.K, .int .i64 t.N, .string t.S, .string t.Z, .int .i64 t.T.K, .int .i64 t.T.N, .slice a1 l1 c1, .slice a2 l2 c2, .slice a3 l3 c3] 36 (0, 0)) ∧ w1.heap[w.heap.size + 1]? = some (.cells #[.int .i64 0, .int .i64 0, .string ⟨#[]⟩, .string ⟨#[]⟩, .int .i64 0, .int .i64 0, .slice none 0 0, .slice none 0 0, .slice none 0 0] 36 (0, 0))) := ⟨x0, x1⟩
  obtain ⟨f0, f1, f2, f3, f4, f5, f6, f7, f8⟩ := Nine.box x0
  have hltx : w.heap.size < w1.heap.size := by omega
  clear hW hh ho1 ho2 hX0 hX1 x1 hfX
  go_wp2_with fail
  rw [← HW.out, ← HH.out]
  clear f0 f1 f2 f3 f4 f5 f6 f7 f8
  have hAp : ApRelM (h + 1) W (D + 1) (d - 1) (.slice none 0 0) 0 t.A := apm_nil _ _ _ _ _
  go_loopw [11] (fun i wr => ∃ (j : Nat) (aj : Option Addr) (cj : Nat), j ≤ l3 ∧ i = .int .i64 j ∧ wr.heap[h]? = some (.cells #[.int .i64 t.K, .int .i64 t.N, .string t.S, .string t.Z, .int .i64 t.T.K, .int .i64 t.T.N, .slice b1 m1 e1, .slice b2 l2 e2, .slice aj j cj] 36 (0, 0)) ∧ ApRelM (h + 1) wr (D + 1) (d - 1) (.slice aj j cj) j t.A ∧ Below h w1 wr) (fun i _ => l3 - (intOf i).toNat)
  case atStart =>
    exact ⟨0, none, 0, by omega, by first | rfl | simp [HH.out], hW0, hAp, hWh⟩
  case round =>
    obtain ⟨j, aj, cj, hj, rfl, hrow, hap, hbr⟩ := hrel
    have hhr := (Array.getElem?_eq_some_iff.1 hrow).1
    by_cases hlt : j < l3
    · have hlt' : j < t.A.length := by have := HL.out; omega
      have hbw : Below w.heap.size w wr := hbw1.trans (hbr.mono (by omega))
      obtain ⟨b, o, rfl, _, hbB, q1, n1, k1, q2, n2, k2, q3, n3, k3, h9, hf1⟩ := hf.m.get j hlt'
      obtain ⟨e0, e1', e2', e3, e4, e5, e6, e7, e8⟩ := h9.below hbw (by omega)
      obtain ⟨P, hP⟩ : ∃ P, P = wr.alloc (.cells #[.int .i64 t.A[j].K, .int .i64 t.A[j].N, .string t.A[j].S, .string t.A[j].Z, .int .i64 t.A[j].T.K, .int .i64 t.A[j].T.N, .slice q1 n1 k1, .slice q2 n2 k2, .slice q3 n3 k3] 36) := ⟨_, rfl⟩
      have hPb : Below wr.heap.size wr P := by rw [hP]; exact (Below.refl _ _).alloc (Nat.le_refl _) _
      have hPs : P.heap.size = wr.heap.size + 1 := by rw [hP]; simp
      have hP0 : P.heap[wr.heap.size]? = some (.cells #[.int .i64 t.A[j].K, .int .i64 t.A[j].N, .string t.A[j].S, .string t.A[j].Z, .int .i64 t.A[j].T.K, .int .i64 t.A[j].T.N, .slice q1 n1 k1, .slice q2 n2 k2, .slice q3 n3 k3] 36 (0, 0)) := by rw [hP]; exact heap_new rfl
      have hPh := (hPb.block h hhr).trans hrow
      have hfP : Fm L B P.drew D (d - 1) t.A[j] q1 n1 q2 n2 q3 n3 := Fm.drew (Fm.below hPb (by omega) (Fm.below hbw hB hf1))
      have hcj : cntM t.A[j] ≤ 1048576 := by have := cntMS_get t.A j hlt'; have := HCA.out; omega
      have hapP : ApRelM (h + 1) P.drew (D + 1) (d - 1) (.slice aj j cj) j t.A := apm_below hap (hPb.drew)
      have hPw1 : Below h w1 P.drew := (hbr.trans (hPb.mono (by omega))).drew
      have APR : Hid (∀ (w2 : World) (r1 : Option Addr) (s1 u1 : Nat) (r2 : Option Addr) (s2 u2 : Nat) (r3 : Option Addr) (s3 u3 : Nat), Below P.drew.heap.size P.drew w2 → FmO P.drew.heap.size w2.heap.size w2 (D + 1) (d - 1) t.A[j] r1 s1 r2 s2 r3 s3 →
          ∃ g cp w3, (Builtin.append_ #[34, 34] 34 #[.slice aj j cj, .slice (some ⟨w2.heap.size, 0, none⟩) 1 1]).run Try.prog (w2.alloc (.cells #[.int .i64 t.A[j].K, .int .i64 t.A[j].N, .string t.A[j].S, .string t.A[j].Z, .int .i64 t.A[j].T.K, .int .i64 t.A[j].T.N, .slice r1 s1 u1, .slice r2 s2 u2, .slice r3 s3 u3] 36)) = .ok (.slice (some ⟨g, 0, none⟩) (j + 1) cp) w3 ∧
            w3.cell? ⟨h, 8, none⟩ = some (.slice aj j cj) ∧ w3.frozen? ⟨h, 8, none⟩ = false ∧
            (w3.setCell ⟨h, 8, none⟩ (.slice (some ⟨g, 0, none⟩) (j + 1) cp)).heap[h]? = some (.cells #[.int .i64 t.K, .int .i64 t.N, .string t.S, .string t.Z, .int .i64 t.T.K, .int .i64 t.T.N, .slice b1 m1 e1, .slice b2 l2 e2, .slice (some ⟨g, 0, none⟩) (j + 1) cp] 36 (0, 0)) ∧
            ApRelM (h + 1) (w3.setCell ⟨h, 8, none⟩ (.slice (some ⟨g, 0, none⟩) (j + 1) cp)) (D + 1) (d - 1) (.slice (some ⟨g, 0, none⟩) (j + 1) cp) (j + 1) t.A ∧ Below h w1 (w3.setCell ⟨h, 8, none⟩ (.slice (some ⟨g, 0, none⟩) (j + 1) cp))) := by
        intro w2 r1 s1 u1 r2 s2 u2 r3 s3 u3 hb2 ho2
        obtain ⟨g, cp, w3, hrun, hap3, hbe3⟩ := apm_run (c1 := u1) (c2 := u2) (c3 := u3) hapP hlt' (by omega) hb2 (show h + 1 ≤ P.heap.size by omega) ho2
        have hq : w3.heap[h]? = _ := (hbe3.block h (by omega)).trans hPh
        refine ⟨g, cp, w3, hrun, row_cell hq 8, row_free hq 8, ?_, apm_set hap3 (by omega) _, (hPw1.trans (hbe3.mono (by omega))).setCell (p := ⟨h, 8, none⟩) (Nat.le_refl _) _⟩
        rw [row_set hq]
        rfl
      have y8 : P.cell? ⟨h, 8, none⟩ = some (.slice aj j cj) := row_cell hPh 8
      obtain ⟨g0, g1, g2, g3, g4, g5, g6, g7, g8⟩ := Nine.box hP0
      have HP : Hid (P = _) := hP
      have hBP : B ≤ P.heap.size := by omega
      have hhP : h < P.heap.size := by omega
      have hrP : wr.heap.size < P.heap.size := by omega
      have IHj := IH (d - 1) (pos_d hf.m hlt') L B t.A[j]
      clear hP h9 hf1 hapP hPw1 hap hrow hPh hP0 hPs IH
      go_wp2_with fail
      rw [← HP.out]
      clear e0 e1' e2' e3 e4 e5 e6 e7 e8
      go_region_law (first | (refine step_run hrun (by rfl) _ _ (by rfl) (by rfl) (by rfl) (by rfl) ?_) | (go_simp; go_at_call 67; refine (IHj _ _ _ _ _ _ _ _ _ P.drew hBP hfP hcj).mono ?_; rintro e w2 ⟨r1, s1, u1, r2, u2, r3, u3, rfl, hb2, ho2⟩; have hz2 : h < w2.heap.size := Nat.lt_of_lt_of_le hhP hb2.size; have v8 := (bcell hb2 hhP 8).trans y8; have v9 : (w2.alloc (.cells #[.int .i64 t.A[j].K, .int .i64 t.A[j].N, .string t.A[j].S, .string t.A[j].Z, .int .i64 t.A[j].T.K, .int .i64 t.A[j].T.N, .slice r1 s1 u1, .slice r2 n2 u2, .slice r3 n3 u3] 36)).cell? ⟨h, 8, none⟩ = some (.slice aj j cj) := (World.cell?_of_block (Below.heap_alloc _ _ _ hz2)).trans v8; obtain ⟨g, cp, w3, hrun, hc8, hf8, hrow3, hap3, hbr3⟩ := APR.out w2 r1 s1 u1 r2 n2 u2 r3 n3 u3 hb2 ho2))
      all_goals
        clear g0 g1 g2 g3 g4 g5 g6 g7 g8 y8 v8 v9 hrun hc8 hf8
        go_wp2_with fail
        go_roundw
        case rel => exact ⟨j + 1, _, _, by omega, by go_num, hrow3, hap3, hbr3⟩
        case measure => simp [intOf]; omega
    · have hjl : j = l3 := by omega
      have HJ : Hid (j = l3) := hjl
      have hbw : Below w.heap.size w wr := hbw1.trans (hbr.mono (by omega))
      have xr := (hbr.block (w.heap.size + 1) (by omega)).trans HX01.out.2
      obtain ⟨p0, p1, p2, p3, p4, p5, p6, p7, p8⟩ := Nine.box xr
      have pf := row_free xr
      obtain ⟨q0, q1, q2, q3, q4, q5, q6, q7, q8⟩ := Nine.box hrow
      clear hjl
      go_wp2_with fail
      obtain ⟨Y, hYe⟩ : ∃ Y, Y = set9 wr (w.heap.size + 1) 0 (.int .i64 t.K) (.int .i64 t.N) (.string t.S) (.string t.Z) (.int .i64 t.T.K) (.int .i64 t.T.N) (.slice b1 m1 e1) (.slice b2 l2 e2) (.slice aj j cj) := ⟨_, rfl⟩
      have hYb : Below w.heap.size w Y := by rw [hYe]; exact set9_below hbw (by omega)
      have hYs : Y.heap.size = wr.heap.size := by rw [hYe]; exact set9_size _ _ _ _ _ _ _ _ _ _ _ _
      have hYo : ∀ k, k ≠ w.heap.size + 1 → Y.heap[k]? = wr.heap[k]? := fun k hk => by rw [hYe]; exact set9_other k hk
      refine bodyPost_ret (v := .agg #[.int .i64 t.K, .int .i64 t.N, .string t.S, .string t.Z, .int .i64 t.T.K, .int .i64 t.T.N, .slice b1 m1 e1, .slice b2 l2 e2, .slice aj j cj]) (by simp [results, Try.results67, go_sem, p0, p1, p2, p3, p4, p5, p6, p7, p8]) rfl ?_
      have hfin : ∃ b1' m1' e1' b2' e2' b3' e3', Ending.returned (.agg #[.int .i64 t.K, .int .i64 t.N, .string t.S, .string t.Z, .int .i64 t.T.K, .int .i64 t.T.N, .slice b1 m1 e1, .slice b2 l2 e2, .slice aj j cj]) = .returned (.agg #[.int .i64 t.K, .int .i64 t.N, .string t.S, .string t.Z, .int .i64 t.T.K, .int .i64 t.T.N, .slice b1' m1' e1', .slice b2' l2 e2', .slice b3' l3 e3']) ∧ Below w.heap.size w Y ∧ FmO w.heap.size Y.heap.size Y (D + 1) d t b1' m1' b2' l2 b3' l3 := by
        have hjl := HJ.out
        subst hjl
        obtain ⟨o1, o2, oM1, oM2⟩ := HO.out
        have hh := HH.out
        obtain ⟨a', c', ev, hoA⟩ := apm_whole hap hf.m
        injection ev with ev1 _ ev3
        subst ev1
        subst ev3
        have hXs := HXS.out
        refine ⟨b1, m1, e1, b2, e2, aj, cj, rfl, hYb, FmO.mk (L := w.heap.size) (M1 := M) (M2 := w1.heap.size) hf.s hf.z ?_ ?_ ?_ (by omega) (by omega) (by omega)⟩
        · exact o1.keep (fun k hk1 hk2 => (hYo k (by omega)).trans (hbr.block k (by omega))) (by omega) (Nat.le_refl _)
        · exact o2.keep (fun k hk1 hk2 => (hYo k (by omega)).trans (hbr.block k (by omega))) (Nat.le_refl _) (Nat.le_refl _)
        · exact hoA.keep (fun k hk1 hk2 => hYo k (by omega)) (by omega) (by omega)
      rw [hYe] at hfin
      exact hfin

theorem ct_any (D : Nat) : ∀ d, SaidCt D d := by
  intro d
  induction d using Nat.strongRecOn with
  | ind d ih => exact ct_step D d ih

end Go.Proofs.Ytgckmnchlkgakaa
