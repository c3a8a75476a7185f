/-
  The model's 'l6All', 'l6Lambdas', 'Lambdas'.
-/
import Derived.Test.YtgckmnchlkgakaaLmaLm20
import Derived.Test.YtgckmnchlkgakaaLmaZ8
import Derived.Test.YtgckmnchlkgakaaLmaTro
import Derived.Test.YtgckmnchlkgakaaLmaZ10
import Derived.Test.YtgckmnchlkgakaaLmaZ6
import Derived.Deep.RegionHeld3
import Derived.Deep.RegionLaw
import Derived.Sort.AtCall
import Derived.LoopN
import Derived.Test.YtgckmnchlkgakaaLmaLkM
namespace Go.Proofs.Ytgckmnchlkgakaa
open Go.RowKit
set_option linter.unusedVariables false
set_option linter.unusedSimpArgs false

theorem filter_take {X : List Tm} {j : Nat} (hj : j < X.length) : (X.take (j + 1)).filter isFn = (X.take j).filter isFn ++ (if X[j].K = 4 then [X[j]] else []) := by
  rw [List.take_succ_eq_append_getElem hj, List.filter_append]
  congr 1
  by_cases h : X[j].K = 4
  · simp [isFn, h]
  · simp [isFn, h]

set_option maxRecDepth 100000 in
set_option maxHeartbeats 2000000 in
theorem l6Lambdas_any (D d L B : Nat) (t : Tm) (a1 : Option Addr) (l1 c1 : Nat) (a2 : Option Addr) (l2 c2 : Nat) (a3 : Option Addr) (l3 c3 : Nat) (w : World) (hB : B ≤ w.heap.size) (hf : Fm L B w D d t a1 l1 a2 l2 a3 l3) :
    Calls Try.prog 48 #[.agg #[.int .i64 t.K, .int .i64 t.N, .string t.S, .string t.Z, .int .i64 t.T.K, .int .i64 t.T.N, .slice a1 l1 c1, .slice a2 l2 c2, .slice a3 l3 c3]] w fun e w' => ∃ v, e = .returned v ∧ Below w.heap.size w w' ∧ TRow L B w.heap.size w' D d v (lamT t) := by
  obtain ⟨W, hW⟩ : ∃ W, W = (w.alloc (.cells #[.int .i64 t.K, .int .i64 t.N, .string t.S, .string t.Z, .int .i64 t.T.K, .int .i64 t.T.N, .slice a1 l1 c1, .slice a2 l2 c2, .slice a3 l3 c3] 36)).alloc (.cells #[] 36) := ⟨_, rfl⟩
  have hWs : W.heap.size = w.heap.size + 2 := by rw [hW]; simp
  have hWb : Below w.heap.size w W := by rw [hW]; exact ((Below.refl _ _).alloc (Nat.le_refl _) _).alloc (by simp) _
  have hW0 : W.heap[w.heap.size]? = some (.cells #[.int .i64 t.K, .int .i64 t.N, .string t.S, .string t.Z, .int .i64 t.T.K, .int .i64 t.T.N, .slice a1 l1 c1, .slice a2 l2 c2, .slice a3 l3 c3] 36 (0, 0)) := by rw [hW, Below.heap_alloc _ _ _ (by simp)]; exact heap_new rfl
  have hW1 : W.heap[w.heap.size + 1]? = some (.cells #[] 36 (0, 0)) := by rw [hW]; exact heap_new (by simp)
  have HW : Hid (W = _) := hW
  have HS : Hid (W.heap.size = w.heap.size + 2) := hWs
  have hfW := Fm.below hWb hB hf
  clear hW hWs
  cases hq : okM t
  · have HQ : Hid (okM t = false) := hq
    have HT : Hid (lamT t = []) := by show _ = _; simp [lamT, hq]
    clear hq
    go_enter Try.func48, Try.ntmps48
    go_wp2_with fail
    rw [← HW.out]
    refine (sTermOk_any D d L B t _ _ _ _ _ _ _ _ _ _ (by have := HS.out; omega) hfW).mono ?_
    rintro e w1 ⟨rfl, hb1⟩
    rw [HQ.out]
    have x1 := (hb1.block (w.heap.size + 1) (by have := HS.out; omega)).trans hW1
    have hbw : Below w.heap.size w w1 := hWb.trans (hb1.mono (by have := HS.out; omega))
    go_wp2_with fail
    go_ret
    exact ⟨_, rfl, hbw, by rw [HT.out]; exact trow_emp x1 (by omega)⟩
  · have HQ : Hid (okM t = true) := hq
    have HT : Hid (lamT t = (allW t).filter isFn) := by show _ = _; simp [lamT, hq]
    obtain ⟨m, hm, hm6⟩ := okM_some hq
    have hAl := allW_len 24 t m hm
    clear hq
    go_enter Try.func48, Try.ntmps48
    go_wp2_with fail
    rw [← HW.out]
    refine (sTermOk_any D d L B t _ _ _ _ _ _ _ _ _ _ (by have := HS.out; omega) hfW).mono ?_
    rintro e w1 ⟨rfl, hb1⟩
    rw [HQ.out]
    have x1 := (hb1.block (w.heap.size + 1) (by have := HS.out; omega)).trans hW1
    have x0 := (hb1.block w.heap.size (by have := HS.out; omega)).trans hW0
    have hbw : Below w.heap.size w w1 := hWb.trans (hb1.mono (by have := HS.out; omega))
    have hz1 : w.heap.size + 2 ≤ w1.heap.size := by have := HS.out; have := hb1.size; omega
    obtain ⟨f0, f1, f2, f3, f4, f5, f6, f7, f8⟩ := Nine.box x0
    have hba : Below w.heap.size w (w1.alloc (.cells #[] 36)) := hbw.alloc (by omega) _
    have hx1a := (((Below.refl _ w1).alloc (Nat.le_refl _) (.cells #[] 36)).block (w.heap.size + 1) (by omega)).trans x1
    go_wp2_with fail
    refine (la_any 24 D d d L B w.heap.size t _ _ _ _ _ _ _ _ _ _ [] m _ (Nat.le_refl _) hB (by simp; omega) (Fm.below hba hB hf) hm (trow_emp (heap_new rfl) (by omega)) (by simp; omega)).mono ?_
    rintro e w2 ⟨v, rfl, hk, hTA⟩
    rw [List.nil_append] at hTA
    obtain ⟨ao, cp, rfl⟩ := trow_form hTA
    have hz2 : w1.heap.size + 1 ≤ w2.heap.size := by have := hk.size; simpa using this
    have hbw2 : Below w.heap.size w w2 := hba.trans ⟨hk.os, hk.tape, hk.output, hk.size, fun k hk2 => hk.block k (by simp; omega) (fun e => by have e1 : w1.heap.size = k := by { simpa [Value.ownBlock] using e }; omega)⟩
    have hx2 : w2.heap[w.heap.size + 1]? = some (.cells #[] 36 (0, 0)) := (hk.block (w.heap.size + 1) (by simp; omega) (fun e => by have e1 : w1.heap.size = w.heap.size + 1 := by { simpa [Value.ownBlock] using e }; omega)).trans hx1a
    have hap : Value.ownBlock (.slice ao (allW t).length cp) ≠ some (w.heap.size + 1) := fun e => by
      rcases hk.own _ e with e1 | e1
      · have e2 : w1.heap.size = w.heap.size + 1 := by simpa [Value.ownBlock] using e1
        omega
      · simp at e1; omega
    obtain ⟨A, hA⟩ : ∃ A, allW t = A := ⟨_, rfl⟩
    rw [hA] at hTA hap hAl HT ⊢
    have HTA : Hid (TRow L B w.heap.size w2 D d (.slice ao A.length cp) A) := hTA
    have HAP : Hid (_ ≠ _) := hap
    have HA : Hid (A.length = m) := hAl
    have hA6 : A.length ≤ 150 := by omega
    clear f0 f1 f2 f3 f4 f5 f6 f7 f8 hA hTA hap hAl hx1a hfW hk x1 x0 hba
    go_wp2_with fail
    go_loopw [3, 5] (fun v i wr => ∃ (j : Nat) (aj : Option Addr) (nj cj : Nat), j ≤ A.length ∧ i = .int .i64 j ∧ v = .slice aj nj cj ∧ TRow L B w.heap.size wr D d (.slice aj nj cj) ((A.take j).filter isFn) ∧ Ko (.slice (some ⟨w.heap.size + 1, 0, none⟩) 0 0) w2 (.slice aj nj cj) wr) (fun _ i _ => A.length - (intOf i).toNat)
    case atStart => exact ⟨0, _, _, _, by omega, rfl, rfl, trow_emp hx2 (by omega), Ko.of_below (Below.refl _ _)⟩
    case round =>
      obtain ⟨j, aj, nj, cj, hj, rfl, rfl, hTj, hkj⟩ := hrel
      have hzj := hkj.size
      have hbwj : Below w.heap.size w wr := hbw2.trans ⟨hkj.os, hkj.tape, hkj.output, hkj.size, fun k hk2 => hkj.block k (by omega) (fun e => by have e1 : w.heap.size + 1 = k := by { simpa [Value.ownBlock] using e }; omega)⟩
      by_cases hlt : j < A.length
      · have hTAj : TRow L B w.heap.size wr D d (.slice ao A.length cp) A := trow_keep HTA.out (fun g hg => hkj.block g (trow_own HTA.out hg).2 (fun e => HAP.out (by
            have e1 : w.heap.size + 1 = g := by simpa [Value.ownBlock] using e
            rw [e1]; exact hg))) (fun k _ hk2 => hkj.block k (by omega) (fun e => by have e1 : w.heap.size + 1 = k := by { simpa [Value.ownBlock] using e }; omega))
        obtain ⟨g, cap', e, hgb, hgw, b1, m1, d1, b2, m2, d2, b3, m3, d3, h9, hfj⟩ := trow_at hTAj j hlt
        injection e with e1 e2 e3
        subst e1
        subst e3
        have HF := filter_take hlt
        obtain ⟨e0, e1, e2', e3, e4, e5, e6, e7, e8⟩ := h9
        by_cases h4 : A[j].K = 4
        · rw [if_pos h4] at HF
          have HF' : Hid (_ = _) := HF
          obtain ⟨n0, hn0⟩ : ∃ n, ((A.take j).filter isFn).length = n := ⟨_, rfl⟩
          have hnj : nj = n0 := by
            obtain ⟨aq, cq, eq⟩ := trow_form hTj
            injection eq with _ eq2 _
            omega
          have hn6 : n0 ≤ 150 := by have := List.length_filter_le isFn (A.take j); rw [List.length_take] at this; omega
          obtain ⟨g3, cp3, w3, hrun, hT3, hk3⟩ := trow_push hTj (by omega) hB (by omega) (c1 := d1) (c2 := d2) (c3 := d3) hfj
          rw [hn0] at hrun hT3 hk3
          rw [← HF] at hT3
          have hkn := hkj.trans hk3
          have HR : Hid ((Builtin.append_ #[34, 34] 34 #[.slice aj nj cj, .slice (some ⟨wr.heap.size, 0, none⟩) 1 1]).run Try.prog (wr.alloc (.cells #[.int .i64 4, .int .i64 A[j].N, .string A[j].S, .string A[j].Z, .int .i64 A[j].T.K, .int .i64 A[j].T.N, .slice b1 m1 d1, .slice b2 m2 d2, .slice b3 m3 d3] 36)) = .ok (.slice (some ⟨g3, 0, none⟩) (n0 + 1) cp3) w3) := by rw [h4] at hrun; exact hrun
          rw [h4] at e0
          clear HF hn0 hnj hrun hk3 hkj hTj h4 hTAj e2
          go_wp2_with (at_builtin; refine list_run HR.out (by rfl) _ _ (by rfl) (by rfl) (by rfl) (by rfl) ?_)
          go_roundw
          case rel => exact ⟨j + 1, _, _, _, by omega, by go_num, rfl, hT3, hkn⟩
          case measure => simp [intOf]; omega
        · rw [if_neg h4, List.append_nil] at HF
          have b4 : (A[j].K == 4) = false := by simp [h4]
          rw [← HF] at hTj
          clear HF h4 hTAj e2
          go_wp2_with fail
          go_roundw
          case rel => exact ⟨j + 1, _, _, _, by omega, by go_num, rfl, hTj, hkj⟩
          case measure => simp [intOf]; omega
      · have HK : Hid (lamT t = (A.take j).filter isFn) := by show _ = _; rw [HT.out, List.take_of_length_le (by omega)]
        go_wp2_with fail
        go_ret
        exact ⟨_, rfl, hbwj, by rw [HK.out]; exact hTj⟩

end Go.Proofs.Ytgckmnchlkgakaa
