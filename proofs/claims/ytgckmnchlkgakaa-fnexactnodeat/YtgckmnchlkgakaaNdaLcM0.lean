/-
  The model's 'l2CopyTys', 'l2Copy': the same in memory of its own.
-/
import Derived.Test.YtgckmnchlkgakaaNdaZ13
import Derived.Test.YtgckmnchlkgakaaNdaLc
namespace Go.Proofs.Ytgckmnchlkgakaa
open Go.RowKit
set_option linter.unusedVariables false
set_option linter.unusedSimpArgs false

theorem ap_emp {base : Nat} {w : World} {d b : Nat} (ts : List Tr) (h : w.heap[b]? = some (.cells #[] 33 (0, 0))) (hb : base ≤ b) : ApRel base w d (.slice (some ⟨b, 0, none⟩) 0 0) 0 ts :=
  ⟨[], ⟨by simp, Or.inr ⟨b, 0, #[], by simp, hb, h, by simp, by simp, by simp, by simp⟩⟩, [], rfl, by simp, by simp, fun i hi => by simp at hi⟩


set_option maxRecDepth 100000 in
set_option maxHeartbeats 2000000 in
theorem l2CopyTys_any (D L B : Nat) (ao : Option Addr) (len cap : Nat) (ts : List Tr) (w : World) (hB : B ≤ w.heap.size) (hs0 : Hs L B w D ao len ts) (hcnt : cntS ts ≤ 1048576) :
    Calls Try.prog 66 #[.slice ao len cap] w fun e w' => ∃ ao2 cap2, e = .returned (.slice ao2 len cap2) ∧ Below w.heap.size w w' ∧ OwR w.heap.size w'.heap.size w' (D + 1) ao2 len ts := by
  have hs : Hs L B w (D + 1) ao len ts := hs0.deeper (by omega)
  have hl : len ≤ 1048576 := by have := hs.1; have := cntS_eq ts; omega
  have HL : Hid (len = ts.length) := hs.1
  obtain ⟨W, hW⟩ : ∃ W, W = w.alloc (.cells #[] 33) := ⟨_, rfl⟩
  have hWb : Below w.heap.size w W := by rw [hW]; exact (Below.refl _ _).alloc (Nat.le_refl _) _
  have hW0 : W.heap[w.heap.size]? = some (.cells #[] 33 (0, 0)) := by rw [hW]; exact heap_new rfl
  have HW : Hid (W = _) := hW
  clear hW hs0
  go_enter Try.func66, Try.ntmps66
  go_wp2_with fail
  rw [← HW.out]
  go_loopw [3, 4] (fun v i wr => ∃ (j : Nat) (aj : Option Addr) (cj : Nat), j ≤ len ∧ i = .int .i64 j ∧ v = .slice aj j cj ∧ ApRel w.heap.size wr D (.slice aj j cj) j ts ∧ Below w.heap.size w wr) (fun _ i _ => len - (intOf i).toNat)
  case atStart => exact ⟨0, _, _, by omega, rfl, rfl, ap_emp ts hW0 (Nat.le_refl _), hWb⟩
  case round =>
    obtain ⟨j, aj, cj, hj, rfl, rfl, hap, hbr⟩ := hrel
    have hszr := hbr.size
    by_cases hlt : j < len
    · have hlt' : j < ts.length := by have := HL.out; omega
      obtain ⟨b, o, rfl, _, hbB, ao1, len1, cap1, c0, c1, c2, hs1⟩ := hs.2.2 j hlt'
      have e0 := (bcell hbr (by omega) _).trans c0
      have e1 := (bcell hbr (by omega) _).trans c1
      have e2 := (bcell hbr (by omega) _).trans c2
      have hs2 := hs1.below hbr hB
      have hc1 := cntS_get ts j hlt'
      have APR : Hid (∀ (w1 : World) (ao3 : Option Addr) (len3 cap3 : Nat), Below wr.heap.size wr w1 → OwR wr.heap.size w1.heap.size w1 D ao3 len3 ts[j].A → ∃ g cap w2, (Builtin.append_ #[31, 31] 31 #[.slice aj j cj, .slice (some ⟨w1.heap.size, 0, none⟩) 1 1]).run Try.prog (w1.alloc (.cells #[.int .i64 ts[j].K, .int .i64 ts[j].N, .slice ao3 len3 cap3] 33)) = .ok (.slice (some ⟨g, 0, none⟩) (j + 1) cap) w2 ∧ ApRel w.heap.size w2 D (.slice (some ⟨g, 0, none⟩) (j + 1) cap) (j + 1) ts ∧ Below w.heap.size w w2) := by
        intro w1 ao3 len3 cap3 hb1 ho1
        obtain ⟨g, cp, w2, hrun, hap2, hbe2⟩ := ap_run hap hlt' (by have := HL.out; omega) hb1 (by omega) ho1
        exact ⟨g, cp, w2, hrun, hap2, hbr.trans hbe2⟩
      clear c0 c1 c2 hs1
      go_wp2_with fail
      refine (lc_any D L B _ _ _ _ _ ts[j].A wr (by omega) hs2 (by omega)).mono ?_
      rintro e w1 ⟨ao3, len3, cap3, rfl, hb1, ho1⟩
      obtain ⟨g, cp, w2, hrun, hap2, hbr2⟩ := APR.out w1 ao3 len3 cap3 hb1 ho1
      clear e0 e1 e2
      go_wp2_with (at_builtin; refine list_run hrun (by rfl) _ _ (by rfl) (by rfl) (by rfl) (by rfl) ?_)
      clear hrun
      go_roundw
      case rel => exact ⟨j + 1, _, _, by omega, by go_num, rfl, hap2, hbr2⟩
      case measure => simp [intOf]; omega
    · have hjl : j = len := by omega
      have HJ : Hid (j = len) := hjl
      clear hjl
      go_wp2_with fail
      go_ret
      have hjl := HJ.out
      subst hjl
      obtain ⟨a', c', ev, ho⟩ := ap_done hap HL.out (by omega)
      injection ev with ev1 _ ev3
      subst ev1
      subst ev3
      exact ⟨_, _, rfl, hbr, ho⟩

end Go.Proofs.Ytgckmnchlkgakaa
