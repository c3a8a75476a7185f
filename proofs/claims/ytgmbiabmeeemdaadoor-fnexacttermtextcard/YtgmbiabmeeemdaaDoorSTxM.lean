/-
  What the model's 'TermText' comes to: the same as the program's.
-/
import Derived.Test.YtgmbiabmeeemdaaDoorLx5
import Derived.Test.YtgmbiabmeeemdaaDoorLkM
namespace Go.Proofs.YtgmbiabmeeemdaaDoor
open Go.RowKit
set_option linter.unusedVariables false
set_option linter.unusedSimpArgs false

set_option maxRecDepth 100000 in
set_option maxHeartbeats 1000000 in
theorem sTermText_any (D d L B : Nat) (t : Tm) (a1 : Option Addr) (l1 c1 : Nat) (a2 : Option Addr) (l2 c2 : Nat) (a3 : Option Addr) (l3 c3 : Nat) (w : World) (hB : B ≤ w.heap.size) (hf : Fm L B w D d t a1 l1 a2 l2 a3 l3) :
    Calls Tryd.prog 5 #[.agg #[.int .i64 t.K, .int .i64 t.N, .string t.S, .string t.Z, .int .i64 t.T.K, .int .i64 t.T.N, .slice a1 l1 c1, .slice a2 l2 c2, .slice a3 l3 c3]] w fun e w' => e = .returned (.string ⟨(txM t).toArray⟩) ∧ Below w.heap.size w w' := by
  obtain ⟨X, hX⟩ : ∃ X, X = w.alloc (.cells #[.int .i64 t.K, .int .i64 t.N, .string t.S, .string t.Z, .int .i64 t.T.K, .int .i64 t.T.N, .slice a1 l1 c1, .slice a2 l2 c2, .slice a3 l3 c3] 35) := ⟨_, rfl⟩
  have hXs : X.heap.size = w.heap.size + 1 := by rw [hX]; simp
  have hXb : Below w.heap.size w X := by rw [hX]; exact (Below.refl _ _).alloc (Nat.le_refl _) _
  have hX1 : X.heap[w.heap.size]? = some (.cells #[.int .i64 t.K, .int .i64 t.N, .string t.S, .string t.Z, .int .i64 t.T.K, .int .i64 t.T.N, .slice a1 l1 c1, .slice a2 l2 c2, .slice a3 l3 c3] 35 (0, 0)) := by rw [hX]; exact heap_new rfl
  have hf1 := Fm.below hXb hB hf
  have HX : Hid (X = _) := hX
  clear hX
  cases hok : okM t with
  | false =>
    have HE : Hid (txM t = []) := by show _ = _; simp [txM, hok]
    have HF : Hid (okM t = false) := hok
    clear hok
    go_enter Tryd.func5, Tryd.ntmps5
    go_wp2_with fail
    rw [← HX.out]
    refine (sTermOk_any D d L B t _ _ _ _ _ _ _ _ _ _ (by omega) hf1).mono ?_
    rintro e w1 ⟨rfl, hb1⟩
    rw [HF.out]
    go_wp2_with fail
    go_ret
    exact ⟨by rw [HE.out]; rfl, hXb.trans (hb1.mono (by omega))⟩
  | true =>
    obtain ⟨m, hm, hm6⟩ := okM_le hok
    have HE : Hid (txM t = Lib.join (toksM 24 t) [32]) := by show _ = _; simp [txM, hok]
    have HF : Hid (okM t = true) := hok
    have HM : Hid (nodesM 24 t = some m) := hm
    clear hok hm
    go_enter Tryd.func5, Tryd.ntmps5
    go_wp2_with fail
    rw [← HX.out]
    refine (sTermOk_any D d L B t _ _ _ _ _ _ _ _ _ _ (by omega) hf1).mono ?_
    rintro e w1 ⟨rfl, hb1⟩
    rw [HF.out]
    have hz1 := hb1.size
    have hbw1 : Below w.heap.size w w1 := hXb.trans (hb1.mono (by omega))
    obtain ⟨f0, f1, f2, f3, f4, f5, f6, f7, f8⟩ := Nine.box ((hb1.block _ (by omega)).trans hX1)
    go_wp2_with fail
    refine (lx_any 24 D d L B t a1 l1 c1 a2 l2 c2 a3 l3 c3 m w1 (by omega) (Fm.below hbw1 hB hf) HM.out (by omega)).mono ?_
    rintro e w2 ⟨rfl, hb2⟩
    go_wp2_with fail
    go_ret
    exact ⟨by rw [HE.out]; rfl, hbw1.trans (hb2.mono (by omega))⟩

end Go.Proofs.YtgmbiabmeeemdaaDoor
