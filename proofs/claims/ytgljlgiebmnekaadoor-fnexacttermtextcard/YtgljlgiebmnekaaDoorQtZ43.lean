/-
  The model's 'l2Text' at every right term, and its 'TermText'.
-/
import Derived.Test.YtgljlgiebmnekaaDoorQtLx1
import Derived.Test.YtgljlgiebmnekaaDoorQtLx2
import Derived.Test.YtgljlgiebmnekaaDoorQtLx3
import Derived.Test.YtgljlgiebmnekaaDoorQtLx4
import Derived.Test.YtgljlgiebmnekaaDoorQtLkM
import Derived.LoopN
namespace Go.Proofs.YtgljlgiebmnekaaDoor
open Go.RowKit
set_option linter.unusedVariables false
set_option linter.unusedSimpArgs false

theorem lx_zero : SaidLX 0 := by
  intro D d L B t a1 l1 c1 a2 l2 c2 a3 l3 c3 m w hB hf hm
  simp [nodesM] at hm

set_option maxHeartbeats 1000000 in
theorem lx_succ (l : Nat) (IH : SaidLX l) : SaidLX (l + 1) := by
  intro D d L B t a1 l1 c1 a2 l2 c2 a3 l3 c3 m w hB hf hm hm6
  obtain ⟨hN, _⟩ := nodesM_inv2 hm
  have hk1 := hN.k1
  have hk2 := hN.k17
  have hK : t.K = 1 ∨ t.K = 2 ∨ t.K = 3 ∨ t.K = 4 ∨ t.K = 5 ∨ t.K = 6 ∨ t.K = 7 ∨ t.K = 8 ∨ t.K = 9 ∨ t.K = 10 ∨ t.K = 11 ∨ t.K = 12 ∨ t.K = 13 ∨ t.K = 14 ∨ t.K = 15 ∨ t.K = 16 ∨ t.K = 17 := by omega
  have n1 := hN.n1
  have n2 := hN.n2
  rcases hK with hK | hK | hK | hK | hK | hK | hK | hK | hK | hK | hK | hK | hK | hK | hK | hK | hK
  · exact lx_1 l IH D d L B t a1 l1 c1 a2 l2 c2 a3 l3 c3 m w hB hf hm hm6 hK
  · rw [hK] at n1 n2
    have el : shL 2 = 0 := rfl
    have em : shM 2 = 1 := rfl
    have hc : t.N = 0 ∨ t.N = 1 := by omega
    rcases hc with hc | hc
    · exact lx_2_0 l IH D d L B t a1 l1 c1 a2 l2 c2 a3 l3 c3 m w hB hf hm hm6 hK hc
    · exact lx_2_1 l IH D d L B t a1 l1 c1 a2 l2 c2 a3 l3 c3 m w hB hf hm hm6 hK hc
  · exact lx_3 l IH D d L B t a1 l1 c1 a2 l2 c2 a3 l3 c3 m w hB hf hm hm6 hK
  · exact lx_4 l IH D d L B t a1 l1 c1 a2 l2 c2 a3 l3 c3 m w hB hf hm hm6 hK
  · exact lx_5 l IH D d L B t a1 l1 c1 a2 l2 c2 a3 l3 c3 m w hB hf hm hm6 hK
  · exact lx_6 l IH D d L B t a1 l1 c1 a2 l2 c2 a3 l3 c3 m w hB hf hm hm6 hK
  · exact lx_7 l IH D d L B t a1 l1 c1 a2 l2 c2 a3 l3 c3 m w hB hf hm hm6 hK
  · exact lx_8 l IH D d L B t a1 l1 c1 a2 l2 c2 a3 l3 c3 m w hB hf hm hm6 hK
  · exact lx_9 l IH D d L B t a1 l1 c1 a2 l2 c2 a3 l3 c3 m w hB hf hm hm6 hK
  · exact lx_10 l IH D d L B t a1 l1 c1 a2 l2 c2 a3 l3 c3 m w hB hf hm hm6 hK
  · exact lx_11 l IH D d L B t a1 l1 c1 a2 l2 c2 a3 l3 c3 m w hB hf hm hm6 hK
  · exact lx_12 l IH D d L B t a1 l1 c1 a2 l2 c2 a3 l3 c3 m w hB hf hm hm6 hK
  · exact lx_13 l IH D d L B t a1 l1 c1 a2 l2 c2 a3 l3 c3 m w hB hf hm hm6 hK
  · exact lx_14 l IH D d L B t a1 l1 c1 a2 l2 c2 a3 l3 c3 m w hB hf hm hm6 hK
  · rw [hK] at n1 n2
    have el : shL 15 = 1 := rfl
    have em : shM 15 = 5 := rfl
    have hc : t.N = 1 ∨ t.N = 2 ∨ t.N = 3 ∨ t.N = 4 ∨ t.N = 5 := by omega
    rcases hc with hc | hc | hc | hc | hc
    · exact lx_15_1 l IH D d L B t a1 l1 c1 a2 l2 c2 a3 l3 c3 m w hB hf hm hm6 hK hc
    · exact lx_15_2 l IH D d L B t a1 l1 c1 a2 l2 c2 a3 l3 c3 m w hB hf hm hm6 hK hc
    · exact lx_15_3 l IH D d L B t a1 l1 c1 a2 l2 c2 a3 l3 c3 m w hB hf hm hm6 hK hc
    · exact lx_15_4 l IH D d L B t a1 l1 c1 a2 l2 c2 a3 l3 c3 m w hB hf hm hm6 hK hc
    · exact lx_15_5 l IH D d L B t a1 l1 c1 a2 l2 c2 a3 l3 c3 m w hB hf hm hm6 hK hc
  · exact lx_16 l IH D d L B t a1 l1 c1 a2 l2 c2 a3 l3 c3 m w hB hf hm hm6 hK
  · exact lx_17 l IH D d L B t a1 l1 c1 a2 l2 c2 a3 l3 c3 m w hB hf hm hm6 hK

theorem lx_any (l : Nat) : SaidLX l := by
  induction l with
  | zero => exact lx_zero
  | succ l ih => exact lx_succ l ih

end Go.Proofs.YtgljlgiebmnekaaDoor

/-
  What the model's 'TermText' comes to: the same as the program's.
-/
namespace Go.Proofs.YtgljlgiebmnekaaDoor
open Go.RowKit
set_option linter.unusedVariables false
set_option linter.unusedSimpArgs false

set_option maxRecDepth 100000 in
set_option maxHeartbeats 1000000 in
theorem sTermText_any (D d L B : Nat) (t : Tm) (a1 : Option Addr) (l1 c1 : Nat) (a2 : Option Addr) (l2 c2 : Nat) (a3 : Option Addr) (l3 c3 : Nat) (w : World) (hB : B ≤ w.heap.size) (hf : Fm L B w D d t a1 l1 a2 l2 a3 l3) :
    Calls Tryd.prog 5 #[.agg #[.int .i64 t.K, .int .i64 t.N, .string t.S, .string t.Z, .int .i64 t.T.K, .int .i64 t.T.N, .slice a1 l1 c1, .slice a2 l2 c2, .slice a3 l3 c3]] w fun e w' => e = .returned (.string ⟨(txM t).toArray⟩) ∧ Below w.heap.size w w' := by
  obtain ⟨X, hX⟩ : ∃ X, X = w.alloc (.cells #[.int .i64 t.K, .int .i64 t.N, .string t.S, .string t.Z, .int .i64 t.T.K, .int .i64 t.T.N, .slice a1 l1 c1, .slice a2 l2 c2, .slice a3 l3 c3] 35) := ⟨_, rfl⟩
  have hXs : X.heap.size = w.heap.size + 1 := by rw [hX]; simp
  have hXb : Below w.heap.size w X := by rw [hX]; exact (Below.refl _ _).alloc (Nat.le_refl _) _
  have hX1 : X.heap[w.heap.size]? = some (.cells #[.int .i64 t.K, .int .i64 t.N, .string t.S, .string t.Z, .int .i64 t.T.K, .int .i64 t.T.N, .slice a1 l1 c1, .slice a2 l2 c2, .slice a3 l3 c3] 35 (0, 0)) := by rw [hX]; exact heap_new rfl
  have hf1 := Fm.below hXb hB hf
  have HX : Hid (X = _) := hX
  clear hX
  cases hok : okM t with
  | false =>
    have HE : Hid (txM t = []) := by show _ = _; simp [txM, hok]
    have HF : Hid (okM t = false) := hok
    clear hok
    go_enter Tryd.func5, Tryd.ntmps5
    go_wp2_with fail
    rw [← HX.out]
    refine (sTermOk_any D d L B t _ _ _ _ _ _ _ _ _ _ (by omega) hf1).mono ?_
    rintro e w1 ⟨rfl, hb1⟩
    rw [HF.out]
    go_wp2_with fail
    go_ret
    exact ⟨by rw [HE.out]; rfl, hXb.trans (hb1.mono (by omega))⟩
  | true =>
    obtain ⟨m, hm, hm6⟩ := okM_le hok
    have HE : Hid (txM t = Lib.join (toksM 24 t) [32]) := by show _ = _; simp [txM, hok]
    have HF : Hid (okM t = true) := hok
    have HM : Hid (nodesM 24 t = some m) := hm
    clear hok hm
    go_enter Tryd.func5, Tryd.ntmps5
    go_wp2_with fail
    rw [← HX.out]
    refine (sTermOk_any D d L B t _ _ _ _ _ _ _ _ _ _ (by omega) hf1).mono ?_
    rintro e w1 ⟨rfl, hb1⟩
    rw [HF.out]
    have hz1 := hb1.size
    have hbw1 : Below w.heap.size w w1 := hXb.trans (hb1.mono (by omega))
    obtain ⟨f0, f1, f2, f3, f4, f5, f6, f7, f8⟩ := Nine.box ((hb1.block _ (by omega)).trans hX1)
    go_wp2_with fail
    refine (lx_any 24 D d L B t a1 l1 c1 a2 l2 c2 a3 l3 c3 m w1 (by omega) (Fm.below hbw1 hB hf) HM.out (by omega)).mono ?_
    rintro e w2 ⟨rfl, hb2⟩
    go_wp2_with fail
    go_ret
    exact ⟨by rw [HE.out]; rfl, hbw1.trans (hb2.mono (by omega))⟩

end Go.Proofs.YtgljlgiebmnekaaDoor
