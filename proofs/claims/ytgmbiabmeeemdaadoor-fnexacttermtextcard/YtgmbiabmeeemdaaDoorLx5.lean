/-
  The model's 'l2Text' at every right term, and its 'TermText'.
-/
import Derived.Test.YtgmbiabmeeemdaaDoorLx1
import Derived.Test.YtgmbiabmeeemdaaDoorLx2
import Derived.Test.YtgmbiabmeeemdaaDoorLx3
import Derived.Test.YtgmbiabmeeemdaaDoorLx4
import Derived.Test.YtgmbiabmeeemdaaDoorLkM
import Derived.LoopN
namespace Go.Proofs.YtgmbiabmeeemdaaDoor
open Go.RowKit
set_option linter.unusedVariables false
set_option linter.unusedSimpArgs false

theorem lx_zero : SaidLX 0 := by
  intro D d L B t a1 l1 c1 a2 l2 c2 a3 l3 c3 m w hB hf hm
  simp [nodesM] at hm

set_option maxHeartbeats 1000000 in
theorem lx_succ (l : Nat) (IH : SaidLX l) : SaidLX (l + 1) := by
  intro D d L B t a1 l1 c1 a2 l2 c2 a3 l3 c3 m w hB hf hm hm6
  obtain ⟨hN, _⟩ := nodesM_inv2 hm
  have hk1 := hN.k1
  have hk2 := hN.k17
  have hK : t.K = 1 ∨ t.K = 2 ∨ t.K = 3 ∨ t.K = 4 ∨ t.K = 5 ∨ t.K = 6 ∨ t.K = 7 ∨ t.K = 8 ∨ t.K = 9 ∨ t.K = 10 ∨ t.K = 11 ∨ t.K = 12 ∨ t.K = 13 ∨ t.K = 14 ∨ t.K = 15 ∨ t.K = 16 ∨ t.K = 17 := by omega
  have n1 := hN.n1
  have n2 := hN.n2
  rcases hK with hK | hK | hK | hK | hK | hK | hK | hK | hK | hK | hK | hK | hK | hK | hK | hK | hK
  · exact lx_1 l IH D d L B t a1 l1 c1 a2 l2 c2 a3 l3 c3 m w hB hf hm hm6 hK
  · rw [hK] at n1 n2
    have el : shL 2 = 0 := rfl
    have em : shM 2 = 1 := rfl
    have hc : t.N = 0 ∨ t.N = 1 := by omega
    rcases hc with hc | hc
    · exact lx_2_0 l IH D d L B t a1 l1 c1 a2 l2 c2 a3 l3 c3 m w hB hf hm hm6 hK hc
    · exact lx_2_1 l IH D d L B t a1 l1 c1 a2 l2 c2 a3 l3 c3 m w hB hf hm hm6 hK hc
  · exact lx_3 l IH D d L B t a1 l1 c1 a2 l2 c2 a3 l3 c3 m w hB hf hm hm6 hK
  · exact lx_4 l IH D d L B t a1 l1 c1 a2 l2 c2 a3 l3 c3 m w hB hf hm hm6 hK
  · exact lx_5 l IH D d L B t a1 l1 c1 a2 l2 c2 a3 l3 c3 m w hB hf hm hm6 hK
  · exact lx_6 l IH D d L B t a1 l1 c1 a2 l2 c2 a3 l3 c3 m w hB hf hm hm6 hK
  · exact lx_7 l IH D d L B t a1 l1 c1 a2 l2 c2 a3 l3 c3 m w hB hf hm hm6 hK
  · exact lx_8 l IH D d L B t a1 l1 c1 a2 l2 c2 a3 l3 c3 m w hB hf hm hm6 hK
  · exact lx_9 l IH D d L B t a1 l1 c1 a2 l2 c2 a3 l3 c3 m w hB hf hm hm6 hK
  · exact lx_10 l IH D d L B t a1 l1 c1 a2 l2 c2 a3 l3 c3 m w hB hf hm hm6 hK
  · exact lx_11 l IH D d L B t a1 l1 c1 a2 l2 c2 a3 l3 c3 m w hB hf hm hm6 hK
  · exact lx_12 l IH D d L B t a1 l1 c1 a2 l2 c2 a3 l3 c3 m w hB hf hm hm6 hK
  · exact lx_13 l IH D d L B t a1 l1 c1 a2 l2 c2 a3 l3 c3 m w hB hf hm hm6 hK
  · exact lx_14 l IH D d L B t a1 l1 c1 a2 l2 c2 a3 l3 c3 m w hB hf hm hm6 hK
  · rw [hK] at n1 n2
    have el : shL 15 = 1 := rfl
    have em : shM 15 = 5 := rfl
    have hc : t.N = 1 ∨ t.N = 2 ∨ t.N = 3 ∨ t.N = 4 ∨ t.N = 5 := by omega
    rcases hc with hc | hc | hc | hc | hc
    · exact lx_15_1 l IH D d L B t a1 l1 c1 a2 l2 c2 a3 l3 c3 m w hB hf hm hm6 hK hc
    · exact lx_15_2 l IH D d L B t a1 l1 c1 a2 l2 c2 a3 l3 c3 m w hB hf hm hm6 hK hc
    · exact lx_15_3 l IH D d L B t a1 l1 c1 a2 l2 c2 a3 l3 c3 m w hB hf hm hm6 hK hc
    · exact lx_15_4 l IH D d L B t a1 l1 c1 a2 l2 c2 a3 l3 c3 m w hB hf hm hm6 hK hc
    · exact lx_15_5 l IH D d L B t a1 l1 c1 a2 l2 c2 a3 l3 c3 m w hB hf hm hm6 hK hc
  · exact lx_16 l IH D d L B t a1 l1 c1 a2 l2 c2 a3 l3 c3 m w hB hf hm hm6 hK
  · exact lx_17 l IH D d L B t a1 l1 c1 a2 l2 c2 a3 l3 c3 m w hB hf hm hm6 hK

theorem lx_any (l : Nat) : SaidLX l := by
  induction l with
  | zero => exact lx_zero
  | succ l ih => exact lx_succ l ih

end Go.Proofs.YtgmbiabmeeemdaaDoor
