/-
  What the model's 'TyText' comes to: the same as the program's.
-/
import Derived.Test.YtfjbgbnhjejchaaDoorLt
import Derived.Test.YtfjbgbnhjejchaaDoorSp0
namespace Go.Proofs.YtfjbgbnhjejchaaDoor
open Go.RowKit
set_option linter.unusedVariables false
set_option linter.unusedSimpArgs false

set_option maxHeartbeats 400000 in
theorem sTyText_any (d L B : Nat) (k n : Int) (ao : Option Addr) (len cap : Nat) (ts : List Tr) (w : World) (hB : B ≤ w.heap.size) (hs : Hs L B w d ao len ts) :
    Calls Tryd.prog 6 #[.agg #[.int .i64 k, .int .i64 n, .slice ao len cap]] w fun e w' => e = .returned (.string ⟨(txT ⟨k, n, ts⟩).toArray⟩) ∧ Below w.heap.size w w' := by
  have hXb : Below w.heap.size w (w.alloc (.cells #[.int .i64 k, .int .i64 n, .slice ao len cap] 29)) := (Below.refl _ _).alloc (Nat.le_refl _) _
  have hX1 : (w.alloc (.cells #[.int .i64 k, .int .i64 n, .slice ao len cap] 29)).heap[w.heap.size]? = some (.cells #[.int .i64 k, .int .i64 n, .slice ao len cap] 29 (0, 0)) := heap_new rfl
  have hs1 := hs.below hXb hB
  cases hf : okT ⟨k, n, ts⟩ with
  | false =>
    have HT : Hid (txT ⟨k, n, ts⟩ = []) := by show _ = _; simp [txT, hf]
    have HF : Hid (okT ⟨k, n, ts⟩ = false) := hf
    clear hf
    go_enter Tryd.func6, Tryd.ntmps6
    go_wp2_with fail
    refine (sTyOk_any d L B _ _ _ _ _ ts _ (by simp; omega) hs1).mono ?_
    rintro e w1 ⟨rfl, hb1⟩
    rw [HF.out]
    go_wp2_with fail
    go_ret
    exact ⟨by rw [HT.out]; rfl, hXb.trans (hb1.mono (by simp))⟩
  | true =>
    obtain ⟨m, hm, hm6⟩ := okT_le hf
    have HT : Hid (txT ⟨k, n, ts⟩ = textW 6 ⟨k, n, ts⟩) := by show _ = _; simp [txT, hf]
    have HF : Hid (okT ⟨k, n, ts⟩ = true) := hf
    have HM : Hid (nodesW 6 ⟨k, n, ts⟩ = some m) := hm
    clear hf hm
    go_enter Tryd.func6, Tryd.ntmps6
    go_wp2_with fail
    refine (sTyOk_any d L B _ _ _ _ _ ts _ (by simp; omega) hs1).mono ?_
    rintro e w1 ⟨rfl, hb1⟩
    rw [HF.out]
    have hbw1 : Below w.heap.size w w1 := hXb.trans (hb1.mono (by simp))
    have hz1 := hbw1.size
    obtain ⟨x0, x1, x2⟩ := box_cells ((hb1.block w.heap.size (by simp)).trans hX1)
    go_wp2_with fail
    refine (lt_any 6 d L B _ _ _ _ _ ts m w1 (by omega) (hs.below hbw1 hB) HM.out (by omega)).mono ?_
    rintro e w2 ⟨rfl, hb2⟩
    go_wp2_with fail
    go_ret
    exact ⟨by rw [HT.out]; rfl, hbw1.trans (hb2.mono (by omega))⟩

end Go.Proofs.YtfjbgbnhjejchaaDoor
