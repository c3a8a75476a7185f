/-
  What the program's 'FreeOf' comes to: the free names of a term that is right, in a row of their own.
-/
import Derived.Test.YtdihgldfncjbpaaFzGa4
import Derived.Test.YtdihgldfncjbpaaFzFr4
import Derived.Test.YtdihgldfncjbpaaFzTq
namespace Go.Proofs.Ytdihgldfncjbpaa
open Go.RowKit
set_option linter.unusedVariables false
set_option linter.unusedSimpArgs false

/-- The free names of a term; none of one that is not right. -/
def freeT (t : Tm) : List (List UInt8) := if okM t = true then freeW 24 t [] [] else []

set_option maxRecDepth 100000 in
set_option maxHeartbeats 1000000 in
theorem freeOf_any (D d L B : Nat) (t : Tm) (a1 : Option Addr) (l1 c1 : Nat) (a2 : Option Addr) (l2 c2 : Nat) (a3 : Option Addr) (l3 c3 : Nat) (w : World) (hB : B ≤ w.heap.size) (hf : Fm L B w D d t a1 l1 a2 l2 a3 l3) :
    Calls Try.prog 33 #[.agg #[.int .i64 t.K, .int .i64 t.N, .string t.S, .string t.Z, .int .i64 t.T.K, .int .i64 t.T.N, .slice a1 l1 c1, .slice a2 l2 c2, .slice a3 l3 c3]] w fun e w' => ∃ v, e = .returned v ∧ Below w.heap.size w w' ∧ Toks w.heap.size w' v (freeT t) := by
  obtain ⟨X, hX⟩ : ∃ X, X = w.alloc (.cells #[.int .i64 t.K, .int .i64 t.N, .string t.S, .string t.Z, .int .i64 t.T.K, .int .i64 t.T.N, .slice a1 l1 c1, .slice a2 l2 c2, .slice a3 l3 c3] 27) := ⟨_, rfl⟩
  have hXs : X.heap.size = w.heap.size + 1 := by rw [hX]; simp
  have hXb : Below w.heap.size w X := by rw [hX]; exact (Below.refl _ _).alloc (Nat.le_refl _) _
  have hX1 : X.heap[w.heap.size]? = some (.cells #[.int .i64 t.K, .int .i64 t.N, .string t.S, .string t.Z, .int .i64 t.T.K, .int .i64 t.T.N, .slice a1 l1 c1, .slice a2 l2 c2, .slice a3 l3 c3] 27 (0, 0)) := by rw [hX]; exact heap_new rfl
  have hf1 := Fm.below hXb hB hf
  have HX : Hid (X = _) := hX
  clear hX
  cases hok : okM t with
  | false =>
    have HE : Hid (freeT t = []) := by show _ = _; simp [freeT, hok]
    have HF : Hid (okM t = false) := hok
    clear hok
    go_enter Try.func33, Try.ntmps33
    go_wp2_with fail
    rw [← HX.out]
    refine (termOk_any D d L B t _ _ _ _ _ _ _ _ _ _ (by omega) hf1).mono ?_
    rintro e w1 ⟨rfl, hb1⟩
    rw [HF.out]
    go_wp2_with fail
    go_ret
    exact ⟨_, rfl, hXb.trans (hb1.mono (by omega)), by rw [HE.out]; exact ⟨rfl, Or.inl ⟨rfl, rfl⟩⟩⟩
  | true =>
    obtain ⟨m, hm, hm6⟩ := okM_some hok
    have HE : Hid (freeT t = freeW 24 t [] []) := by show _ = _; simp [freeT, hok]
    have HF : Hid (okM t = true) := hok
    obtain ⟨v, hv, hcall⟩ := fo_any 24 D d L B t a1 l1 c1 a2 l2 c2 a3 l3 c3 m w hB hf hm (by omega)
    have HC : Hid (∀ w' : World, _) := hcall
    have HV : Hid (Fv L B w D 24 t v) := hv
    have HM : Hid (nodesM 24 t = some m) := hm
    obtain ⟨τ, u, rfl⟩ := hv.iface
    clear hok hcall hv hm
    go_enter Try.func33, Try.ntmps33
    go_wp2_with fail
    rw [← HX.out]
    refine (termOk_any D d L B t _ _ _ _ _ _ _ _ _ _ (by omega) hf1).mono ?_
    rintro e w1 ⟨rfl, hb1⟩
    rw [HF.out]
    have hz1 := hb1.size
    have hbw1 : Below w.heap.size w w1 := hXb.trans (hb1.mono (by omega))
    have y1 := (hb1.block _ (by omega)).trans hX1
    obtain ⟨f0, f1, f2, f3, f4, f5, f6, f7, f8⟩ := Nine.box y1
    have hlt1 : w.heap.size < w1.heap.size := by omega
    have hA : Below w1.heap.size w1 (w1.alloc (.cells #[.slice none 0 0, .slice none 0 0] 92)) := (Below.refl _ _).alloc (Nat.le_refl _) _
    have hbA : Below w.heap.size w (w1.alloc (.cells #[.slice none 0 0, .slice none 0 0] 92)) := hbw1.trans (hA.mono (by omega))
    go_wp2_with fail
    refine (HC.out _ hbA).mono ?_
    rintro e w2 ⟨rfl, hb2⟩
    have hz2 := hb2.size
    simp only [World.size_alloc] at hz2
    have hbx : w2.heap[w1.heap.size]? = some (.cells #[.slice none 0 0, .slice none 0 0] 92 (0, 0)) := (hb2.block _ (by simp)).trans (heap_new rfl)
    have hS : FnSt w1.heap.size w2 (.slice none 0 0) (.slice none 0 0) [] [] := ⟨hbx, ⟨rfl, Or.inl ⟨rfl, rfl⟩⟩, ⟨rfl, Or.inl ⟨rfl, rfl⟩⟩, fun g hg => by cases hg⟩
    have hbw2 : Below w.heap.size w w2 := hbA.trans (hb2.mono (by simp; omega))
    go_wp2_with fail
    refine (ga_any 24 L B D w t _ w1.heap.size _ _ [] [] m w2 HV.out HM.out hS (by simp) (by simp; omega)).mono ?_
    rintro e w3 ⟨vb3, vf3, rfl, hk3, hS3⟩
    have hb3 := hk3.below hS
    obtain ⟨g0, g1⟩ := two_cells hS3.box
    go_wp2_with fail
    go_ret
    exact ⟨_, rfl, hbw2.trans (hb3.mono (by omega)), by rw [HE.out]; exact toks_le hS3.free (by omega)⟩

end Go.Proofs.Ytdihgldfncjbpaa
