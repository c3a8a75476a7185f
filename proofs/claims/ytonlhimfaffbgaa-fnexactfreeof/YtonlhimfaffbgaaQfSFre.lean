/-
  What the model's 'FreeOf' comes to: the same names as the program's.
-/
import Derived.Test.YtonlhimfaffbgaaQfLf2
import Derived.Test.YtonlhimfaffbgaaQfFre
import Derived.Test.YtonlhimfaffbgaaQfLkM
namespace Go.Proofs.Ytonlhimfaffbgaa
open Go.RowKit
set_option linter.unusedVariables false
set_option linter.unusedSimpArgs false

theorem toks_lit {base : Nat} {w : World} {g : Nat} (hg : w.heap[g]? = some (.cells #[] 9 (0, 0))) (hb : base ≤ g) : Toks base w (.slice (some ⟨g, 0, none⟩) 0 0) [] :=
  ⟨rfl, Or.inr ⟨g, 0, #[], rfl, hb, hg, by simp, by unfold maxLen; simp, by simp, by simp⟩⟩

set_option maxRecDepth 100000 in
set_option maxHeartbeats 1000000 in
theorem sFreeOf_any (D d L B : Nat) (t : Tm) (a1 : Option Addr) (l1 c1 : Nat) (a2 : Option Addr) (l2 c2 : Nat) (a3 : Option Addr) (l3 c3 : Nat) (w : World) (hB : B ≤ w.heap.size) (hf : Fm L B w D d t a1 l1 a2 l2 a3 l3) :
    Calls Try.prog 15 #[.agg #[.int .i64 t.K, .int .i64 t.N, .string t.S, .string t.Z, .int .i64 t.T.K, .int .i64 t.T.N, .slice a1 l1 c1, .slice a2 l2 c2, .slice a3 l3 c3]] w fun e w' => ∃ v, e = .returned v ∧ Below w.heap.size w w' ∧ Toks w.heap.size w' v (freeT t) := by
  obtain ⟨X, hX⟩ : ∃ X, X = w.alloc (.cells #[.int .i64 t.K, .int .i64 t.N, .string t.S, .string t.Z, .int .i64 t.T.K, .int .i64 t.T.N, .slice a1 l1 c1, .slice a2 l2 c2, .slice a3 l3 c3] 34) := ⟨_, rfl⟩
  have hXs : X.heap.size = w.heap.size + 1 := by rw [hX]; simp
  have hXb : Below w.heap.size w X := by rw [hX]; exact (Below.refl _ _).alloc (Nat.le_refl _) _
  have hX1 : X.heap[w.heap.size]? = some (.cells #[.int .i64 t.K, .int .i64 t.N, .string t.S, .string t.Z, .int .i64 t.T.K, .int .i64 t.T.N, .slice a1 l1 c1, .slice a2 l2 c2, .slice a3 l3 c3] 34 (0, 0)) := by rw [hX]; exact heap_new rfl
  have hf1 := Fm.below hXb hB hf
  have HX : Hid (X = _) := hX
  clear hX
  cases hok : okM t with
  | false =>
    have HE : Hid (freeT t = []) := by show _ = _; simp [freeT, hok]
    have HF : Hid (okM t = false) := hok
    clear hok
    go_enter Try.func15, Try.ntmps15
    go_wp2_with fail
    rw [← HX.out]
    refine (sTermOk_any D d L B t _ _ _ _ _ _ _ _ _ _ (by omega) hf1).mono ?_
    rintro e w1 ⟨rfl, hb1⟩
    rw [HF.out]
    have hbw1 : Below w.heap.size w w1 := hXb.trans (hb1.mono (by omega))
    have hz1 := hbw1.size
    go_wp2_with fail
    go_ret
    exact ⟨_, rfl, hbw1.alloc (by omega) _, by rw [HE.out]; exact toks_lit (heap_new rfl) (by omega)⟩
  | true =>
    obtain ⟨m, hm, hm6⟩ := okM_some hok
    have HE : Hid (freeT t = freeW 24 t [] []) := by show _ = _; simp [freeT, hok]
    have HF : Hid (okM t = true) := hok
    have HM : Hid (nodesM 24 t = some m) := hm
    clear hok hm
    go_enter Try.func15, Try.ntmps15
    go_wp2_with fail
    rw [← HX.out]
    refine (sTermOk_any D d L B t _ _ _ _ _ _ _ _ _ _ (by omega) hf1).mono ?_
    rintro e w1 ⟨rfl, hb1⟩
    rw [HF.out]
    have hz1 := hb1.size
    have hbw1 : Below w.heap.size w w1 := hXb.trans (hb1.mono (by omega))
    have y1 := (hb1.block _ (by omega)).trans hX1
    obtain ⟨f0, f1, f2, f3, f4, f5, f6, f7, f8⟩ := Nine.box y1
    have hlt1 : w.heap.size < w1.heap.size := by omega
    have hA : Below w1.heap.size w1 ((w1.alloc (.cells #[] 9)).alloc (.cells #[] 9)) := ((Below.refl _ _).alloc (Nat.le_refl _) _).alloc (by simp) _
    have hbA : Below w.heap.size w ((w1.alloc (.cells #[] 9)).alloc (.cells #[] 9)) := hbw1.trans (hA.mono (by omega))
    have hT1 : Toks w.heap.size ((w1.alloc (.cells #[] 9)).alloc (.cells #[] 9)) (.slice (some ⟨w1.heap.size, 0, none⟩) 0 0) [] := toks_lit (by rw [Below.heap_alloc _ _ _ (by simp)]; exact heap_new rfl) (by omega)
    have hT2 : Toks w.heap.size ((w1.alloc (.cells #[] 9)).alloc (.cells #[] 9)) (.slice (some ⟨w1.heap.size + 1, 0, none⟩) 0 0) [] := toks_lit (heap_new (by simp)) (by omega)
    have hfA : Fm L B ((w1.alloc (.cells #[] 9)).alloc (.cells #[] 9)) D d t a1 l1 a2 l2 a3 l3 := Fm.below hbA hB hf
    go_wp2_with fail
    refine (lf_any 24 D d L B w.heap.size t a1 l1 c1 a2 l2 c2 a3 l3 c3 _ _ [] [] m _ hB (by simp; omega) hfA HM.out hT1 hT2 (fun g hg e => by simp [Value.ownBlock] at hg e; omega) (by simp) (by simp; omega)).mono ?_
    rintro e w2 ⟨v2, rfl, hk2, hT3⟩
    have hb2 := hk2.below hT2 (by simp; omega)
    go_wp2_with fail
    go_ret
    exact ⟨_, rfl, hbA.trans hb2, by rw [HE.out]; exact hT3⟩

end Go.Proofs.Ytonlhimfaffbgaa
