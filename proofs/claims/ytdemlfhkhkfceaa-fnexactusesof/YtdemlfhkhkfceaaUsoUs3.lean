/-
  What the program's 'UsesOf' comes to.
-/
import Derived.Test.YtdemlfhkhkfceaaUsoUs2
import Derived.Test.YtdemlfhkhkfceaaUsoTq
namespace Go.Proofs.Ytdemlfhkhkfceaa
open Go.RowKit
set_option linter.unusedVariables false
set_option linter.unusedSimpArgs false

/-- How often a name is used; 0 of what is not right. -/
def usesT (s : List UInt8) (t : Tm) : Nat := if okM t = true then usesN s 24 t else 0
set_option maxRecDepth 100000 in
set_option maxHeartbeats 1000000 in
theorem usesOf_any (D d L B : Nat) (t : Tm) (a1 : Option Addr) (l1 c1 : Nat) (a2 : Option Addr) (l2 c2 : Nat) (a3 : Option Addr) (l3 c3 : Nat) (s : ByteArray) (w : World) (hB : B ≤ w.heap.size) (hf : Fm L B w D d t a1 l1 a2 l2 a3 l3) :
    Calls Try.prog 8 #[.agg #[.int .i64 t.K, .int .i64 t.N, .string t.S, .string t.Z, .int .i64 t.T.K, .int .i64 t.T.N, .slice a1 l1 c1, .slice a2 l2 c2, .slice a3 l3 c3], .string s] w fun e w' => e = .returned (.int .i64 (usesT (bs s) t : Int)) ∧ Below w.heap.size w w' := by
  obtain ⟨X, hX⟩ : ∃ X, X = w.alloc (.cells #[.int .i64 t.K, .int .i64 t.N, .string t.S, .string t.Z, .int .i64 t.T.K, .int .i64 t.T.N, .slice a1 l1 c1, .slice a2 l2 c2, .slice a3 l3 c3] 35) := ⟨_, rfl⟩
  have hXs : X.heap.size = w.heap.size + 1 := by rw [hX]; simp
  have hXb : Below w.heap.size w X := by rw [hX]; exact (Below.refl _ _).alloc (Nat.le_refl _) _
  have hX1 : X.heap[w.heap.size]? = some (.cells #[.int .i64 t.K, .int .i64 t.N, .string t.S, .string t.Z, .int .i64 t.T.K, .int .i64 t.T.N, .slice a1 l1 c1, .slice a2 l2 c2, .slice a3 l3 c3] 35 (0, 0)) := by rw [hX]; exact heap_new rfl
  have hf1 := Fm.below hXb hB hf
  have HX : Hid (X = _) := hX
  clear hX
  cases hok : okM t with
  | false =>
    have HE : Hid (usesT (bs s) t = 0) := by show _ = _; simp [usesT, hok]
    have HF : Hid (okM t = false) := hok
    rw [HE.out]
    clear hok
    go_enter Try.func8, Try.ntmps8
    go_wp2_with fail
    rw [← HX.out]
    refine (termOk_any D d L B t _ _ _ _ _ _ _ _ _ _ (by omega) hf1).mono ?_
    rintro e w1 ⟨rfl, hb1⟩
    rw [HF.out]
    go_wp2_with fail
    go_ret
    exact ⟨rfl, hXb.trans (hb1.mono (by omega))⟩
  | true =>
    obtain ⟨m, hm, hm6⟩ := okM_some hok
    have HE : Hid (usesT (bs s) t = usesN (bs s) 24 t) := by show _ = _; simp [usesT, hok]
    have HF : Hid (okM t = true) := hok
    have HM : Hid (nodesM 24 t = some m) := hm
    rw [HE.out]
    obtain ⟨u, hu⟩ : ∃ u, usesN (bs s) 24 t = u := ⟨_, rfl⟩
    have KU := ui_any 24 D d L B t a1 l1 c1 a2 l2 c2 a3 l3 c3 w.heap.size 0 m s [] none 0 0
    rw [hu] at KU ⊢
    clear hok hm hu
    go_enter Try.func8, Try.ntmps8
    go_wp2_with fail
    rw [← HX.out]
    refine (termOk_any D d L B t _ _ _ _ _ _ _ _ _ _ (by omega) hf1).mono ?_
    rintro e w1 ⟨rfl, hb1⟩
    rw [HF.out]
    have hz1 := hb1.size
    have hbw1 : Below w.heap.size w w1 := hXb.trans (hb1.mono (by omega))
    have y1 := (hb1.block _ (by omega)).trans hX1
    have KU1 := KU w1 (by omega) (by omega) (Nine.box y1) (Fm.below hb1 (by omega) hf1) HM.out (by omega) ⟨rfl, fun j hj => by simp at hj⟩ (by omega)
    go_wp2_with fail
    refine KU1.mono ?_
    rintro e w2 ⟨v, us, rfl, hl, hU, hb2⟩
    obtain ⟨ao, cp, rfl⟩ := uss_form hU
    rw [hl]
    go_wp2_with fail
    go_ret
    exact ⟨rfl, hbw1.trans (hb2.mono (by omega))⟩

end Go.Proofs.Ytdemlfhkhkfceaa
