/-
  What the program's 'TermText' comes to.
-/
import Derived.Test.YtgmbiabmeeemdaaDoorFt2
import Derived.Test.YtgmbiabmeeemdaaDoorFo2
import Derived.Test.YtgmbiabmeeemdaaDoorTq
import Derived.Test.YtgmbiabmeeemdaaDoorJn
import Derived.Test.YtgmbiabmeeemdaaDoorTx0
namespace Go.Proofs.YtgmbiabmeeemdaaDoor
open Go.RowKit
set_option linter.unusedVariables false
set_option linter.unusedSimpArgs false

set_option maxRecDepth 100000 in
set_option maxHeartbeats 1000000 in
theorem termText_any (D d L B : Nat) (t : Tm) (a1 : Option Addr) (l1 c1 : Nat) (a2 : Option Addr) (l2 c2 : Nat) (a3 : Option Addr) (l3 c3 : Nat) (w : World) (hB : B ≤ w.heap.size) (hf : Fm L B w D d t a1 l1 a2 l2 a3 l3) (hTab : TabB B w) :
    Calls Tryd.prog 7 #[.agg #[.int .i64 t.K, .int .i64 t.N, .string t.S, .string t.Z, .int .i64 t.T.K, .int .i64 t.T.N, .slice a1 l1 c1, .slice a2 l2 c2, .slice a3 l3 c3]] w fun e w' => e = .returned (.string ⟨(txM t).toArray⟩) ∧ Below w.heap.size w w' := by
  obtain ⟨X, hX⟩ : ∃ X, X = w.alloc (.cells #[.int .i64 t.K, .int .i64 t.N, .string t.S, .string t.Z, .int .i64 t.T.K, .int .i64 t.T.N, .slice a1 l1 c1, .slice a2 l2 c2, .slice a3 l3 c3] 35) := ⟨_, rfl⟩
  have hXs : X.heap.size = w.heap.size + 1 := by rw [hX]; simp
  have hXb : Below w.heap.size w X := by rw [hX]; exact (Below.refl _ _).alloc (Nat.le_refl _) _
  have hX1 : X.heap[w.heap.size]? = some (.cells #[.int .i64 t.K, .int .i64 t.N, .string t.S, .string t.Z, .int .i64 t.T.K, .int .i64 t.T.N, .slice a1 l1 c1, .slice a2 l2 c2, .slice a3 l3 c3] 35 (0, 0)) := by rw [hX]; exact heap_new rfl
  have hf1 := Fm.below hXb hB hf
  have HX : Hid (X = _) := hX
  clear hX
  cases hok : okM t with
  | false =>
    have HE : Hid (txM t = []) := by show _ = _; simp [txM, hok]
    have HF : Hid (okM t = false) := hok
    clear hok
    go_enter Tryd.func7, Tryd.ntmps7
    go_wp2_with fail
    rw [← HX.out]
    refine (termOk_any D d L B t _ _ _ _ _ _ _ _ _ _ (by omega) hf1).mono ?_
    rintro e w1 ⟨rfl, hb1⟩
    rw [HF.out]
    go_wp2_with fail
    go_ret
    exact ⟨by rw [HE.out]; rfl, hXb.trans (hb1.mono (by omega))⟩
  | true =>
    obtain ⟨m, hm, hm6⟩ := okM_le hok
    have HE : Hid (txM t = Lib.join (toksM 24 t) [32]) := by show _ = _; simp [txM, hok]
    have HF : Hid (okM t = true) := hok
    obtain ⟨v, hv, hcall⟩ := fo_any 24 D d L B t a1 l1 c1 a2 l2 c2 a3 l3 c3 m w hB hf hm
    have HC : Hid (∀ w' : World, _) := hcall
    have HV : Hid (Fv L B w D 24 t v) := hv
    have HM : Hid (nodesM 24 t = some m) := hm
    have HLT : Hid ((toksM 24 t).length ≤ 18450) := by have := toksM_len _ _ _ hm; show _ ≤ _; omega
    have HLN : Hid ((Lib.join (toksM 24 t) [32]).length ≤ 405900) := by have := textM_len _ _ _ hm; show _ ≤ _; omega
    have HNE : Hid (toksM 24 t ≠ []) := toksM_ne 23 t
    obtain ⟨τ, u, rfl⟩ := hv.iface
    clear hok hcall hv hm
    go_enter Tryd.func7, Tryd.ntmps7
    go_wp2_with fail
    rw [← HX.out]
    refine (termOk_any D d L B t _ _ _ _ _ _ _ _ _ _ (by omega) hf1).mono ?_
    rintro e w1 ⟨rfl, hb1⟩
    rw [HF.out]
    have hz1 := hb1.size
    have hbw1 : Below w.heap.size w w1 := hXb.trans (hb1.mono (by omega))
    have y1 := (hb1.block _ (by omega)).trans hX1
    obtain ⟨f0, f1, f2, f3, f4, f5, f6, f7, f8⟩ := Nine.box y1
    go_wp2_with fail
    refine (HC.out _ hbw1).mono ?_
    rintro e w2 ⟨rfl, hb2⟩
    have hz2 := hb2.size
    have hbw2 : Below w.heap.size w w2 := hbw1.trans (hb2.mono (by omega))
    have hst : Toks w2.heap.size w2 (.slice none 0 0) [] := ⟨rfl, Or.inl ⟨rfl, rfl⟩⟩
    go_wp2_with fail
    refine (ft_any 24 L B D w2.heap.size w t _ _ [] m w2 (by omega) (Nat.le_refl _) HV.out HM.out (hbw2.mono hB) (hTab.below (hbw2.mono hB)) hst (by simp; omega)).mono ?_
    rintro e w3 ⟨v3, rfl, hk3, hT3⟩
    have hb3 := hk3.below hst (Nat.le_refl _)
    have hbw3 : Below w.heap.size w w3 := hbw2.trans (hb3.mono (by omega))
    rw [List.nil_append] at hT3
    obtain ⟨g, cap2, rfl, hg, hc2, hcell⟩ := toks_cells hT3 HNE.out
    have HCL : Hid (∀ (j : Nat) x, _ → _) := hcell
    clear hT3 hcell hst hk3
    have HJ : Hid (((toksM 24 t).map (fun l => (⟨l.toArray⟩ : ByteArray))).map (fun x => x.data.toList) = toksM 24 t) := by show _ = _; rw [List.map_map]; exact List.map_id _
    have hj := Tryd.strings_Join g 0 cap2 ((toksM 24 t).map fun l => (⟨l.toArray⟩ : ByteArray)) ⟨#[32]⟩ w3 HCL.out hg (by rw [List.length_map]; have := HLT.out; omega) (by rw [List.length_map]; exact hc2) (by rw [HJ.out]; exact Nat.le_trans HLN.out (by omega))
    rw [HJ.out, List.length_map] at hj
    go_wp2_with fail
    refine hj.mono ?_
    rintro e w4 ⟨rfl, hb4⟩
    clear hj
    go_wp2_with fail
    go_ret
    exact ⟨by rw [HE.out]; rfl, hbw3.trans (hb4.mono hbw3.size)⟩

end Go.Proofs.YtgmbiabmeeemdaaDoor
