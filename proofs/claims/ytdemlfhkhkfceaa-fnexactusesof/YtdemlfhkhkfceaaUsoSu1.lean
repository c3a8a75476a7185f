/-
  What the model's 'l18Uses' and 'UsesOf' come to.
-/
import Derived.Test.YtdemlfhkhkfceaaUsoUs3
import Derived.Test.YtdemlfhkhkfceaaUsoZ22
import Derived.Test.YtdemlfhkhkfceaaUsoLkM
namespace Go.Proofs.Ytdemlfhkhkfceaa
open Go.RowKit
set_option linter.unusedVariables false
set_option linter.unusedSimpArgs false

theorem toks_of_lit {w w' : World} {e : Ending} {N : List (List UInt8)} (h : LitE w w' e N) (hN : N.length ≤ 1000) : ∃ g, e = .returned (.slice (some ⟨g, 0, none⟩) N.length N.length) ∧ Below w.heap.size w w' ∧ Toks w.heap.size w' (.slice (some ⟨g, 0, none⟩) N.length N.length) N := by
  obtain ⟨g, e1, hb, hg, hh⟩ := h
  refine ⟨g, e1, hb, ⟨by simp, Or.inr ⟨g, N.length, _, rfl, hg, hh, Nat.le_refl _, (by unfold maxLen; omega), by simp, by simp [List.take_of_length_le]⟩⟩⟩

def SaidSu (l : Nat) : Prop := ∀ (D d L B : Nat) (t : Tm) (a1 : Option Addr) (l1 c1 : Nat) (a2 : Option Addr) (l2 c2 : Nat) (a3 : Option Addr) (l3 c3 : Nat) (m : Nat) (s : ByteArray) (w : World), B ≤ w.heap.size → Fm L B w D d t a1 l1 a2 l2 a3 l3 → nodesM l t = some m → m ≤ 1000 →
    Calls Try.prog 18 #[.agg #[.int .i64 t.K, .int .i64 t.N, .string t.S, .string t.Z, .int .i64 t.T.K, .int .i64 t.T.N, .slice a1 l1 c1, .slice a2 l2 c2, .slice a3 l3 c3], .string s] w fun e w' => e = .returned (.int .i64 (usesN (bs s) l t : Int)) ∧ Below w.heap.size w w'

set_option maxRecDepth 100000 in
set_option maxHeartbeats 4000000 in
theorem su_step (l : Nat) (IH : SaidSu l) : SaidSu (l + 1) := by
  intro D d L B t a1 l1 c1 a2 l2 c2 a3 l3 c3 m s w hB hf hm hm1
  have hHM : Hid (nodesM (l + 1) t = some m) := hm
  have HU := usesN_nodes (bs s) (l + 1) t m hm
  have HL : Hid (l3 = t.A.length) := hf.m.len.1
  have hl3 := hf.m.len.2
  have hnl := nodeM_len (nodesM_get hm).1
  obtain ⟨X, hX⟩ : ∃ X, X = w.alloc (.cells #[.int .i64 t.K, .int .i64 t.N, .string t.S, .string t.Z, .int .i64 t.T.K, .int .i64 t.T.N, .slice a1 l1 c1, .slice a2 l2 c2, .slice a3 l3 c3] 35) := ⟨_, rfl⟩
  have hXs : X.heap.size = w.heap.size + 1 := by rw [hX]; simp
  have hXb : Below w.heap.size w X := by rw [hX]; exact (Below.refl _ _).alloc (Nat.le_refl _) _
  have hX1 : X.heap[w.heap.size]? = some (.cells #[.int .i64 t.K, .int .i64 t.N, .string t.S, .string t.Z, .int .i64 t.T.K, .int .i64 t.T.N, .slice a1 l1 c1, .slice a2 l2 c2, .slice a3 l3 c3] 35 (0, 0)) := by rw [hX]; exact heap_new rfl
  have HX : Hid (X = _) := hX
  clear hX
  have hstr : (t.S.toList == s.toList) = decide (bs t.S = bs s) := by
    rw [Bool.eq_iff_iff, beq_iff_eq, decide_eq_true_eq]
    rw [ByteArray.toList_eq, ByteArray.toList_eq]
    exact Iff.rfl
  obtain ⟨x0, x1, x2, x3, x4, x5, x6, x7, x8⟩ := Nine.box hX1
  by_cases hv : t.K = 3 ∧ bs t.S = bs s
  · have HE : Hid (usesN (bs s) (l + 1) t = 1) := usesN_var hv
    have hq : (t.S.toList == s.toList) = true := by rw [hstr]; simpa using hv.2
    have hK := hv.1
    rw [HE.out]
    clear hv hstr HU hm
    rw [hK] at x0
    go_enter Try.func18, Try.ntmps18
    go_wp2_with fail
    go_ret
    exact ⟨rfl, (Below.refl _ _).alloc (Nat.le_refl _) _⟩
  · have HE : Hid (usesN (bs s) (l + 1) t = sumU (partU (bs s) l t) t.A.length) := usesN_not hv
    rw [HE.out]
    rw [HE.out] at HU
    have hcase : (¬ t.K = 3) ∨ ((t.K == 3) = true ∧ (t.S.toList == s.toList) = false) := by
      by_cases h3 : t.K = 3
      · exact Or.inr ⟨by simpa using h3, by rw [hstr]; simp; exact fun h => hv ⟨h3, h⟩⟩
      · exact Or.inl h3
    clear hv hstr hm
    rcases hcase with h3 | ⟨h3, hq⟩
    all_goals
      go_enter Try.func18, Try.ntmps18
      go_upto_region 3 with fail
      clear h3
      go_wp2_with fail
      go_loopw [5, 6] (fun v i wr => ∃ (j mm : Nat), j ≤ l3 ∧ i = .int .i64 j ∧ v = .int .i64 mm ∧ Hid (mm = sumU (partU (bs s) l t) j) ∧ mm ≤ 1000 ∧ Below X.heap.size X wr) (fun _ i _ => l3 - (intOf i).toNat)
      case atStart => exact ⟨0, 0, by omega, rfl, rfl, rfl, by omega, by rw [HX.out]; exact Below.refl _ _⟩
      case round =>
        obtain ⟨j, mm, hj, rfl, rfl, hmm, hm0, hbr⟩ := hrel
        have hzr := hbr.size
        have y1 := (hbr.block w.heap.size (by omega)).trans hX1
        obtain ⟨z0, z1, z2, z3, z4, z5, z6, z7, z8⟩ := Nine.box y1
        by_cases hlt : j < l3
        · have hlt' : j < t.A.length := by have := HL.out; omega
          obtain ⟨g, og, rfl, _, hgB, q1, n1, k1, q2, n2, k2, q3, n3, k3, y9, hf1⟩ := hf.m.get j hlt'
          have KN := l2Binds_any t a1 l1 c1 a2 l2 c2 (some ⟨g, og, none⟩) l3 c3 j (by have := HL.out; omega) wr
          obtain ⟨N, hN⟩ : ∃ N, bindsW t.K (bs t.S) (bs t.Z) j = N := ⟨_, rfl⟩
          rw [hN] at KN
          have hNl : N.length ≤ 2 := by rw [← hN]; exact bindsW_len _ _ _ _
          have HN : Hid (bindsW t.K (bs t.S) (bs t.Z) j = N) := hN
          obtain ⟨nn, hnn⟩ : ∃ nn, N.length = nn := ⟨_, rfl⟩
          have hbw : Below w.heap.size w wr := hXb.trans (hbr.mono (by omega))
          have hjl : (j : Int) < (l3 : Int) := by omega
          clear hN
          go_wp2_with fail
          refine KN.mono ?_
          intro e w3 hlit
          obtain ⟨g3, rfl, hb3, ht3⟩ := toks_of_lit hlit (by omega)
          have hz3 := hb3.size
          have KH := l2Has_any _ N s w3 ht3 (by omega)
          rw [hnn] at KH ⊢
          have y3 := (hb3.block w.heap.size (by omega)).trans y1
          have hb3X : Below X.heap.size X w3 := hbr.trans (hb3.mono hzr)
          clear hlit ht3 KN z0 z1 z2 z3 z4 z5 z6 z7 z8
          obtain ⟨z0, z1, z2, z3, z4, z5, z6, z7, z8⟩ := Nine.box y3
          go_wp2_with fail
          refine KH.mono ?_
          rintro e w4 ⟨rfl, hw⟩
          subst hw
          by_cases hmem : bs s ∈ N
          · have HT : decide (bs s ∈ N) = true := by simpa using hmem
            have HM2 : Hid (mm = sumU (partU (bs s) l t) (j + 1)) := by
              show mm = sumU (partU (bs s) l t) j + partU (bs s) l t j
              rw [partU_in hlt' (by rw [HN.out]; exact hmem), Nat.add_zero]
              exact hmm.out
            rw [HT]
            clear hmem
            go_wp2_with fail
            go_roundw
            case rel => exact ⟨j + 1, mm, by omega, by go_num, rfl, HM2, hm0, hb3X⟩
            case measure => simp [intOf]; omega
          · have HT : decide (bs s ∈ N) = false := by simpa using hmem
            rw [HT]
            obtain ⟨mj, hmj⟩ := (nodesM_get hHM.out).2 j hlt'
            have hpu : partU (bs s) l t j = usesN (bs s) l t.A[j] := partU_out hlt' (by rw [HN.out]; exact hmem)
            have hsum : sumU (partU (bs s) l t) (j + 1) ≤ m := by
              have h1 := sumU_le (partU (bs s) l t) (j + 1) (t.A.length - (j + 1))
              rw [show j + 1 + (t.A.length - (j + 1)) = t.A.length by omega] at h1
              omega
            have HSUM : Hid (sumU (partU (bs s) l t) (j + 1) = mm + usesN (bs s) l t.A[j]) := by
              show sumU (partU (bs s) l t) j + partU (bs s) l t j = _
              rw [hpu]
              have := hmm.out
              omega
            have hb3w : Below w.heap.size w w4 := hbw.trans (hb3.mono hbw.size)
            obtain ⟨e0, e1, e2, e3, e4, e5, e6, e7, e8⟩ := y9.below hb3w (by omega)
            have hf3 := Fm.below hb3w hB hf1
            have KI := IH D (d - 1) L B t.A[j] q1 n1 k1 q2 n2 k2 q3 n3 k3 mj s w4 (by omega) hf3 hmj.1 (by omega)
            obtain ⟨u9, hu9⟩ : ∃ u9, usesN (bs s) l t.A[j] = u9 := ⟨_, rfl⟩
            rw [hu9] at KI HSUM
            have hm9 : mm + u9 ≤ 1000 := by have := HSUM.out; omega
            clear hmem hpu hsum hu9 hmj hf3 y9 hf1
            go_wp2_with fail
            refine KI.mono ?_
            rintro e w5 ⟨rfl, hb5⟩
            have hb5X : Below X.heap.size X w5 := hb3X.trans (hb5.mono hb3X.size)
            go_wp2_with fail
            go_roundw
            case rel => exact ⟨j + 1, mm + u9, by omega, by go_num, by go_num, HSUM.out.symm, hm9, hb5X⟩
            case measure => simp [intOf]; omega
        · have hjl : j = t.A.length := by have := HL.out; omega
          have HR : Hid ((mm : Int) = (sumU (partU (bs s) l t) t.A.length : Int)) := by show _ = _; rw [hmm.out, hjl]
          clear hjl
          go_wp2_with fail
          go_ret
          exact ⟨congrArg (fun x : Int => Ending.returned (.int .i64 x)) HR.out, hXb.trans (hbr.mono (by omega))⟩

theorem su_any : ∀ l, SaidSu l := by
  intro l
  induction l with
  | zero =>
    intro D d L B t a1 l1 c1 a2 l2 c2 a3 l3 c3 m s w _ _ hm
    simp [nodesM] at hm
  | succ l ih => exact su_step l ih

end Go.Proofs.Ytdemlfhkhkfceaa
