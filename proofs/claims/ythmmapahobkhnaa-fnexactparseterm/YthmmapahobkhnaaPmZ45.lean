/-
  The model's 'l2Text' at every right term, and its 'TermText'.
-/
import Derived.Test.YthmmapahobkhnaaPmLx1
import Derived.Test.YthmmapahobkhnaaPmLx2
import Derived.Test.YthmmapahobkhnaaPmLx3
import Derived.Test.YthmmapahobkhnaaPmLx4
import Derived.Test.YthmmapahobkhnaaPmZ40
import Derived.LoopN
import Derived.Test.YthmmapahobkhnaaPmZ34
import Derived.Test.YthmmapahobkhnaaPmZ37
import Derived.Test.YthmmapahobkhnaaPmZ38
namespace Go.Proofs.Ythmmapahobkhnaa
open Go.RowKit
set_option linter.unusedVariables false
set_option linter.unusedSimpArgs false

theorem lx_zero : SaidLX 0 := by
  intro D d L B t a1 l1 c1 a2 l2 c2 a3 l3 c3 m w hB hf hm
  simp [nodesM] at hm

set_option maxHeartbeats 1000000 in
theorem lx_succ (l : Nat) (IH : SaidLX l) : SaidLX (l + 1) := by
  intro D d L B t a1 l1 c1 a2 l2 c2 a3 l3 c3 m w hB hf hm hm6
  obtain ⟨hN, _⟩ := nodesM_inv2 hm
  have hk1 := hN.k1
  have hk2 := hN.k17
  have hK : t.K = 1 ∨ t.K = 2 ∨ t.K = 3 ∨ t.K = 4 ∨ t.K = 5 ∨ t.K = 6 ∨ t.K = 7 ∨ t.K = 8 ∨ t.K = 9 ∨ t.K = 10 ∨ t.K = 11 ∨ t.K = 12 ∨ t.K = 13 ∨ t.K = 14 ∨ t.K = 15 ∨ t.K = 16 ∨ t.K = 17 := by omega
  have n1 := hN.n1
  have n2 := hN.n2
  rcases hK with hK | hK | hK | hK | hK | hK | hK | hK | hK | hK | hK | hK | hK | hK | hK | hK | hK
  · exact lx_1 l IH D d L B t a1 l1 c1 a2 l2 c2 a3 l3 c3 m w hB hf hm hm6 hK
  · rw [hK] at n1 n2
    have el : shL 2 = 0 := rfl
    have em : shM 2 = 1 := rfl
    have hc : t.N = 0 ∨ t.N = 1 := by omega
    rcases hc with hc | hc
    · exact lx_2_0 l IH D d L B t a1 l1 c1 a2 l2 c2 a3 l3 c3 m w hB hf hm hm6 hK hc
    · exact lx_2_1 l IH D d L B t a1 l1 c1 a2 l2 c2 a3 l3 c3 m w hB hf hm hm6 hK hc
  · exact lx_3 l IH D d L B t a1 l1 c1 a2 l2 c2 a3 l3 c3 m w hB hf hm hm6 hK
  · exact lx_4 l IH D d L B t a1 l1 c1 a2 l2 c2 a3 l3 c3 m w hB hf hm hm6 hK
  · exact lx_5 l IH D d L B t a1 l1 c1 a2 l2 c2 a3 l3 c3 m w hB hf hm hm6 hK
  · exact lx_6 l IH D d L B t a1 l1 c1 a2 l2 c2 a3 l3 c3 m w hB hf hm hm6 hK
  · exact lx_7 l IH D d L B t a1 l1 c1 a2 l2 c2 a3 l3 c3 m w hB hf hm hm6 hK
  · exact lx_8 l IH D d L B t a1 l1 c1 a2 l2 c2 a3 l3 c3 m w hB hf hm hm6 hK
  · exact lx_9 l IH D d L B t a1 l1 c1 a2 l2 c2 a3 l3 c3 m w hB hf hm hm6 hK
  · exact lx_10 l IH D d L B t a1 l1 c1 a2 l2 c2 a3 l3 c3 m w hB hf hm hm6 hK
  · exact lx_11 l IH D d L B t a1 l1 c1 a2 l2 c2 a3 l3 c3 m w hB hf hm hm6 hK
  · exact lx_12 l IH D d L B t a1 l1 c1 a2 l2 c2 a3 l3 c3 m w hB hf hm hm6 hK
  · exact lx_13 l IH D d L B t a1 l1 c1 a2 l2 c2 a3 l3 c3 m w hB hf hm hm6 hK
  · exact lx_14 l IH D d L B t a1 l1 c1 a2 l2 c2 a3 l3 c3 m w hB hf hm hm6 hK
  · rw [hK] at n1 n2
    have el : shL 15 = 1 := rfl
    have em : shM 15 = 5 := rfl
    have hc : t.N = 1 ∨ t.N = 2 ∨ t.N = 3 ∨ t.N = 4 ∨ t.N = 5 := by omega
    rcases hc with hc | hc | hc | hc | hc
    · exact lx_15_1 l IH D d L B t a1 l1 c1 a2 l2 c2 a3 l3 c3 m w hB hf hm hm6 hK hc
    · exact lx_15_2 l IH D d L B t a1 l1 c1 a2 l2 c2 a3 l3 c3 m w hB hf hm hm6 hK hc
    · exact lx_15_3 l IH D d L B t a1 l1 c1 a2 l2 c2 a3 l3 c3 m w hB hf hm hm6 hK hc
    · exact lx_15_4 l IH D d L B t a1 l1 c1 a2 l2 c2 a3 l3 c3 m w hB hf hm hm6 hK hc
    · exact lx_15_5 l IH D d L B t a1 l1 c1 a2 l2 c2 a3 l3 c3 m w hB hf hm hm6 hK hc
  · exact lx_16 l IH D d L B t a1 l1 c1 a2 l2 c2 a3 l3 c3 m w hB hf hm hm6 hK
  · exact lx_17 l IH D d L B t a1 l1 c1 a2 l2 c2 a3 l3 c3 m w hB hf hm hm6 hK

theorem lx_any (l : Nat) : SaidLX l := by
  induction l with
  | zero => exact lx_zero
  | succ l ih => exact lx_succ l ih

end Go.Proofs.Ythmmapahobkhnaa

/-
  What the model's 'ParseTerm' comes to.
-/
namespace Go.Proofs.Ythmmapahobkhnaa
open Go.RowKit Go.PlainAid
set_option linter.unusedVariables false
set_option linter.unusedSimpArgs false

/-- Whatever the model's reader read: what is a right term's text it has read right. -/
theorem par_read {T : List (List UInt8)} {t : Tm} {a' : Nat} {b' : Bool} (h : RdO (termS 24) T 0 false t a' b') {t0 : Tm} (hp : parM T = some t0) : b' = false ∧ t = t0 := by
  have k := h.2 rfl
  rw [List.drop_zero, termS_of hp] at k
  exact ⟨k.1, k.2.1⟩

set_option maxRecDepth 100000 in
set_option maxHeartbeats 1000000 in
theorem sParseTerm_any (s : ByteArray) (w : World) (hl : s.size ≤ 1048576) :
    Calls Try.prog 4 #[.string s] w fun e w' => TellM w w' 7 24 e ((parM (spl (sb s))).getD zTm) (parM (spl (sb s))).isSome := by
  obtain ⟨X, hX⟩ : ∃ X, X = w.alloc (.cells #[.int .i64 0, .int .i64 0, .string ⟨#[]⟩, .string ⟨#[]⟩, .int .i64 0, .int .i64 0, .slice none 0 0, .slice none 0 0, .slice none 0 0] 27) := ⟨_, rfl⟩
  have hXb : Below w.heap.size w X := by rw [hX]; exact (Below.refl _ _).alloc (Nat.le_refl _) _
  have hXs : X.heap.size = w.heap.size + 1 := by rw [hX]; simp
  have hXr : X.heap[w.heap.size]? = some (.cells #[.int .i64 0, .int .i64 0, .string ⟨#[]⟩, .string ⟨#[]⟩, .int .i64 0, .int .i64 0, .slice none 0 0, .slice none 0 0, .slice none 0 0] 27 (0, 0)) := by rw [hX]; exact heap_new rfl
  have HX : Hid (X = _) := hX
  clear hX
  have hsl : (sb s).length = s.size := sb_len s
  have htl : (spl (sb s)).length ≤ 1048577 := by have := spl_len (sb s); omega
  have HEA : Hid (∀ x ∈ spl (sb s), x.length ≤ 1048577) := fun x hx => by have := spl_each (sb s) x hx; omega
  have HTX : Hid (∀ t, parM (spl (sb s)) = some t ↔ (okM t = true ∧ txM t = sb s)) := fun t => parM_text (sb s) t
  obtain ⟨T, hT⟩ : ∃ T, T = spl (sb s) := ⟨_, rfl⟩
  have HSP : Hid (∀ w, Calls Try.prog 9 #[.string s] w fun e w' => ∃ v : Value, e = .returned v ∧ Below w.heap.size w w' ∧ Toks w.heap.size w' v T) := fun w => by
    have := l1Split_any s w hl
    rw [hT]
    exact this
  rw [← hT] at htl HEA HTX ⊢
  clear hT hsl
  go_enter Try.func4, Try.ntmps4
  go_wp2_with fail
  rw [← HX.out]
  refine (HSP.out _).mono ?_
  rintro e w1 ⟨v, rfl, hb1, hT1⟩
  obtain ⟨ao, cap, rfl, hS⟩ := toks_stx hT1
  have hz1 := hb1.size
  have hr1 := (hb1.block w.heap.size (by omega)).trans hXr
  have hbw1 : Below w.heap.size w w1 := hXb.trans (hb1.mono (by omega))
  have ZF : Hid (∀ (W : World) (e : Ending), Below w.heap.size w W → parM T = none → e = .returned (.tuple #[.agg #[.int .i64 0, .int .i64 0, .string ⟨#[]⟩, .string ⟨#[]⟩, .int .i64 0, .int .i64 0, .slice none 0 0, .slice none 0 0, .slice none 0 0], .bool false]) → TellM w W 7 24 e ((parM T).getD zTm) (parM T).isSome) := fun W e hW hn he => by
    rw [hn]
    exact ⟨none, 0, 0, none, 0, 0, none, 0, 0, he, hW, zTm_fmO _ _ _ _ _ hW.size⟩
  obtain ⟨W1, hW1⟩ : ∃ W1, W1 = w1.alloc (.cells #[.slice ao T.length cap, .int .i64 0, .bool false] 37) := ⟨_, rfl⟩
  have hA : Below w1.heap.size w1 W1 := by rw [hW1]; exact (Below.refl _ _).alloc (Nat.le_refl _) _
  have hzW1 : W1.heap.size = w1.heap.size + 1 := by rw [hW1]; simp
  have hR : Rdr _ w1.heap.size W1 w1.heap.size ao T.length cap 0 false T := ⟨by rw [hW1]; exact heap_new rfl, hS.below hA (Nat.le_refl _), Nat.zero_le _, htl, Nat.le_refl _⟩
  have hbW1 : Below w.heap.size w W1 := hbw1.trans (hA.mono (by omega))
  have hrW1 := (hA.block w.heap.size (by omega)).trans hr1
  have HW1 : Hid (W1 = _) := hW1
  have KT := l2Read_any 24 (by omega) w1.heap.size ao T.length cap 0 _ w1.heap.size false T W1 HEA.out hR
  clear hT1 hW1
  go_upto_region 2 with fail
  rw [← HW1.out]
  go_wp2_with fail
  refine KT.mono ?_
  rintro e w2 ⟨t, t1, m1, d1, t2, m2, d2, t3, m3, d3, a2, b2, rfl, hg2, hR2, hO2, ho2⟩
  have hz2 := hg2.size
  have hbw2 : Below w.heap.size w w2 := below_gr hbW1 hg2 (by omega) (by omega)
  have hr2 := (hg2.block w.heap.size (by omega) (by simp; omega)).trans hrW1
  obtain ⟨W2, hW2⟩ : ∃ W2, W2 = w2.alloc (.cells #[.int .i64 t.K, .int .i64 t.N, .string t.S, .string t.Z, .int .i64 t.T.K, .int .i64 t.T.N, .slice t1 m1 d1, .slice t2 m2 d2, .slice t3 m3 d3] 27) := ⟨_, rfl⟩
  have hA2 : Below w2.heap.size w2 W2 := by rw [hW2]; exact (Below.refl _ _).alloc (Nat.le_refl _) _
  have hzW2 : W2.heap.size = w2.heap.size + 1 := by rw [hW2]; simp
  have hbx : W2.heap[w2.heap.size]? = some (.cells #[.int .i64 t.K, .int .i64 t.N, .string t.S, .string t.Z, .int .i64 t.T.K, .int .i64 t.T.N, .slice t1 m1 d1, .slice t2 m2 d2, .slice t3 m3 d3] 27 (0, 0)) := by rw [hW2]; exact heap_new rfl
  have hbW2 : Below w.heap.size w W2 := hbw2.trans (hA2.mono (by omega))
  have hrW2 := (hA2.block w.heap.size (by omega)).trans hr2
  have hRW2 := hR2.below hA2
  have hoW2 := ho2.below hA2 (Nat.le_refl _)
  have HW2 : Hid (W2 = _) := hW2
  have HPR : Hid (∀ t0, parM T = some t0 → b2 = false ∧ t = t0) := fun t0 h0 => par_read hO2 h0
  obtain ⟨q0, q1, q2⟩ := box_cells hRW2.row
  clear hW2 hO2
  obtain ⟨r0, r1, r2, r3, r4, r5, r6, r7, r8⟩ := Nine.box hrW2
  have rf := row_free hrW2
  obtain ⟨e0, e1, e2, e3, e4, e5, e6, e7, e8⟩ := Nine.box hbx
  cases b2 with
  | true =>
    have HN : Hid (parM T = none) := by
      show _ = _
      cases hp : parM T with
      | none => rfl
      | some t0 => have := (HPR.out t0 hp).1; cases this
    have HF : Hid (Below w.heap.size w (set9 W2 w.heap.size 0 (.int .i64 0) (.int .i64 0) (.string ⟨#[]⟩) (.string ⟨#[]⟩) (.int .i64 0) (.int .i64 0) (.slice none 0 0) (.slice none 0 0) (.slice none 0 0))) := set9_below hbW2 (Nat.le_refl _)
    go_upto_region 3 with fail
    rw [← HW2.out]
    go_wp2_with fail
    refine bodyPost_ret (v := .tuple #[.agg #[.int .i64 0, .int .i64 0, .string ⟨#[]⟩, .string ⟨#[]⟩, .int .i64 0, .int .i64 0, .slice none 0 0, .slice none 0 0, .slice none 0 0], .bool false]) (by simp [results, Try.results4, go_sem, r0, r1, r2, r3, r4, r5, r6, r7, r8]) rfl ?_
    exact ZF.out _ _ HF.out HN.out rfl
  | false =>
    have KO := sTermOk_any 7 24 _ _ t t1 m1 d1 t2 m2 d2 t3 m3 d3 W2 (by omega) hoW2.fm
    go_upto_region 3 with fail
    rw [← HW2.out]
    go_wp2_with fail
    refine KO.mono ?_
    rintro e w3 ⟨rfl, hb3⟩
    have hz3 := hb3.size
    have hbw3 : Below w.heap.size w w3 := hbW2.trans (hb3.mono (by omega))
    have hr3 := (hb3.block w.heap.size (by omega)).trans hrW2
    have hb3x := (hb3.block w2.heap.size (by omega)).trans hbx
    have ho3 := hoW2.below hb3 (by omega)
    clear r0 r1 r2 r3 r4 r5 r6 r7 r8 rf e0 e1 e2 e3 e4 e5 e6 e7 e8 q0 q1 q2
    obtain ⟨r0, r1, r2, r3, r4, r5, r6, r7, r8⟩ := Nine.box hr3
    have rf := row_free hr3
    obtain ⟨e0, e1, e2, e3, e4, e5, e6, e7, e8⟩ := Nine.box hb3x
    cases hok : okM t with
    | false =>
      have HN : Hid (parM T = none) := by
        show _ = _
        cases hp : parM T with
        | none => rfl
        | some t0 =>
          have h1 := (HPR.out t0 hp).2
          subst h1
          rw [(parM_some hp).2] at hok
          cases hok
      have HF : Hid (Below w.heap.size w (set9 w3 w.heap.size 0 (.int .i64 0) (.int .i64 0) (.string ⟨#[]⟩) (.string ⟨#[]⟩) (.int .i64 0) (.int .i64 0) (.slice none 0 0) (.slice none 0 0) (.slice none 0 0))) := set9_below hbw3 (Nat.le_refl _)
      clear hok
      go_wp2_with fail
      refine bodyPost_ret (v := .tuple #[.agg #[.int .i64 0, .int .i64 0, .string ⟨#[]⟩, .string ⟨#[]⟩, .int .i64 0, .int .i64 0, .slice none 0 0, .slice none 0 0, .slice none 0 0], .bool false]) (by simp [results, Try.results4, go_sem, r0, r1, r2, r3, r4, r5, r6, r7, r8]) rfl ?_
      exact ZF.out _ _ HF.out HN.out rfl
    | true =>
      obtain ⟨m, hm, hm150⟩ := okM_le hok
      have KX := lx_any 24 7 24 _ _ t t1 m1 d1 t2 m2 d2 t3 m3 d3 m w3 (show w2.heap.size ≤ w3.heap.size by omega) ho3.fm hm (by omega)
      have HTT : Hid (txM t = Lib.join (toksM 24 t) [32]) := by show _ = _; unfold txM; rw [if_pos hok]
      have HOK : Hid (okM t = true) := hok
      clear hok hm
      go_wp2_with fail
      refine KX.mono ?_
      rintro e w4 ⟨rfl, hb4⟩
      have hz4 := hb4.size
      have hbw4 : Below w.heap.size w w4 := hbw3.trans (hb4.mono (by omega))
      have hr4 := (hb4.block w.heap.size (by omega)).trans hr3
      have hb4x := (hb4.block w2.heap.size (by omega)).trans hb3x
      have ho4 := ho3.below hb4 (by omega)
      clear r0 r1 r2 r3 r4 r5 r6 r7 r8 rf e0 e1 e2 e3 e4 e5 e6 e7 e8
      obtain ⟨r0, r1, r2, r3, r4, r5, r6, r7, r8⟩ := Nine.box hr4
      have rf := row_free hr4
      obtain ⟨e0, e1, e2, e3, e4, e5, e6, e7, e8⟩ := Nine.box hb4x
      have hsl2 : s.toList = sb s := ByteArray.toList_eq s
      obtain ⟨J, hJ⟩ : ∃ J, J = Lib.join (toksM 24 t) [32] := ⟨_, rfl⟩
      have HJ : Hid (J = txM t) := by show _ = _; rw [hJ, HTT.out]
      rw [← hJ]
      clear hJ
      by_cases hq : J = sb s
      · have hqb : (J != s.toList) = false := by rw [hsl2, hq]; simp
        have hqc : (J == s.toList) = true := by rw [hsl2, hq]; simp
        have HN : Hid (parM T = some t) := (HTX.out t).2 ⟨HOK.out, HJ.out.symm.trans hq⟩
        have HF : Hid (TellM w (set9 w4 w.heap.size 0 (.int .i64 t.K) (.int .i64 t.N) (.string t.S) (.string t.Z) (.int .i64 t.T.K) (.int .i64 t.T.N) (.slice t1 m1 d1) (.slice t2 m2 d2) (.slice t3 m3 d3)) 7 24 (.returned (.tuple #[.agg #[.int .i64 t.K, .int .i64 t.N, .string t.S, .string t.Z, .int .i64 t.T.K, .int .i64 t.T.N, .slice t1 m1 d1, .slice t2 m2 d2, .slice t3 m3 d3], .bool true])) ((parM T).getD zTm) (parM T).isSome) := by
          show TellM _ _ _ _ _ _ _
          rw [HN.out]
          exact ⟨t1, m1, d1, t2, m2, d2, t3, m3, d3, rfl, set9_below hbw4 (Nat.le_refl _), ho4.keep (fun q hq _ => set9_other _ (by omega)) (by omega) (by rw [set9_size]; omega)⟩
        clear hq hsl2
        go_wp2_with fail
        refine bodyPost_ret (v := .tuple #[.agg #[.int .i64 t.K, .int .i64 t.N, .string t.S, .string t.Z, .int .i64 t.T.K, .int .i64 t.T.N, .slice t1 m1 d1, .slice t2 m2 d2, .slice t3 m3 d3], .bool true]) (by simp [results, Try.results4, go_sem, r0, r1, r2, r3, r4, r5, r6, r7, r8]) rfl ?_
        exact HF.out
      · have hqb : (J != s.toList) = true := by rw [hsl2, bne_iff_ne]; exact hq
        have hqc : (J == s.toList) = false := by rw [hsl2, beq_eq_false_iff_ne]; exact hq
        have HN : Hid (parM T = none) := by
          show _ = _
          cases hp : parM T with
          | none => rfl
          | some t0 =>
            have h1 := (HPR.out t0 hp).2
            subst h1
            exact (hq (HJ.out.trans ((HTX.out t).1 hp).2)).elim
        have HF : Hid (Below w.heap.size w (set9 w4 w.heap.size 0 (.int .i64 0) (.int .i64 0) (.string ⟨#[]⟩) (.string ⟨#[]⟩) (.int .i64 0) (.int .i64 0) (.slice none 0 0) (.slice none 0 0) (.slice none 0 0))) := set9_below hbw4 (Nat.le_refl _)
        clear hq hsl2
        go_wp2_with fail
        refine bodyPost_ret (v := .tuple #[.agg #[.int .i64 0, .int .i64 0, .string ⟨#[]⟩, .string ⟨#[]⟩, .int .i64 0, .int .i64 0, .slice none 0 0, .slice none 0 0, .slice none 0 0], .bool false]) (by simp [results, Try.results4, go_sem, r0, r1, r2, r3, r4, r5, r6, r7, r8]) rfl ?_
        exact ZF.out _ _ HF.out HN.out rfl

end Go.Proofs.Ythmmapahobkhnaa
