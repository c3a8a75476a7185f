/-
  The law FnExactParseTerm's walk: whatever text, true.
-/
import Derived.Test.YthmmapahobkhnaaPmZ45
import Derived.Test.YthmmapahobkhnaaPmZ49
namespace Go.Proofs.Ythmmapahobkhnaa
open Go.RowKit Go.PlainAid
set_option linter.unusedVariables false
set_option linter.unusedSimpArgs false

theorem nodes_cntW : ∀ (l : Nat) (t : Tr) (m : Nat), nodesW l t = some m → cnt t = m := by
  intro l
  induction l with
  | zero => intro t m h; simp [nodesW] at h
  | succ l ih =>
    intro t m h
    simp only [nodesW] at h
    split at h
    · cases h1 : nodesL (nodesW l) t.A with
      | none => simp [h1] at h
      | some s =>
        simp [h1] at h
        have key : ∀ (ts : List Tr) (s : Nat), nodesL (nodesW l) ts = some s → cntS ts = s := by
          intro ts
          induction ts with
          | nil => intro s hs; simp [nodesL] at hs; simp [cntS]; omega
          | cons x ts ihl =>
            intro s hs
            simp only [nodesL] at hs
            cases hx : nodesW l x with
            | none => simp [hx] at hs
            | some a =>
              cases hy : nodesL (nodesW l) ts with
              | none => simp [hx, hy] at hs
              | some b =>
                simp [hx, hy] at hs
                have h2 := ihl b hy
                have h3 := ih x a hx
                simp only [cntS, List.map_cons, List.sum_cons] at *
                omega
        rw [cnt_eq, key _ _ h1]
        omega
    · simp at h

theorem okT_cnt {t : Tr} (h : okT t = true) : cnt t ≤ 60 := by
  obtain ⟨m, hm, h6⟩ := okT_le h
  rw [nodes_cntW _ _ _ hm]
  exact h6
theorem tys_cnt : ∀ (ts : List Tr), (∀ x ∈ ts, okT x = true) → cntS ts ≤ 60 * ts.length
  | [], _ => by simp [cntS]
  | x :: ts, h => by
    have h1 := okT_cnt (h x (by simp))
    have h2 := tys_cnt ts fun y hy => h y (by simp [hy])
    simp only [cntS, List.map_cons, List.sum_cons, List.length_cons] at *
    omega

theorem nodesM_cnt : ∀ (l : Nat) (t : Tm) (m : Nat), nodesM l t = some m → cntM t ≤ 200 * m := by
  intro l
  induction l with
  | zero => intro t m h; simp [nodesM] at h
  | succ l ih =>
    intro t m h
    have hnd := nodesM_node h
    obtain ⟨hn, b, hb, rfl⟩ := nodesM_inv2 h
    have hbare := Bare.of hnd
    have hnm := hn.names
    have hT : cntS t.T.A ≤ 60 := by
      by_cases hs : shT t.K = true
      · have h1 := okT_cnt (hn.ty hs)
        rw [cnt_eq] at h1
        omega
      · rw [hbare.ht hs]; simp [cntS]
    have hTs := tys_cnt t.Ts hn.each
    have h2 : t.Ts.length ≤ 2 := by have := hn.ts; have := (shS_bd t.K).2; omega
    have hA := nodeM_len hnd
    have hsub : ∀ (ys : List Tm) (s : Nat), nodesG (nodesM l) ys = some s → subMS ys ≤ 200 * s := by
      intro ys
      induction ys with
      | nil => intro s hs; simp [subMS]
      | cons y ys ihy =>
        intro s hs
        simp only [nodesG] at hs
        cases hy : nodesM l y with
        | none => simp [hy] at hs
        | some a =>
          cases hz : nodesG (nodesM l) ys with
          | none => simp [hy, hz] at hs
          | some c =>
            simp [hy, hz] at hs
            have e1 := ih y a hy
            have e2 := ihy c hz
            simp only [subMS, List.map_cons, List.sum_cons] at *
            omega
    have h3 := hsub _ _ hb
    have h4 := cntM_eq t
    have h5 := cntMS_eq t.A
    have h6 : ownM t = t.S.size + t.Z.size + cntS t.T.A + cntS t.Ts := rfl
    omega

theorem parM_cnt (T : List (List UInt8)) : cntM ((parM T).getD zTm) ≤ 1048576 := by
  cases h : parM T with
  | none => simp only [Option.getD_none]; rw [zTm_cnt]; omega
  | some t =>
    obtain ⟨m, hm, h6⟩ := okM_le (parM_some h).2
    have := nodesM_cnt 24 t m hm
    simp only [Option.getD_some]
    omega

set_option maxRecDepth 100000 in
set_option maxHeartbeats 4000000 in
theorem law_parseTerm (s : ByteArray) (w : World) :
    Calls Try.prog 3 #[.string s] w fun e w' => e = .returned (.bool true) ∧ Below w.heap.size w w' := by
  by_cases hl : s.size ≤ 1048576
  case' neg =>
    have hd : decide ((1048576 : Int) < (s.size : Int)) = true := by rw [decide_eq_true_eq]; omega
    go_enter Try.func3, Try.ntmps3
    go_wp2_with fail
    go_ret
    exact ⟨rfl, Below.refl _ _⟩
  have hd : decide ((1048576 : Int) < (s.size : Int)) = false := by rw [decide_eq_false_iff_not]; omega
  have hRc := parM_cnt (spl (sb s))
  have KS := fun w => sParseTerm_any s w hl
  have KI := fun w => parseTerm_any s w hl
  obtain ⟨R, hR⟩ : ∃ R, R = (parM (spl (sb s))).getD zTm := ⟨_, rfl⟩
  obtain ⟨rb, hrb⟩ : ∃ rb, rb = (parM (spl (sb s))).isSome := ⟨_, rfl⟩
  rw [← hR] at hRc KS KI
  rw [← hrb] at KS KI
  have hbb : (rb != rb) = false := by cases rb <;> rfl
  have HKS : Hid (∀ w : World, Calls Try.prog 4 #[.string s] w fun e w' => TellM w w' 7 24 e R rb) := KS
  have HKI : Hid (∀ w : World, Calls Try.prog 5 #[.string s] w fun e w' => TellM w w' 7 24 e R rb) := KI
  clear hR hrb KS KI
  go_enter Try.func3, Try.ntmps3
  go_wp2_with fail
  refine (HKS.out _).mono ?_
  rintro e w3 ⟨b31, m31, e31, b32, m32, e32, b33, m33, e33, rfl, hb3, hO3⟩
  have hz3 := hb3.size
  obtain ⟨W3, hW3⟩ : ∃ W, W = w3.alloc (.cells #[.int .i64 R.K, .int .i64 R.N, .string R.S, .string R.Z, .int .i64 R.T.K, .int .i64 R.T.N, .slice b31 m31 e31, .slice b32 m32 e32, .slice b33 m33 e33] 27) := ⟨_, rfl⟩
  have hW3s : W3.heap.size = w3.heap.size + 1 := by rw [hW3]; simp
  have hW3b : Below w3.heap.size w3 W3 := by rw [hW3]; exact (Below.refl _ _).alloc (Nat.le_refl _) _
  have hW3n : W3.heap[w3.heap.size]? = some (.cells #[.int .i64 R.K, .int .i64 R.N, .string R.S, .string R.Z, .int .i64 R.T.K, .int .i64 R.T.N, .slice b31 m31 e31, .slice b32 m32 e32, .slice b33 m33 e33] 27 (0, 0)) := by rw [hW3]; exact heap_new rfl
  have HW3 : Hid (W3 = _) := hW3
  have hbW3 : Below w.heap.size w W3 := hb3.trans (hW3b.mono (by omega))
  have hs3 := (hO3.below hW3b (Nat.le_refl _)).fm
  clear hW3 hO3
  go_upto_region 4 with fail
  rw [← HW3.out]
  go_wp2_with fail
  refine (HKI.out _).mono ?_
  rintro e w5 ⟨b51, m51, e51, b52, m52, e52, b53, m53, e53, rfl, hb5, hO5⟩
  have hz5 := hb5.size
  obtain ⟨W5, hW5⟩ : ∃ W, W = w5.alloc (.cells #[.int .i64 R.K, .int .i64 R.N, .string R.S, .string R.Z, .int .i64 R.T.K, .int .i64 R.T.N, .slice b51 m51 e51, .slice b52 m52 e52, .slice b53 m53 e53] 27) := ⟨_, rfl⟩
  have hW5s : W5.heap.size = w5.heap.size + 1 := by rw [hW5]; simp
  have hW5b : Below w5.heap.size w5 W5 := by rw [hW5]; exact (Below.refl _ _).alloc (Nat.le_refl _) _
  have hW5n : W5.heap[w5.heap.size]? = some (.cells #[.int .i64 R.K, .int .i64 R.N, .string R.S, .string R.Z, .int .i64 R.T.K, .int .i64 R.T.N, .slice b51 m51 e51, .slice b52 m52 e52, .slice b53 m53 e53] 27 (0, 0)) := by rw [hW5]; exact heap_new rfl
  have hb35 : Below W3.heap.size W3 W5 := hb5.trans (hW5b.mono (by omega))
  have HW5 : Hid (W5 = _) := hW5
  have hbW5 : Below w.heap.size w W5 := hbW3.trans (hb35.mono (by omega))
  have zW5 := (hb35.block w3.heap.size (by omega)).trans hW3n
  have hs35 := Fm.below hb35 (by omega) hs3
  have hsO5 := (hO5.below hW5b (Nat.le_refl _)).fm
  obtain ⟨gs, hgO, hgn, hgr⟩ := hO5
  have hgO5 := hgO.keep (w' := W5) fun b hb => hW5b.block b (hgr b hb).2
  have HG : Hid (gs.Nodup ∧ ∀ b ∈ gs, W3.heap.size ≤ b ∧ b < w5.heap.size) := ⟨hgn, hgr⟩
  have HSZ : Hid (W3.heap.size = w3.heap.size + 1 ∧ W5.heap.size = w5.heap.size + 1) := ⟨hW3s, hW5s⟩
  obtain ⟨f0, f1, f2, f3, f4, f5, f6, f7, f8⟩ := Nine.box hW5n
  obtain ⟨p0, p1, p2, p3, p4, p5, p6, p7, p8⟩ := Nine.box zW5
  have KE5 := eqTerm_any 7 24 _ _ _ _ R b51 m51 e51 b52 m52 e52 b53 m53 e53 b31 m31 e31 b32 m32 e32 b33 m33 e33 W5 (show w5.heap.size ≤ W5.heap.size by omega) (show w3.heap.size ≤ W5.heap.size by omega) hsO5 hs35
  clear hW5 hgO hgn hgr hs3 hW3n
  go_upto_region 5 with fail
  rw [← HW5.out]
  go_wp2_with fail
  refine KE5.mono ?_
  rintro e w9 ⟨rfl, hb9⟩
  have hz9 := hb9.size
  have hb9w : Below w.heap.size w w9 := hbW5.trans (hb9.mono (by omega))
  have z9 := (hb9.block w3.heap.size (by omega)).trans zW5
  have g9 := (hb9.block w5.heap.size (by omega)).trans hW5n
  have hs39 := Fm.below hb9 (by omega) hs35
  have hgO9 := hgO5.keep (w' := w9) fun b hb => hb9.block b (by have := (HG.out.2 b hb).2; omega)
  clear f0 f1 f2 f3 f4 f5 f6 f7 f8 p0 p1 p2 p3 p4 p5 p6 p7 p8 zW5 hW5n hs35 hsO5 hgO5 KE5
  obtain ⟨f0, f1, f2, f3, f4, f5, f6, f7, f8⟩ := Nine.box g9
  go_wp2_with fail
  refine (markTermM_any 7 24 R _ _ _ _ _ _ _ _ _ gs _ hgO9 HG.out.1 (fun b hb => by have := (HG.out.2 b hb).2; omega) hRc).mono ?_
  rintro e w10 ⟨k10, rfl, hk101, hk102, hc10, hBr⟩
  have hz10 := hc10.size
  have hng : ∀ b, b < W3.heap.size ∨ w5.heap.size ≤ b → b ∉ gs := fun b hb hm => by have := HG.out.2 b hm; omega
  have z10 := (hc10.block w3.heap.size (by omega) (hng _ (by omega))).trans z9
  have g10 := (hc10.block w5.heap.size (by omega) (hng _ (by omega))).trans g9
  have hs310 := Fm.keep (w' := w10) (fun k hk1 hk2 => hc10.block k (by omega) (hng _ (by omega))) (Nat.le_refl _) (Nat.le_refl _) hs39
  have hb10w : Below w.heap.size w w10 := Chg.below hb9w hc10 (by omega) (fun b hb => by have := (HG.out.2 b hb).1; omega)
  have hk10n : ¬ k10 < 0 := by omega
  clear f0 f1 f2 f3 f4 f5 f6 f7 f8 z9 g9 hs39 hgO9 hc10 hng
  obtain ⟨f0, f1, f2, f3, f4, f5, f6, f7, f8⟩ := Nine.box g10
  go_wp2_with fail
  refine (heldTermM_any 7 24 R _ _ _ _ _ _ _ _ _ gs k10 _ hBr (fun b hb => by have := (HG.out.2 b hb).2; omega) hk102).mono ?_
  rintro e w11 ⟨rfl, hb11⟩
  have hz11 := hb11.size
  have hb11w : Below w.heap.size w w11 := hb10w.trans (hb11.mono (by omega))
  have z11 := (hb11.block w3.heap.size (by omega)).trans z10
  have g11 := (hb11.block w5.heap.size (by omega)).trans g10
  have hs311 := Fm.below hb11 (by omega) hs310
  have hBr11 := hBr.keep (w' := w11) fun b hb => hb11.block b (by have := (HG.out.2 b hb).2; omega)
  clear f0 f1 f2 f3 f4 f5 f6 f7 f8 z10 g10 hs310 hBr
  go_wp2_with fail
  refine (HKI.out _).mono ?_
  rintro e w13 ⟨b61, m61, e61, b62, m62, e62, b63, m63, e63, rfl, hb13, hO13⟩
  have hz13 := hb13.size
  obtain ⟨W13, hW13⟩ : ∃ W, W = w13.alloc (.cells #[.int .i64 R.K, .int .i64 R.N, .string R.S, .string R.Z, .int .i64 R.T.K, .int .i64 R.T.N, .slice b61 m61 e61, .slice b62 m62 e62, .slice b63 m63 e63] 27) := ⟨_, rfl⟩
  have hW13s : W13.heap.size = w13.heap.size + 1 := by rw [hW13]; simp
  have hW13b : Below w13.heap.size w13 W13 := by rw [hW13]; exact (Below.refl _ _).alloc (Nat.le_refl _) _
  have hW13n : W13.heap[w13.heap.size]? = some (.cells #[.int .i64 R.K, .int .i64 R.N, .string R.S, .string R.Z, .int .i64 R.T.K, .int .i64 R.T.N, .slice b61 m61 e61, .slice b62 m62 e62, .slice b63 m63 e63] 27 (0, 0)) := by rw [hW13]; exact heap_new rfl
  have hb11W : Below w11.heap.size w11 W13 := hb13.trans (hW13b.mono (by omega))
  have hbW13 : Below w.heap.size w W13 := hb11w.trans (hb11W.mono (by omega))
  have zW := (hb11W.block w3.heap.size (by omega)).trans z11
  have gW := (hb11W.block w5.heap.size (by omega)).trans g11
  have hs313 := Fm.below hb11W (by omega) hs311
  have hs6W := (hO13.below hW13b (Nat.le_refl _)).fm
  have hBr13 := hBr11.keep (w' := W13) fun b hb => hb11W.block b (by have := (HG.out.2 b hb).2; omega)
  have HW13 : Hid (W13 = _) := hW13
  obtain ⟨p0, p1, p2, p3, p4, p5, p6, p7, p8⟩ := Nine.box zW
  obtain ⟨q0, q1, q2, q3, q4, q5, q6, q7, q8⟩ := Nine.box hW13n
  have KE13 := eqTerm_any 7 24 _ _ _ _ R b61 m61 e61 b62 m62 e62 b63 m63 e63 b31 m31 e31 b32 m32 e32 b33 m33 e33 W13 (show w13.heap.size ≤ W13.heap.size by omega) (show w3.heap.size ≤ W13.heap.size by omega) hs6W hs313
  clear hW13 z11 g11 hs311 hBr11 hO13
  go_upto_region 16 with fail
  rw [← HW13.out]
  go_wp2_with fail
  refine KE13.mono ?_
  rintro e w14 ⟨rfl, hb14⟩
  have hz14 := hb14.size
  have hb14w : Below w.heap.size w w14 := hbW13.trans (hb14.mono (by omega))
  have g14 := (hb14.block w5.heap.size (by omega)).trans gW
  have hBr14 := hBr13.keep (w' := w14) fun b hb => hb14.block b (by have := (HG.out.2 b hb).2; omega)
  clear p0 p1 p2 p3 p4 p5 p6 p7 p8 q0 q1 q2 q3 q4 q5 q6 q7 q8 zW gW hs313 hs6W hBr13 KE13
  obtain ⟨f0, f1, f2, f3, f4, f5, f6, f7, f8⟩ := Nine.box g14
  go_wp2_with fail
  refine (heldTermM_any 7 24 R _ _ _ _ _ _ _ _ _ gs k10 _ hBr14 (fun b hb => by have := (HG.out.2 b hb).2; omega) hk102).mono ?_
  rintro e w15 ⟨rfl, hb15⟩
  go_wp2_with fail
  go_ret
  exact ⟨rfl, hb14w.trans (hb15.mono (by omega))⟩

end Go.Proofs.Ythmmapahobkhnaa
