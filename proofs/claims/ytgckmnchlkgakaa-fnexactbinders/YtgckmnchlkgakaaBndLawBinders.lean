/-
  The law FnExactBinders's walk: whatever term lies in memory, true.
-/
import Derived.Test.YtgckmnchlkgakaaBndBn1
import Derived.Test.YtgckmnchlkgakaaBndBn2
import Derived.Test.YtgckmnchlkgakaaBndMkW
import Derived.Test.YtgckmnchlkgakaaBndMs2
import Derived.Test.YtgckmnchlkgakaaBndToM2
import Derived.Test.YtgckmnchlkgakaaBndSzM
import Derived.Test.YtgckmnchlkgakaaBndToM
import Derived.Test.YtgckmnchlkgakaaBndEqM
namespace Go.Proofs.Ytgckmnchlkgakaa
open Go.RowKit
set_option linter.unusedVariables false
set_option linter.unusedSimpArgs false

theorem eqSame_any {base base' : Nat} {v u : Value} (P : List (List UInt8)) (w : World) (h : Toks base w v P) (k : Toks base' w u P) (hl : P.length ≤ 300) : Calls Try.prog 12 #[v, u] w fun e w' => e = .returned (.bool true) ∧ Below w.heap.size w w' :=
  (eqStringS_any v u P P w h k (by omega) (by omega)).mono fun e w' ⟨h1, h2⟩ => ⟨by rw [h1]; simp, h2⟩

theorem mark1_any {base : Nat} (v : Value) (P : List (List UInt8)) (w : World) (h : Toks base w v P) (hb : base ≤ w.heap.size) (hl : P.length ≤ 300) :
    Calls Try.prog 15 #[v, .int .i64 1] w fun e w' => e = .returned (.int .i64 (1 + (P.length : Int))) ∧ Ko v w v w' ∧ Toks base w' v (marks 1 P.length) :=
  (markStringS_any v P 1 w h hb (by omega)).mono fun e w' ⟨h1, h2⟩ => ⟨by rw [h1]; simp, h2⟩
theorem held1_any {base : Nat} (v : Value) (n : Nat) (w : World) (h : Toks base w v (marks 1 n)) (hl : n ≤ 300) :
    Calls Try.prog 16 #[v, .int .i64 1] w fun e w' => e = .returned (.int .i64 (1 + (n : Int))) ∧ Below w.heap.size w w' :=
  (heldStringS_any v n 1 w h (by omega)).mono fun e w' ⟨h1, h2⟩ => ⟨by rw [h1]; simp, h2⟩

set_option maxRecDepth 100000 in
set_option maxHeartbeats 4000000 in
theorem law_binders (D d L B : Nat) (t : Tm) (a1 : Option Addr) (l1 c1 : Nat) (a2 : Option Addr) (l2 c2 : Nat) (a3 : Option Addr) (l3 c3 : Nat) (w : World) (hB : B ≤ w.heap.size) (hf : Fm L B w D d t a1 l1 a2 l2 a3 l3) :
    Calls Try.prog 3 #[.agg #[.int .i64 t.K, .int .i64 t.N, .string t.S, .string t.Z, .int .i64 t.T.K, .int .i64 t.T.N, .slice a1 l1 c1, .slice a2 l2 c2, .slice a3 l3 c3]] w fun e w' => e = .returned (.bool true) ∧ Below w.heap.size w w' := by
  obtain ⟨X, hX⟩ : ∃ X, X = w.alloc (.cells #[.int .i64 t.K, .int .i64 t.N, .string t.S, .string t.Z, .int .i64 t.T.K, .int .i64 t.T.N, .slice a1 l1 c1, .slice a2 l2 c2, .slice a3 l3 c3] 27) := ⟨_, rfl⟩
  have hXs : X.heap.size = w.heap.size + 1 := by rw [hX]; simp
  have hXb : Below w.heap.size w X := by rw [hX]; exact (Below.refl _ _).alloc (Nat.le_refl _) _
  have hX1 : X.heap[w.heap.size]? = some (.cells #[.int .i64 t.K, .int .i64 t.N, .string t.S, .string t.Z, .int .i64 t.T.K, .int .i64 t.T.N, .slice a1 l1 c1, .slice a2 l2 c2, .slice a3 l3 c3] 27 (0, 0)) := by rw [hX]; exact heap_new rfl
  have hf1 := Fm.below hXb hB hf
  have HX : Hid (X = _) := hX
  clear hX
  by_cases hc : (cntM t : Int) ≤ 1048576
  · have hcn : cntM t ≤ 1048576 := by omega
    go_enter Try.func3, Try.ntmps3
    go_wp2_with fail
    rw [← HX.out]
    refine (szTerm_any D d L B t _ _ _ _ _ _ _ _ _ _ _ (by omega) hf1 (by omega) (by omega)).mono ?_
    rintro e w1 ⟨rfl, hb1⟩
    rw [szN_pos hc]
    have hz1 := hb1.size
    have hb1w : Below w.heap.size w w1 := hXb.trans (hb1.mono (by omega))
    have y1 := (hb1.block _ (by omega)).trans hX1
    obtain ⟨f0, f1, f2, f3, f4, f5, f6, f7, f8⟩ := Nine.box y1
    go_wp2_with fail
    refine (toTerm_any D d L B t _ _ _ _ _ _ _ _ _ _ (by omega) (Fm.below hb1w hB hf) hcn).mono ?_
    rintro e w2 ⟨g21, g22, g23, rfl, hb2, hs2⟩
    have hz2 := hb2.size
    go_wp2_with fail
    refine (sBinders_any D d _ _ t _ _ _ _ _ _ _ _ _ _ (Nat.le_refl _) hs2).mono ?_
    rintro e w3 ⟨v0, rfl, hb3, hT0⟩
    have hz3 := hb3.size
    have hb3w : Below w.heap.size w w3 := (hb1w.trans (hb2.mono (by omega))).trans (hb3.mono (by omega))
    have y3 := (hb3.block _ (by omega)).trans ((hb2.block _ (by omega)).trans y1)
    clear f0 f1 f2 f3 f4 f5 f6 f7 f8
    obtain ⟨f0, f1, f2, f3, f4, f5, f6, f7, f8⟩ := Nine.box y3
    go_wp2_with fail
    refine (toTerm_any2 D d L B t _ _ _ _ _ _ _ _ _ _ (by omega) (Fm.below hb3w hB hf) hcn).mono ?_
    rintro e w4 ⟨g41, g42, g43, rfl, hb4, hsO⟩
    have hs4 := hsO.fm
    obtain ⟨ms, hfO, hms, hmr⟩ := hsO
    have hz4 := hb4.size
    go_wp2_with fail
    have hb4a : Below w4.heap.size w4 (w4.alloc (.cells #[.int .i64 t.K, .int .i64 t.N, .string t.S, .string t.Z, .int .i64 t.T.K, .int .i64 t.T.N, .slice (some ⟨g41, 0, none⟩) l1 l1, .slice (some ⟨g42, 0, none⟩) l2 l2, .slice (some ⟨g43, 0, none⟩) l3 l3] 36)) := (Below.refl _ _).alloc (Nat.le_refl _) _
    have hs4a := Fm.below hb4a (Nat.le_refl _) hs4
    refine (binders_any D d _ _ t _ _ _ _ _ _ _ _ _ _ (by simp) hs4a).mono ?_
    rintro e w5 ⟨v1, rfl, hb5, hT1⟩
    have hz5 := hb5.size
    simp only [World.size_alloc] at hz5
    have hb5w : Below w.heap.size w w5 := ((hb3w.trans (hb4.mono (by omega))).trans (hb4a.mono (by omega))).trans (hb5.mono (by simp; omega))
    have y5 := (hb5.block w.heap.size (by simp; omega)).trans ((hb4a.block _ (by omega)).trans ((hb4.block _ (by omega)).trans y3))
    have x5 : w5.heap[w4.heap.size]? = _ := (hb5.block w4.heap.size (by simp)).trans (heap_new rfl)
    clear f0 f1 f2 f3 f4 f5 f6 f7 f8
    obtain ⟨p0, p1, p2, p3, p4, p5, p6, p7, p8⟩ := Nine.box y5
    obtain ⟨q0, q1, q2, q3, q4, q5, q6, q7, q8⟩ := Nine.box x5
    have hs5 := Fm.below hb5 (by simp) hs4a
    have hFl := bndT_len t
    obtain ⟨F, hFe⟩ : ∃ F, bndT t = F := ⟨_, rfl⟩
    have HF : Hid (bndT t = F) := hFe
    rw [hFe] at hFl hT0 hT1
    clear hFe
    have hT05 : Toks w2.heap.size w5 v0 F := toks_keep hT0 fun b hb => by
      have := (toks_own hT0 hb).2
      exact (hb5.block b (by simp; omega)).trans ((hb4a.block b (by omega)).trans (hb4.block b this))
    have hT1' : Toks (w4.heap.size + 1) w5 v1 F := toks_le hT1 (by simp)
    have hfO5 : FldO w5 D (OwM w5 D d) t (some ⟨g41, 0, none⟩) l1 (some ⟨g42, 0, none⟩) l2 (some ⟨g43, 0, none⟩) l3 ms := hfO.keep fun b hb => by
      have := (hmr b hb).2
      exact (hb5.block b (by simp; omega)).trans (hb4a.block b this)
    have HO0 : Hid (∀ b, v0.ownBlock = some b → b < w3.heap.size) := fun b hb => (toks_own hT0 hb).2
    clear y1 y3 hs4 hs4a hs2 hX1 hT1 hT0 hfO p0 p1 p2 p3 p4 p5 p6 p7 p8 q0 q1 q2 q3 q4 q5 q6 q7 q8
    go_wp2_with fail
    refine (eqSame_any F _ hT1' hT05 (by omega)).mono ?_
    rintro e wb ⟨rfl, hbb⟩
    have hzb := hbb.size
    have hbbw : Below w.heap.size w wb := hb5w.trans (hbb.mono (by omega))
    have yb := (hbb.block _ (by omega)).trans y5
    have xb := (hbb.block _ (by omega)).trans x5
    have hT0b := toks_bel hT05 hbb
    have hT1b := toks_bel hT1' hbb
    have hfOb := hfO5.keep (w' := wb) fun b hb => hbb.block b (by have := (hmr b hb).2; omega)
    have hsb := Fm.below hbb (by omega) hs5
    have hsb' := Fm.below hbbw hB hf
    obtain ⟨p0, p1, p2, p3, p4, p5, p6, p7, p8⟩ := Nine.box yb
    obtain ⟨q0, q1, q2, q3, q4, q5, q6, q7, q8⟩ := Nine.box xb
    have hzw : w4.heap.size < wb.heap.size := by omega
    have HT : Hid (_ ∧ _ ∧ _) := ⟨hT0b, hT1b, hfOb⟩
    have HYX : Hid (_ ∧ _) := ⟨yb, xb⟩
    clear hT05 hT1' hfO5 y5 x5 hs5 hT0b hT1b hfOb yb xb
    go_wp2_with fail
    go_region_with (first
      | (go_at_call 10; refine (toTerm_any D d L B t _ _ _ _ _ _ _ _ _ _ ?_ ?_ ?_).mono ?_; (show B ≤ wb.heap.size; omega); exact Fm.drew hsb'; exact hcn; rintro e w6 ⟨g61, g62, g63, rfl, hb6, hs6⟩; have k0 : w6.cell? ⟨w4.heap.size, 0, none⟩ = _ := (bcell hb6 hzw 0).trans q0; have k1 : w6.cell? ⟨w4.heap.size, 1, none⟩ = _ := (bcell hb6 hzw 1).trans q1; have k2 : w6.cell? ⟨w4.heap.size, 2, none⟩ = _ := (bcell hb6 hzw 2).trans q2; have k3 : w6.cell? ⟨w4.heap.size, 3, none⟩ = _ := (bcell hb6 hzw 3).trans q3; have k4 : w6.cell? ⟨w4.heap.size, 4, none⟩ = _ := (bcell hb6 hzw 4).trans q4; have k5 : w6.cell? ⟨w4.heap.size, 5, none⟩ = _ := (bcell hb6 hzw 5).trans q5; have k6 : w6.cell? ⟨w4.heap.size, 6, none⟩ = _ := (bcell hb6 hzw 6).trans q6; have k7 : w6.cell? ⟨w4.heap.size, 7, none⟩ = _ := (bcell hb6 hzw 7).trans q7; have k8 : w6.cell? ⟨w4.heap.size, 8, none⟩ = _ := (bcell hb6 hzw 8).trans q8)
      | (go_at_call 13; refine (eqTerm_any D d _ _ _ _ t _ _ _ _ _ _ _ _ _ _ _ _ _ _ _ _ _ _ _ ?_ ?_ (Fm.below hb6 (show w4.heap.size ≤ wb.heap.size by omega) (Fm.drew hsb)) hs6).mono ?_; (have h6 : wb.heap.size ≤ w6.heap.size := hb6.size; (show w4.heap.size ≤ w6.heap.size); omega); exact Nat.le_refl _; rintro e w7 ⟨rfl, hb7⟩))
    all_goals
      have hbb7 : Below wb.heap.size wb w7 := ((Below.refl _ _).drew.trans hb6).trans (hb7.mono hb6.size)
      clear hb6 hb7 hs6 p0 p1 p2 p3 p4 p5 p6 p7 p8 q0 q1 q2 q3 q4 q5 q6 q7 q8 k0 k1 k2 k3 k4 k5 k6 k7 k8 hsb hsb'
      have hz7 := hbb7.size
      obtain ⟨hT0b, hT1b, hfOb⟩ := HT.out
      obtain ⟨yb, xb⟩ := HYX.out
      have hb7w : Below w.heap.size w w7 := hbbw.trans (hbb7.mono (by omega))
      have y7 := (hbb7.block _ (by omega)).trans yb
      have x7 := (hbb7.block _ (by omega)).trans xb
      have hT07 := toks_bel hT0b hbb7
      have hT17 := toks_bel hT1b hbb7
      have hfO7 := hfOb.keep (w' := w7) fun b hb => hbb7.block b (by have := (hmr b hb).2; omega)
      obtain ⟨q0, q1, q2, q3, q4, q5, q6, q7, q8⟩ := Nine.box x7
      clear hT0b hT1b hfOb yb xb
      go_wp2_with fail
      refine (markTerm_any D d t _ _ _ _ _ _ _ _ _ ms _ hfO7 hms (fun b hb => by have := (hmr b hb).2; omega) hcn).mono ?_
      rintro e w8 ⟨k8, rfl, hk8, hc8⟩
      have hz8 := hc8.size
      have hT08 : Toks w2.heap.size w8 v0 F := toks_keep hT07 fun b hb => hc8.block b (toks_own hT07 hb).2 (fun hm => by have := (hmr b hm).1; have := HO0.out b hb; omega)
      have hT18 : Toks (w4.heap.size + 1) w8 v1 F := toks_keep hT17 fun b hb => hc8.block b (toks_own hT17 hb).2 (fun hm => by have := (hmr b hm).2; have := (toks_own hT17 hb).1; omega)
      have y8 := (hc8.block w.heap.size (by omega) (fun hm => by have := (hmr _ hm).1; omega)).trans y7
      have hb8w : Below w.heap.size w w8 := Chg.below hb7w hc8 (by omega) (fun b hb => by have := (hmr b hb).1; omega)
      clear hT07 hT17 hfO7 y7 x7 q0 q1 q2 q3 q4 q5 q6 q7 q8 hc8
      go_wp2_with fail
      refine (eqSame_any F _ hT18 hT08 (by omega)).mono ?_
      rintro e w9 ⟨rfl, hb9⟩
      have hz9 := hb9.size
      have hT09 := toks_bel hT08 hb9
      have hT19 := toks_bel hT18 hb9
      have y9 := (hb9.block _ (by omega)).trans y8
      have hb9w : Below w.heap.size w w9 := hb8w.trans (hb9.mono (by omega))
      clear hT08 hT18 y8
      go_wp2_with fail
      refine (mark1_any v1 F _ hT19 (by omega) (by omega)).mono ?_
      rintro e w10 ⟨rfl, hko, hTm⟩
      have hz10 := hko.size
      have hT010 : Toks w2.heap.size w10 v0 F := toks_keep hT09 fun b hb => hko.block b (toks_own hT09 hb).2 (fun e => by have := (toks_own hT19 e).1; have := HO0.out b hb; omega)
      have y10 := (hko.block w.heap.size (by omega) (fun e => by have := (toks_own hT19 e).1; omega)).trans y9
      have hb10w : Below w.heap.size w w10 := hb9w.trans ((hko.below hT19 (by omega)).mono (by omega))
      clear hT09 hT19 y9 hko
      go_wp2_with fail
      refine (held1_any v1 F.length _ hTm (by omega)).mono ?_
      rintro e w11 ⟨rfl, hb11⟩
      have hz11 := hb11.size
      have hT011 := toks_bel hT010 hb11
      have hTm11 := toks_bel hTm hb11
      have y11 := (hb11.block _ (by omega)).trans y10
      have hb11w : Below w.heap.size w w11 := hb10w.trans (hb11.mono (by omega))
      obtain ⟨p0, p1, p2, p3, p4, p5, p6, p7, p8⟩ := Nine.box y11
      clear hT010 hTm y10 y11
      go_wp2_with fail
      refine (toTerm_any D d L B t _ _ _ _ _ _ _ _ _ _ (by omega) (Fm.below hb11w hB hf) hcn).mono ?_
      rintro e w12 ⟨g1, g2, g3, rfl, hb12, hs12⟩
      have hz12 := hb12.size
      go_wp2_with fail
      refine (binders_any D d _ _ t _ _ _ _ _ _ _ _ _ _ (Nat.le_refl _) hs12).mono ?_
      rintro e w13 ⟨v2, rfl, hb13, hT2⟩
      rw [HF.out] at hT2
      have hz13 := hb13.size
      have hT013 := toks_bel (toks_bel hT011 hb12) hb13
      have hTm13 := toks_bel (toks_bel hTm11 hb12) hb13
      have hb13w : Below w.heap.size w w13 := (hb11w.trans (hb12.mono (by omega))).trans (hb13.mono (by omega))
      clear p0 p1 p2 p3 p4 p5 p6 p7 p8 hT011 hTm11 hs12
      go_wp2_with fail
      refine (eqSame_any F _ hT2 hT013 (by omega)).mono ?_
      rintro e w14 ⟨rfl, hb14⟩
      have hTm14 := toks_bel hTm13 hb14
      have hb14w : Below w.heap.size w w14 := hb13w.trans (hb14.mono (by omega))
      go_wp2_with fail
      refine (held1_any v1 F.length _ hTm14 (by omega)).mono ?_
      rintro e w15 ⟨rfl, hb15⟩
      go_wp2_with fail
      go_ret
      exact ⟨rfl, hb14w.trans (hb15.mono (by have := hb14.size; omega))⟩
  · go_enter Try.func3, Try.ntmps3
    go_wp2_with fail
    rw [← HX.out]
    refine (szTerm_any D d L B t _ _ _ _ _ _ _ _ _ _ _ (by omega) hf1 (by omega) (by omega)).mono ?_
    rintro e w1 ⟨rfl, hb1⟩
    rw [szN_neg (by omega)]
    go_wp2_with fail
    go_ret
    exact ⟨rfl, hXb.trans (hb1.mono (by omega))⟩

end Go.Proofs.Ytgckmnchlkgakaa
