/-
  The law FnExactReads's walk: whatever instruction lies in memory, true.
-/
import Derived.Test.YtchdmpipfmedaaaRe
import Derived.Test.YtchdmpipfmedaaaInM
namespace Go.Proofs.Ytchdmpipfmedaaa
open Go.RowKit
set_option linter.unusedVariables false
set_option linter.unusedSimpArgs false

/-- Nothing has changed but this block; more may have come. -/
structure But (g : Nat) (w w' : World) : Prop where
  os : w'.os = w.os
  tape : w'.tape = w.tape
  output : w'.output = w.output
  size : w.heap.size ≤ w'.heap.size
  block : ∀ q, q < w.heap.size → q ≠ g → w'.heap[q]? = w.heap[q]?

theorem But.below {g B : Nat} {x w w' : World} (h : Below B x w) (k : But g w w') (hg : B ≤ g) (hs : B ≤ w.heap.size) : Below B x w' :=
  ⟨k.os.trans h.os, k.tape.trans h.tape, k.output.trans h.output, Nat.le_trans h.size k.size, fun q hq => (k.block q (by omega) (by omega)).trans (h.block q hq)⟩

theorem markIns_some {base : Nat} (i : Insn) (g len cap : Nat) (w : World) (h : Nums base w (.slice (some ⟨g, 0, none⟩) len cap) i.L) (hlen : len = i.L.length) (hl : len ≤ 1048576) :
    Calls Try.prog 23 #[vI i (some ⟨g, 0, none⟩) len cap, .int .i64 1] w fun e w' => e = .returned (.int .i64 (1 + len)) ∧ But g w w' := by
  refine (markIns_any i _ len cap 1 w h hlen (by omega) (by omega)).mono ?_
  rintro e w' (⟨rfl, hb⟩ | ⟨rfl, g', e', _, _, h1, h2, h3, h4, h5⟩)
  · exact ⟨rfl, hb.os, hb.tape, hb.output, hb.size, fun q hq _ => hb.block q hq⟩
  · injection e' with e'
    injection e' with e'
    subst e'
    exact ⟨rfl, h1, h2, h3, h4, h5⟩

theorem eqSameI {base base' n n' : Nat} {ao ao' : Option Addr} {c c' : Nat} (P : List Int) (w : World) (h : Nums base w (.slice ao n c) P) (k : Nums base' w (.slice ao' n' c') P) (hn : P.length = n) (hn' : P.length = n') (hl : n ≤ 2000000) :
    Calls Try.prog 14 #[.slice ao n c, .slice ao' n' c'] w fun e w' => e = .returned (.bool true) ∧ Below w.heap.size w w' := by
  subst hn
  subst hn'
  obtain ⟨a1, c1, e1, h1⟩ := nums_is h (by omega)
  obtain ⟨a2, c2, e2, h2⟩ := nums_is k (by omega)
  injection e1 with e11 _ e13
  injection e2 with e21 _ e23
  subst e11 e13 e21 e23
  exact eqIntS_any _ _ _ _ _ _ _ _ _ _ P w (Nat.le_refl _) (Nat.le_refl _) h1 h2

set_option maxRecDepth 100000 in
set_option maxHeartbeats 4000000 in
theorem law_reads (L B : Nat) (i : Insn) (ao : Option Addr) (len cap : Nat) (w : World) (hB : B ≤ w.heap.size) (hs : Is L B w ao len i.L) (hok : okI i) :
    Calls Try.prog 5 #[vI i ao len cap] w fun e w' => e = .returned (.bool true) ∧ Below w.heap.size w w' := by
  obtain ⟨X, hX⟩ : ∃ X, X = w.alloc (.cells #[.int .i64 i.Op, .int .i64 i.D, .int .i64 i.X, .int .i64 i.Y, .int .i64 i.N, .slice ao len cap, .int .i64 i.To] 38) := ⟨_, rfl⟩
  have hXs : X.heap.size = w.heap.size + 1 := by rw [hX]; simp
  have hXb : Below w.heap.size w X := by rw [hX]; exact (Below.refl _ _).alloc (Nat.le_refl _) _
  have hX1 : X.heap[w.heap.size]? = some (.cells #[.int .i64 i.Op, .int .i64 i.D, .int .i64 i.X, .int .i64 i.Y, .int .i64 i.N, .slice ao len cap, .int .i64 i.To] 38 (0, 0)) := by rw [hX]; exact heap_new rfl
  have hs1 := hs.below hXb hB
  have HX : Hid (X = _) := hX
  have HL : Hid (len = cI i) := hs.1
  clear hX
  by_cases hc : (cI i : Int) ≤ 1048576
  · have hcn : len ≤ 1048576 := by have := HL.out; omega
    go_enter Try.func5, Try.ntmps5
    go_wp2_with fail
    rw [← HX.out]
    refine (szIns_any L B i _ _ _ _ _ hs1 (by omega) (by omega)).mono ?_
    rintro e w1 ⟨rfl, hb1⟩
    rw [szN_pos hc]
    have hz1 := hb1.size
    have hb1w : Below w.heap.size w w1 := hXb.trans (hb1.mono (by omega))
    have y1 := (hb1.block _ (by omega)).trans hX1
    obtain ⟨f0, f1, f2, f3, f4, f5, f6⟩ := cells7 y1
    go_wp2_with fail
    refine (toIns_any L B i _ _ _ _ (by omega) (hs.below hb1w hB) hcn).mono ?_
    rintro e w2 ⟨g2, rfl, hb2, hs2⟩
    have hz2 := hb2.size
    go_wp2_with fail
    refine (sReads_any _ _ i _ _ _ _ (Nat.le_refl _) hs2 hcn).mono ?_
    rintro e w3 ⟨v0, rfl, hN0, hb3⟩
    have hz3 := hb3.size
    have hb3w : Below w.heap.size w w3 := (hb1w.trans (hb2.mono (by omega))).trans (hb3.mono (by omega))
    have y3 := (hb3.block _ (by omega)).trans ((hb2.block _ (by omega)).trans y1)
    clear f0 f1 f2 f3 f4 f5 f6
    obtain ⟨f0, f1, f2, f3, f4, f5, f6⟩ := cells7 y3
    obtain ⟨R, hR⟩ : ∃ R, readsI i = R := ⟨_, rfl⟩
    have hRl : R.length ≤ 1048578 := by
      rw [← hR]
      have h1 := redL_len (rawI i)
      have h2 : (rawI i).length ≤ len + 2 := by
        have := HL.out
        unfold cI at this
        unfold rawI
        split
        · omega
        · rw [List.length_append]
          split <;> split <;> simp
      unfold readsI
      omega
    rw [hR] at hN0
    obtain ⟨nR, hnR⟩ : ∃ n, R.length = n := ⟨_, rfl⟩
    have HNR : Hid (R.length = nR) := hnR
    have HR : Hid (readsI i = R) := hR
    obtain ⟨b0, c0, rfl⟩ := nums_form hN0
    rw [hnR] at hN0 hRl ⊢
    clear hR hnR
    go_wp2_with fail
    refine (toIns_own L B i _ _ _ _ (by omega) (hs.below hb3w hB) hcn).mono ?_
    rintro e w4 ⟨g4, rfl, hb4, hO4⟩
    have hz4 := hb4.size
    have hi4 : Is w3.heap.size w4.heap.size w4 (some ⟨g4, 0, none⟩) len i.L := by
      obtain ⟨a, c, e, h⟩ := nums_is hO4 (by have := HL.out; unfold cI at this; omega)
      injection e with e1 e2 e3
      subst e1
      rw [← e2] at h
      exact h
    have hg4 := nums_own hO4 rfl
    go_wp2_with fail
    have hb4a : Below w4.heap.size w4 (w4.alloc (.cells #[.int .i64 i.Op, .int .i64 i.D, .int .i64 i.X, .int .i64 i.Y, .int .i64 i.N, .slice (some ⟨g4, 0, none⟩) len len, .int .i64 i.To] 41)) := (Below.refl _ _).alloc (Nat.le_refl _) _
    have hs4a := hi4.below hb4a (Nat.le_refl _)
    refine (reads_any _ _ i _ _ _ _ (by simp) hs4a hcn).mono ?_
    rintro e w5 ⟨v5, rfl, hN5, hb5⟩
    have hz5 := hb5.size
    simp only [World.size_alloc] at hz5
    have hb5w : Below w.heap.size w w5 := ((hb3w.trans (hb4.mono (by omega))).trans (hb4a.mono (by omega))).trans (hb5.mono (by simp; omega))
    have y5 := (hb5.block w.heap.size (by simp; omega)).trans ((hb4a.block _ (by omega)).trans ((hb4.block _ (by omega)).trans y3))
    have x5 : w5.heap[w4.heap.size]? = _ := (hb5.block w4.heap.size (by simp)).trans (heap_new rfl)
    rw [HR.out] at hN5
    obtain ⟨b5, c5, rfl⟩ := nums_form hN5
    rw [HNR.out] at hN5 ⊢
    have hN5' : Nums (w4.heap.size + 1) w5 (.slice b5 nR c5) R := nums_le hN5 (by simp)
    have hN05 : Nums w2.heap.size w5 (.slice b0 nR c0) R := nums_keep hN0 fun b hb => by
      have := (nums_own hN0 hb).2
      exact (hb5.block b (by simp; omega)).trans ((hb4a.block b (by omega)).trans (hb4.block b this))
    have HO0 : Hid (∀ b, (Value.slice b0 nR c0).ownBlock = some b → b < w3.heap.size) := fun b hb => (nums_own hN0 hb).2
    have hO5 : Nums w3.heap.size w5 (.slice (some ⟨g4, 0, none⟩) len len) i.L := nums_keep hO4 fun b hb => by
      have := (nums_own hO4 hb).2
      exact (hb5.block b (by simp; omega)).trans (hb4a.block b this)
    have hs5 : Is w3.heap.size w4.heap.size w5 (some ⟨g4, 0, none⟩) len i.L := hs4a.below hb5 (by simp)
    clear f0 f1 f2 f3 f4 f5 f6 y1 y3 hs4a hs2 hX1 hN0 hN5 hO4 hi4
    have K1 := eqSameI R w5 hN5' hN05 HNR.out HNR.out (by omega)
    go_wp2_with fail
    refine K1.mono ?_
    rintro e wb ⟨rfl, hbb⟩
    clear K1
    have hzb := hbb.size
    have hbbw : Below w.heap.size w wb := hb5w.trans (hbb.mono (by omega))
    have yb := (hbb.block _ (by omega)).trans y5
    have xb := (hbb.block _ (by omega)).trans x5
    have hNb := nums_bel hN5' hbb
    have hN0b := nums_bel hN05 hbb
    have hOb := nums_bel hO5 hbb
    have hsb := hs5.below hbb (by omega)
    have hsb' := hs.below hbbw hB
    obtain ⟨p0, p1, p2, p3, p4, p5, p6⟩ := cells7 yb
    obtain ⟨q0, q1, q2, q3, q4, q5, q6⟩ := cells7 xb
    have hzw : w4.heap.size < wb.heap.size := by omega
    have HT : Hid (_ ∧ _ ∧ _) := ⟨hNb, hN0b, hOb⟩
    have HYX : Hid (_ ∧ _) := ⟨yb, xb⟩
    clear hN5' hN05 hO5 y5 x5 hs5 hNb hN0b hOb yb xb
    go_wp2_with fail
    go_region_with (first
      | (go_at_call 20; refine (toIns_any L B i _ _ _ _ ?_ ?_ ?_).mono ?_; (show B ≤ wb.heap.size; omega); exact hsb'.drew; exact hcn; rintro e w6 ⟨g6, rfl, hb6, hs6⟩; have k0 : w6.cell? ⟨w4.heap.size, 0, none⟩ = _ := (bcell hb6 hzw 0).trans q0; have k1 : w6.cell? ⟨w4.heap.size, 1, none⟩ = _ := (bcell hb6 hzw 1).trans q1; have k2 : w6.cell? ⟨w4.heap.size, 2, none⟩ = _ := (bcell hb6 hzw 2).trans q2; have k3 : w6.cell? ⟨w4.heap.size, 3, none⟩ = _ := (bcell hb6 hzw 3).trans q3; have k4 : w6.cell? ⟨w4.heap.size, 4, none⟩ = _ := (bcell hb6 hzw 4).trans q4; have k5 : w6.cell? ⟨w4.heap.size, 5, none⟩ = _ := (bcell hb6 hzw 5).trans q5; have k6 : w6.cell? ⟨w4.heap.size, 6, none⟩ = _ := (bcell hb6 hzw 6).trans q6)
      | (go_at_call 22; refine (eqIns_any _ _ _ _ i _ _ _ _ _ _ _ ?_ ?_ (hsb.drew.below hb6 (show w4.heap.size ≤ wb.heap.size by omega)) hs6).mono ?_; (have h6 : wb.heap.size ≤ w6.heap.size := hb6.size; (show w4.heap.size ≤ w6.heap.size); omega); exact Nat.le_refl _; rintro e w7 ⟨rfl, hb7⟩))
    all_goals
      have hbb7 : Below wb.heap.size wb w7 := ((Below.refl _ _).drew.trans hb6).trans (hb7.mono hb6.size)
      clear hb6 hb7 hs6 p0 p1 p2 p3 p4 p5 p6 q0 q1 q2 q3 q4 q5 q6 k0 k1 k2 k3 k4 k5 k6 hsb hsb'
      have hz7 := hbb7.size
      obtain ⟨hNb, hN0b, hOb⟩ := HT.out
      obtain ⟨yb, xb⟩ := HYX.out
      have hb7w : Below w.heap.size w w7 := hbbw.trans (hbb7.mono (by omega))
      have y7 := (hbb7.block _ (by omega)).trans yb
      have x7 := (hbb7.block _ (by omega)).trans xb
      have hN07 := nums_bel hN0b hbb7
      have hN7 := nums_bel hNb hbb7
      have hO7 := nums_bel hOb hbb7
      obtain ⟨q0, q1, q2, q3, q4, q5, q6⟩ := cells7 x7
      have KM := markIns_some i g4 len len w7 hO7 (by have := HL.out; unfold cI at this; omega) hcn
      clear hNb hN0b hOb yb xb
      go_wp2_with fail
      refine KM.mono ?_
      rintro e w8 ⟨rfl, hc8⟩
      clear KM
      have hz8 := hc8.size
      have hN08 : Nums w2.heap.size w8 (.slice b0 nR c0) R := nums_keep hN07 fun b hb => hc8.block b (nums_own hN07 hb).2 (fun e => by have := HO0.out b hb; omega)
      have hN8 : Nums (w4.heap.size + 1) w8 (.slice b5 nR c5) R := nums_keep hN7 fun b hb => hc8.block b (nums_own hN7 hb).2 (fun e => by have := (nums_own hN7 hb).1; omega)
      have y8 := (hc8.block w.heap.size (by omega) (by omega)).trans y7
      have hb8w : Below w.heap.size w w8 := But.below hb7w hc8 (by omega) (by omega)
      have K2 := eqSameI R w8 hN8 hN08 HNR.out HNR.out (by omega)
      clear hN07 hN7 hO7 y7 x7 q0 q1 q2 q3 q4 q5 q6 hc8
      go_wp2_with fail
      refine K2.mono ?_
      rintro e w9 ⟨rfl, hb9⟩
      clear K2
      have hz9 := hb9.size
      have hN09 := nums_bel hN08 hb9
      have hN9 := nums_bel hN8 hb9
      have y9 := (hb9.block _ (by omega)).trans y8
      have hb9w : Below w.heap.size w w9 := hb8w.trans (hb9.mono (by omega))
      have K3 := markIntS_any _ R 1 w9 hN9 (by omega) (by rw [HNR.out]; omega)
      rw [HNR.out] at K3
      clear hN08 hN8 y8 hb9
      go_wp2_with fail
      refine K3.mono ?_
      rintro e w10 ⟨rfl, hk10, hN10⟩
      clear K3
      have hz10 := hk10.size
      have hN010 : Nums w2.heap.size w10 (.slice b0 nR c0) R := nums_keep hN09 fun b hb => hk10.block b (fun e => by have := HO0.out b hb; have := (nums_own hN9 e).1; omega)
      have y10 := (hk10.block w.heap.size (fun e => by have := (nums_own hN9 e).1; omega)).trans y9
      have hb10w : Below w.heap.size w w10 := hb9w.trans ((hk10.below (B := w4.heap.size + 1) (fun k hk => (nums_own hN9 hk).1)).mono (by omega))
      have K4 := heldIntS_any _ nR 1 w10 hN10 (by omega) (by omega)
      clear hN09 hN9 y9 hk10
      go_wp2_with fail
      refine K4.mono ?_
      rintro e w11 ⟨rfl, hb11⟩
      clear K4
      have hz11 := hb11.size
      have hN011 := nums_bel hN010 hb11
      have hN11 := nums_bel hN10 hb11
      have y11 := (hb11.block _ (by omega)).trans y10
      have hb11w : Below w.heap.size w w11 := hb10w.trans (hb11.mono (by omega))
      obtain ⟨f0, f1, f2, f3, f4, f5, f6⟩ := cells7 y11
      clear hN010 hN10 y10 hb11
      go_wp2_with fail
      refine (toIns_any L B i _ _ _ _ (by omega) (hs.below hb11w hB) hcn).mono ?_
      rintro e w12 ⟨g12, rfl, hb12, hs12⟩
      have hz12 := hb12.size
      have hN012 := nums_bel hN011 hb12
      have hN12 := nums_bel hN11 hb12
      have hb12w : Below w.heap.size w w12 := hb11w.trans (hb12.mono (by omega))
      clear hN011 hN11 f0 f1 f2 f3 f4 f5 f6 y11 hb12
      go_wp2_with fail
      refine (reads_any _ _ i _ _ _ _ (Nat.le_refl _) hs12 hcn).mono ?_
      rintro e w13 ⟨v13, rfl, hN13, hb13⟩
      have hz13 := hb13.size
      have hN013 := nums_bel hN012 hb13
      have hN513 := nums_bel hN12 hb13
      have hb13w : Below w.heap.size w w13 := hb12w.trans (hb13.mono (by omega))
      rw [HR.out] at hN13
      obtain ⟨b13, c13, rfl⟩ := nums_form hN13
      rw [HNR.out] at hN13 ⊢
      have K5 := eqSameI R w13 hN13 hN013 HNR.out HNR.out (by omega)
      clear hN012 hN12 hb13 hs12
      go_wp2_with fail
      refine K5.mono ?_
      rintro e w14 ⟨rfl, hb14⟩
      clear K5
      have hz14 := hb14.size
      have hN514 := nums_bel hN513 hb14
      have hb14w : Below w.heap.size w w14 := hb13w.trans (hb14.mono (by omega))
      have K6 := heldIntS_any _ nR 1 w14 hN514 (by omega) (by omega)
      clear hN013 hN13 hN513 hb14
      go_wp2_with fail
      refine K6.mono ?_
      rintro e w15 ⟨rfl, hb15⟩
      clear K6
      go_wp2_with fail
      go_ret
      exact ⟨rfl, hb14w.trans (hb15.mono (by omega))⟩
  · go_enter Try.func5, Try.ntmps5
    go_wp2_with fail
    rw [← HX.out]
    refine (szIns_any L B i _ _ _ _ _ hs1 (by omega) (by omega)).mono ?_
    rintro e w1 ⟨rfl, hb1⟩
    rw [szN_neg (by omega)]
    go_wp2_with fail
    go_ret
    exact ⟨rfl, hXb.trans (hb1.mono (by omega))⟩

end Go.Proofs.Ytchdmpipfmedaaa
