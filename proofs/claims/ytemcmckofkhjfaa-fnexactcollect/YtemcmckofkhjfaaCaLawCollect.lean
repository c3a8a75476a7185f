/-
  The law FnExactCollect's walk: whatever heap and words lie in memory, true.
-/
import Derived.Test.YtemcmckofkhjfaaCaCl5
import Derived.Test.YtemcmckofkhjfaaCaInv
import Derived.Test.YtemcmckofkhjfaaCaRdW
namespace Go.Proofs.Ytemcmckofkhjfaa
open Go.RowKit
set_option linter.unusedVariables false
set_option linter.unusedSimpArgs false

theorem colL_le {s : Int} {l f : List Wrd} (h : l.length ≤ 1048576) : (colL s l f).length ≤ 1048576 := by
  unfold colL
  split
  · rename_i hq
    unfold rokB at hq
    rw [Bool.and_eq_true] at hq
    have hrw : ∀ x ∈ f, RW l x := fun x hx => rgt_RW (List.all_eq_true.1 hq.2 x hx)
    have hPL : PL l (plc l f) := bfs_PL hq.1 _ _ _ (Way.start hrw).1
    have h1 := okH_len hq.1
    have h2 := wrds_bound hPL
    rw [List.length_map, rawC_len hPL.ob]
    omega
  · exact h
theorem colR_len (s : Int) (l f : List Wrd) : (colR s l f).length = f.length := by
  unfold colR
  split
  · exact List.length_map _
  · rfl
theorem Inv.callRow2 {w0 W W' : World} {bx : List (Nat × Array Value × TypeId)} {rs : List (Value × List Wrd)} (h : Inv w0 W bx rs) (hb : Below W.heap.size W W') {v v2 : Value} {P P2 : List Wrd} (hN : Wors W.heap.size W' v P) (hN2 : Wors W.heap.size W' v2 P2) (hap : Apa (v, P) (v2, P2)) : Inv w0 W' bx ((v, P) :: (v2, P2) :: rs) := by
  have h2 := h.callRow hb hN2
  have h1 := h.callRow hb hN
  refine ⟨h2.bel, h2.box, fun r hr => ?_, fun b hb' r hr => ?_, h2.nod, List.pairwise_cons.2 ⟨fun r hr => ?_, h2.rows⟩⟩
  · rcases List.mem_cons.1 hr with rfl | hr
    · exact wors_le hN h.bel.size
    · exact h2.row r hr
  · rcases List.mem_cons.1 hr with rfl | hr
    · exact h1.apart b hb' _ List.mem_cons_self
    · exact h2.apart b hb' r hr
  · rcases List.mem_cons.1 hr with rfl | hr
    · exact hap
    · exact (List.pairwise_cons.1 h1.rows).1 r hr

section
variable {w0 W : World} {bx : List (Nat × Array Value × TypeId)} {rs : List (Value × List Wrd)}
theorem inv_sCollect (I : Inv w0 W bx rs) {s : Int} {a1 : Option Addr} {len c1 : Nat} {l : List Wrd} {a2 : Option Addr} {nf c2 : Nat} {f : List Wrd} (h1 : (.slice a1 len c1, l) ∈ rs) (h2 : (.slice a2 nf c2, f) ∈ rs) (hl : len = l.length) (hf : nf = f.length) (hlm : len ≤ 1048576) (hfm : nf ≤ 1048576) (hcap : len ≤ c1) {L R : List Wrd} (hL : colL s l f = L) (hR : colR s l f = R) :
    Calls Try.prog 25 #[vH s a1 len c1, .slice a2 nf c2] W fun e W' => ∃ a n c oa m oc, e = .returned (.tuple #[vH s a n c, .slice oa m oc]) ∧ n = L.length ∧ m = R.length ∧ Inv w0 W' bx ((.slice a n c, L) :: (.slice oa m oc, R) :: rs) := by
  subst hL hR
  refine (sCollect_any s a1 len c1 l a2 nf c2 f W ((I.ws h1 hl (by omega)).keep (fun _ _ _ => rfl) (Nat.zero_le _) (Nat.le_refl _)) ((I.ws h2 hf (by omega)).keep (fun _ _ _ => rfl) (Nat.zero_le _) (Nat.le_refl _)) hlm hfm hcap).mono ?_
  rintro e W' ⟨⟨va, vn, vcp, oa, nr, ocp, he, hn, hm, hN, hN2, hap⟩, hb⟩
  exact ⟨va, vn, vcp, oa, nr, ocp, he, hn, hm, I.callRow2 hb hN hN2 hap⟩
theorem inv_collect (I : Inv w0 W bx rs) {s : Int} {a1 : Option Addr} {len c1 : Nat} {l : List Wrd} {a2 : Option Addr} {nf c2 : Nat} {f : List Wrd} (h1 : (.slice a1 len c1, l) ∈ rs) (h2 : (.slice a2 nf c2, f) ∈ rs) (hl : len = l.length) (hf : nf = f.length) (hlm : len ≤ 1048576) (hfm : nf ≤ 1048576) (hcap : len ≤ c1) {L R : List Wrd} (hL : colL s l f = L) (hR : colR s l f = R) :
    Calls Try.prog 26 #[vH s a1 len c1, .slice a2 nf c2] W fun e W' => ∃ a n c oa m oc, e = .returned (.tuple #[vH s a n c, .slice oa m oc]) ∧ n = L.length ∧ m = R.length ∧ Inv w0 W' bx ((.slice a n c, L) :: (.slice oa m oc, R) :: rs) := by
  subst hL hR
  refine (collect_any s a1 len c1 l a2 nf c2 f W ((I.ws h1 hl (by omega)).keep (fun _ _ _ => rfl) (Nat.zero_le _) (Nat.le_refl _)) ((I.ws h2 hf (by omega)).keep (fun _ _ _ => rfl) (Nat.zero_le _) (Nat.le_refl _)) hlm hfm hcap).mono ?_
  rintro e W' ⟨⟨va, vn, vcp, oa, nr, ocp, he, hn, hm, hN, hN2, hap⟩, hb⟩
  exact ⟨va, vn, vcp, oa, nr, ocp, he, hn, hm, I.callRow2 hb hN hN2 hap⟩
end

set_option maxRecDepth 100000 in
set_option maxHeartbeats 4000000 in
theorem law_collect (B : Nat) (s : Int) (ao : Option Addr) (len cap : Nat) (l : List Wrd) (af : Option Addr) (nf cf : Nat) (f : List Wrd) (w : World) (hB : B ≤ w.heap.size) (hs : Ws 0 B w ao len l) (hin : in64 s) (hok : ∀ x ∈ l, okW x) (hf : Ws 0 B w af nf f) (hokf : ∀ x ∈ f, okW x) :
    Calls Try.prog 6 #[vH s ao len cap, .slice af nf cf] w fun e w' => e = .returned (.bool true) ∧ Below w.heap.size w w' := by
  obtain ⟨X, hX⟩ : ∃ X, X = w.alloc (.cells #[.int .i64 s, .slice ao len cap] 31) := ⟨_, rfl⟩
  have hXs : X.heap.size = w.heap.size + 1 := by rw [hX]; simp
  have hXb : Below w.heap.size w X := by rw [hX]; exact (Below.refl _ _).alloc (Nat.le_refl _) _
  have x0 : X.heap[w.heap.size]? = some (.cells #[.int .i64 s, .slice ao len cap] 31 (0, 0)) := by rw [hX]; exact heap_new rfl
  have HX : Hid (X = _) := hX
  have hlm := hs.2.1
  have hlf := hf.2.1
  have HL : Hid (len = l.length) := hs.1
  have HF : Hid (nf = f.length) := hf.1
  have hx0 : w.heap.size < X.heap.size := by omega
  clear hX hXs
  by_cases hc : (len : Int) ≤ 1048576
  · by_cases hc2 : (nf : Int) ≤ 1048576 - len
    · have hcn : len ≤ 1048576 := by omega
      have hcf : nf ≤ 1048576 := by omega
      go_enter Try.func6, Try.ntmps6
      go_wp2_with fail
      rw [← HX.out]
      refine (szHeap_any _ _ _ _ _ _ hlm (by omega) (by omega)).mono ?_
      rintro e w1 ⟨rfl, hb1⟩
      rw [szN_pos hc]
      have hX1 : Below X.heap.size X w1 := hb1
      go_wp2_with fail
      refine (szWordS_any _ _ _ _ _ hlf (by omega) (by omega)).mono ?_
      rintro e w2 ⟨rfl, hb2⟩
      rw [szN_pos hc2]
      have hX2 : Below X.heap.size X w2 := hX1.trans (hb2.mono hX1.size)
      have hw2 : Below w.heap.size w w2 := hXb.trans (hX2.mono (by omega))
      have y0 := (hX2.block _ hx0).trans x0
      obtain ⟨f0, f1⟩ := cells2 y0
      clear hb1 hb2 hX1
      obtain ⟨L, hL⟩ : ∃ L, colL s l f = L := ⟨_, rfl⟩
      obtain ⟨R, hR⟩ : ∃ R, colR s l f = R := ⟨_, rfl⟩
      have HLe : Hid (colL s l f = L) := hL
      have HRe : Hid (colR s l f = R) := hR
      have HLL : Hid (L.length ≤ 1048576) := by rw [← hL]; exact colL_le (by have := HL.out; omega)
      have HRL : Hid (R.length ≤ 1048576) := by show _ ≤ _; rw [← hR, colR_len, ← HF.out]; exact hcf
      clear hL hR
      have HSA : Hid (∀ W, Below w2.heap.size w2 W → Ws 0 B W ao len l) := fun W hW => hs.below (hw2.trans (hW.mono hw2.size)) hB
      have HSF : Hid (∀ W, Below w2.heap.size w2 W → Ws 0 B W af nf f) := fun W hW => hf.below (hw2.trans (hW.mono hw2.size)) hB
      have hB2 : B ≤ w2.heap.size := Nat.le_trans hB hw2.size
      have hz0 : w.heap.size < w2.heap.size := Nat.lt_of_lt_of_le hx0 hX2.size
      have HC : Hid (∀ W, Below w2.heap.size w2 W → W.cell? ⟨w.heap.size, 0, none⟩ = some (.int .i64 s) ∧ W.cell? ⟨w.heap.size, 1, none⟩ = some (.slice ao len cap)) := by
        intro W hW
        exact cells2 ((hW.block _ hz0).trans y0)
      have IW : Inv w2 w2 [] [] := Inv.start w2
      clear y0 x0
      go_wp2_with fail
      refine (inv_toHeap IW cap hB2 HSA.out hcn).mono ?_
      rintro e w3 ⟨g3, rfl, I3⟩
      clear IW f0 f1
      go_wp2_with fail
      refine (inv_toWordS I3 cf hB2 HSF.out hcf).mono ?_
      rintro e w4 ⟨g4, rfl, I4⟩
      clear I3
      go_wp2_with fail
      refine (inv_sCollect I4 (List.mem_cons_of_mem _ List.mem_cons_self) List.mem_cons_self HL.out HF.out hcn hcf (Nat.le_refl _) HLe.out HRe.out).mono ?_
      rintro e w5 ⟨a0, n0, c0, oa0, m0, oc0, rfl, hn0, hm0, I5⟩
      have HN0 : Hid (n0 = L.length) := hn0
      have HM0 : Hid (m0 = R.length) := hm0
      have hn0b : n0 ≤ 1048576 := by have := HLL.out; omega
      have hm0b : m0 ≤ 1048576 := by have := HRL.out; omega
      have I5' : Inv w2 w5 [] [(.slice a0 n0 c0, L), (.slice oa0 m0 oc0, R)] := I5.take (List.Sublist.refl _) (List.Sublist.cons_cons _ (List.Sublist.cons_cons _ (List.nil_sublist _)))
      have I6 := I5'.alloc #[.int .i64 s, .slice a0 n0 c0] 24
      clear I4 I5 I5' hn0 hm0
      obtain ⟨f0, f1⟩ := HC.out _ I6.bel
      go_wp2_with fail
      refine (inv_toHeap I6 cap hB2 HSA.out hcn).mono ?_
      rintro e w6 ⟨g6, rfl, I7⟩
      have I8 := I7.alloc #[.int .i64 s, .slice (some ⟨g6, 0, none⟩) len len] 24
      clear I6 I7 f0 f1
      go_wp2_with fail
      refine (inv_toWordS I8 cf hB2 HSF.out hcf).mono ?_
      rintro e w8 ⟨g8, rfl, I9⟩
      clear I8
      obtain ⟨p0, p1⟩ := I9.at List.mem_cons_self
      go_wp2_with fail
      refine (inv_collect I9 (List.mem_cons_of_mem _ List.mem_cons_self) List.mem_cons_self HL.out HF.out hcn hcf (Nat.le_refl _) HLe.out HRe.out).mono ?_
      rintro e w9 ⟨a1, n1, c1, oa1, m1, oc1, rfl, hn1, hm1, I10⟩
      obtain rfl : n1 = n0 := hn1.trans HN0.out.symm
      obtain rfl : m1 = m0 := hm1.trans HM0.out.symm
      have I11 := I10.alloc #[.int .i64 s, .slice a1 n1 c1] 24
      clear I9 I10 p0 p1 hn1 hm1
      obtain ⟨p0, p1⟩ := I11.at List.mem_cons_self
      obtain ⟨p2, p3⟩ := I11.at (List.mem_cons_of_mem _ (List.mem_cons_of_mem _ List.mem_cons_self))
      go_wp2_with fail
      refine (inv_eqHeap I11 (by simp) (by simp) HN0.out (by omega)).mono ?_
      rintro e w12 ⟨rfl, I12⟩
      clear p0 p1 p2 p3 I11
      go_wp2_with fail
      refine (inv_eqWordS I12 (by simp) (by simp) HM0.out (by omega)).mono ?_
      rintro e w13 ⟨rfl, I13⟩
      clear I12
      obtain ⟨f0, f1⟩ := HC.out _ I13.bel
      obtain ⟨p0, p1⟩ := I13.at (List.mem_cons_of_mem _ List.mem_cons_self)
      go_wp2_with fail
      go_region_with (first
        | (go_at_call 15; refine (inv_toHeap I13.drew cap hB2 HSA.out hcn).mono ?_; rintro e w14 ⟨g14, rfl, I14⟩; obtain ⟨k0, k1⟩ := I14.at (List.mem_cons_of_mem _ List.mem_cons_self))
        | (go_at_call 10; refine (inv_eqHeap I14 (by simp) (by simp) HL.out (by omega)).mono ?_; rintro e w15 ⟨rfl, I15⟩))
      all_goals
        have I16 := I15.take (List.Sublist.refl _) (List.Sublist.cons _ (List.Sublist.refl _))
        clear f0 f1 p0 p1 k0 k1 I13 I14 I15
        go_wp2_with fail
        refine (inv_toWordS I16 cf hB2 HSF.out hcf).mono ?_
        rintro e w17 ⟨g17, rfl, I17⟩
        go_wp2_with fail
        refine (inv_eqWordS I17 (by simp) (by simp) HF.out (by omega)).mono ?_
        rintro e w18 ⟨rfl, I18⟩
        have I19 : Inv w2 w18 _ [(.slice a1 n1 c1, L), (.slice oa1 m1 oc1, R), (.slice (some ⟨g8, 0, none⟩) nf nf, f), (.slice (some ⟨g6, 0, none⟩) len len, l), (.slice a0 n1 c0, L), (.slice oa0 m1 oc0, R)] := I18.take (List.Sublist.refl _) (List.Sublist.cons _ (List.Sublist.refl _))
        clear I16 I17 I18
        obtain ⟨p0, p1⟩ := I19.at (List.mem_cons_of_mem _ List.mem_cons_self)
        go_wp2_with fail
        refine (inv_markHeap (r1 := [(.slice a1 n1 c1, L), (.slice oa1 m1 oc1, R), (.slice (some ⟨g8, 0, none⟩) nf nf, f)]) I19 1 HL.out (by omega) (by omega)).mono ?_
        rintro e w20 ⟨rfl, I20⟩
        clear p0 p1 I19
        go_wp2_with fail
        refine (inv_markWordS (r1 := [(.slice a1 n1 c1, L), (.slice oa1 m1 oc1, R)]) I20 _ HF.out (by omega) (by omega)).mono ?_
        rintro e w21 ⟨rfl, I21⟩
        have I22 : Inv w2 w21 _ [(.slice a1 n1 c1, L), (.slice oa1 m1 oc1, R), (.slice a0 n1 c0, L), (.slice oa0 m1 oc0, R)] := I21.take (List.Sublist.refl _) (List.Sublist.cons_cons _ (List.Sublist.cons_cons _ (List.Sublist.cons _ (List.Sublist.cons _ (List.Sublist.refl _)))))
        clear I20 I21
        obtain ⟨p0, p1⟩ := I22.at List.mem_cons_self
        obtain ⟨p2, p3⟩ := I22.at (List.mem_cons_of_mem _ (List.mem_cons_of_mem _ List.mem_cons_self))
        have hk : ¬ (1 : Int) + 2 * (len : Int) + 2 * (nf : Int) < 0 := by omega
        go_wp2_with fail
        refine (inv_eqHeap I22 (by simp) (by simp) HN0.out (by omega)).mono ?_
        rintro e w22 ⟨rfl, I23⟩
        clear p0 p1 p2 p3 I22
        go_wp2_with fail
        refine (inv_eqWordS I23 (by simp) (by simp) HM0.out (by omega)).mono ?_
        rintro e w23 ⟨rfl, I24⟩
        clear I23 hk
        obtain ⟨p0, p1⟩ := I24.at List.mem_cons_self
        go_wp2_with fail
        refine (inv_markHeap (r1 := []) I24 1 HN0.out (by omega) (by omega)).mono ?_
        rintro e w24 ⟨rfl, I25⟩
        clear p0 p1 I24
        go_wp2_with fail
        refine (inv_markWordS (r1 := [(.slice a1 n1 c1, upsW 1 n1)]) I25 _ HM0.out (by omega) (by omega)).mono ?_
        rintro e w25 ⟨rfl, I26⟩
        clear I25
        have I27 : Inv w2 w25 _ [(.slice a1 n1 c1, upsW 1 n1), (.slice oa1 m1 oc1, upsW (1 + 2 * (n1 : Int)) m1), (.slice a0 n1 c0, L), (.slice oa0 m1 oc0, R)] := I26
        clear I26
        obtain ⟨p0, p1⟩ := I27.at List.mem_cons_self
        have hk1 : ¬ (1 : Int) + 2 * (n1 : Int) < 0 := by omega
        have hk2 : ¬ (1 : Int) + 2 * (n1 : Int) + 2 * (m1 : Int) < 0 := by omega
        go_wp2_with fail
        refine (inv_heldHeap I27 1 (by simp) (by omega) (by omega)).mono ?_
        rintro e w26 ⟨rfl, I28⟩
        clear p0 p1 I27
        go_wp2_with fail
        refine (inv_heldWordS I28 (1 + 2 * (n1 : Int)) (by simp) (by omega) (by omega)).mono ?_
        rintro e w27 ⟨rfl, I29⟩
        clear I28
        obtain ⟨f0, f1⟩ := HC.out _ I29.bel
        go_wp2_with fail
        refine (inv_toHeap I29 cap hB2 HSA.out hcn).mono ?_
        rintro e w28 ⟨g28, rfl, I30⟩
        clear I29 f0 f1
        go_wp2_with fail
        refine (inv_toWordS I30 cf hB2 HSF.out hcf).mono ?_
        rintro e w29 ⟨g29, rfl, I31⟩
        clear I30
        go_wp2_with fail
        refine (inv_collect I31 (List.mem_cons_of_mem _ List.mem_cons_self) List.mem_cons_self HL.out HF.out hcn hcf (Nat.le_refl _) HLe.out HRe.out).mono ?_
        rintro e w30 ⟨a2, n2, c2, oa2, m2, oc2, rfl, hn2, hm2, I32⟩
        obtain rfl : n2 = n1 := hn2.trans HN0.out.symm
        obtain rfl : m2 = m1 := hm2.trans HM0.out.symm
        have I33 := I32.alloc #[.int .i64 s, .slice a2 n2 c2] 24
        clear I31 I32 hn2 hm2
        obtain ⟨p0, p1⟩ := I33.at List.mem_cons_self
        obtain ⟨p2, p3⟩ := I33.at (List.mem_cons_of_mem _ (List.mem_cons_of_mem _ (List.mem_cons_of_mem _ List.mem_cons_self)))
        go_wp2_with fail
        refine (inv_eqHeap I33 (by simp) (by simp) HN0.out (by omega)).mono ?_
        rintro e w31 ⟨rfl, I34⟩
        clear p0 p1 p2 p3 I33
        go_wp2_with fail
        refine (inv_eqWordS I34 (by simp) (by simp) HM0.out (by omega)).mono ?_
        rintro e w32 ⟨rfl, I35⟩
        clear I34
        obtain ⟨p0, p1⟩ := I35.at (List.mem_cons_of_mem _ List.mem_cons_self)
        go_wp2_with fail
        refine (inv_heldHeap I35 1 (by simp) (by omega) (by omega)).mono ?_
        rintro e w33 ⟨rfl, I36⟩
        clear p0 p1 I35
        go_wp2_with fail
        refine (inv_heldWordS I36 (1 + 2 * (n2 : Int)) (by simp) (by omega) (by omega)).mono ?_
        rintro e w34 ⟨rfl, I37⟩
        have hbw : Below w.heap.size w w34 := hw2.trans (I37.bel.mono hw2.size)
        clear I36 I37
        go_wp2_with fail
        go_ret
        exact ⟨rfl, hbw⟩
    · go_enter Try.func6, Try.ntmps6
      go_wp2_with fail
      rw [← HX.out]
      refine (szHeap_any _ _ _ _ _ _ hlm (by omega) (by omega)).mono ?_
      rintro e w1 ⟨rfl, hb1⟩
      rw [szN_pos hc]
      have hX1 : Below X.heap.size X w1 := hb1
      go_wp2_with fail
      refine (szWordS_any _ _ _ _ _ hlf (by omega) (by omega)).mono ?_
      rintro e w2 ⟨rfl, hb2⟩
      rw [szN_neg (by omega)]
      have hX2 : Below X.heap.size X w2 := hX1.trans (hb2.mono hX1.size)
      have hw2 : Below w.heap.size w w2 := hXb.trans (hX2.mono (by omega))
      go_wp2_with fail
      go_ret
      exact ⟨rfl, hw2⟩
  · go_enter Try.func6, Try.ntmps6
    go_wp2_with fail
    rw [← HX.out]
    refine (szHeap_any _ _ _ _ _ _ hlm (by omega) (by omega)).mono ?_
    rintro e w1 ⟨rfl, hb1⟩
    rw [szN_neg (by omega)]
    have hw1 : Below w.heap.size w w1 := hXb.trans (hb1.mono (by omega))
    go_wp2_with fail
    go_ret
    exact ⟨rfl, hw1⟩

end Go.Proofs.Ytemcmckofkhjfaa
