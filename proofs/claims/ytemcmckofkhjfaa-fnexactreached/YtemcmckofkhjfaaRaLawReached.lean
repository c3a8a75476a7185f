/-
  The law FnExactReached's walk: whatever heap and words lie in memory, true.
-/
import Derived.Test.YtemcmckofkhjfaaRaSRo
import Derived.Test.YtemcmckofkhjfaaRaInv
import Derived.Test.YtemcmckofkhjfaaRaRdW
namespace Go.Proofs.Ytemcmckofkhjfaa
open Go.RowKit
set_option linter.unusedVariables false
set_option linter.unusedSimpArgs false

section
variable {w0 W : World} {bx : List (Nat × Array Value × TypeId)} {rs : List (Value × List Wrd)}
theorem inv_sReached (I : Inv w0 W bx rs) {s : Int} {a1 : Option Addr} {len c1 : Nat} {l : List Wrd} {a2 : Option Addr} {nf c2 : Nat} {f : List Wrd} (h1 : (.slice a1 len c1, l) ∈ rs) (h2 : (.slice a2 nf c2, f) ∈ rs) (hl : len = l.length) (hf : nf = f.length) (hlm : len ≤ 1048576) (hfm : nf ≤ 1048576) (hcap : len ≤ c1) {N : Nat} (hN : rchN s l f = N) :
    Calls Try.prog 28 #[vH s a1 len c1, .slice a2 nf c2] W fun e W' => e = .returned (.int .i64 N) ∧ Inv w0 W' bx rs := by
  subst hN
  exact (sReached_any s a1 len c1 l a2 nf c2 f W ((I.ws h1 hl (by omega)).keep (fun _ _ _ => rfl) (Nat.zero_le _) (Nat.le_refl _)) ((I.ws h2 hf (by omega)).keep (fun _ _ _ => rfl) (Nat.zero_le _) (Nat.le_refl _)) hlm hfm hcap).mono fun e W' ⟨he, hb⟩ => ⟨he, I.call hb⟩
theorem inv_reached (I : Inv w0 W bx rs) {s : Int} {a1 : Option Addr} {len c1 : Nat} {l : List Wrd} {a2 : Option Addr} {nf c2 : Nat} {f : List Wrd} (h1 : (.slice a1 len c1, l) ∈ rs) (h2 : (.slice a2 nf c2, f) ∈ rs) (hl : len = l.length) (hf : nf = f.length) (hlm : len ≤ 1048576) (hfm : nf ≤ 1048576) (hcap : len ≤ c1) {N : Nat} (hN : rchN s l f = N) :
    Calls Try.prog 29 #[vH s a1 len c1, .slice a2 nf c2] W fun e W' => e = .returned (.int .i64 N) ∧ Inv w0 W' bx rs := by
  subst hN
  exact (reached_any s a1 len c1 l a2 nf c2 f W ((I.ws h1 hl (by omega)).keep (fun _ _ _ => rfl) (Nat.zero_le _) (Nat.le_refl _)) ((I.ws h2 hf (by omega)).keep (fun _ _ _ => rfl) (Nat.zero_le _) (Nat.le_refl _)) hlm hfm hcap).mono fun e W' ⟨he, hb⟩ => ⟨he, I.call hb⟩
end

set_option maxRecDepth 100000 in
set_option maxHeartbeats 4000000 in
theorem law_reached (B : Nat) (s : Int) (ao : Option Addr) (len cap : Nat) (l : List Wrd) (af : Option Addr) (nf cf : Nat) (f : List Wrd) (w : World) (hB : B ≤ w.heap.size) (hs : Ws 0 B w ao len l) (hin : in64 s) (hok : ∀ x ∈ l, okW x) (hf : Ws 0 B w af nf f) (hokf : ∀ x ∈ f, okW x) :
    Calls Try.prog 7 #[vH s ao len cap, .slice af nf cf] w fun e w' => e = .returned (.bool true) ∧ Below w.heap.size w w' := by
  obtain ⟨X, hX⟩ : ∃ X, X = w.alloc (.cells #[.int .i64 s, .slice ao len cap] 31) := ⟨_, rfl⟩
  have hXs : X.heap.size = w.heap.size + 1 := by rw [hX]; simp
  have hXb : Below w.heap.size w X := by rw [hX]; exact (Below.refl _ _).alloc (Nat.le_refl _) _
  have x0 : X.heap[w.heap.size]? = some (.cells #[.int .i64 s, .slice ao len cap] 31 (0, 0)) := by rw [hX]; exact heap_new rfl
  have HX : Hid (X = _) := hX
  have hlm := hs.2.1
  have hlf := hf.2.1
  have HL : Hid (len = l.length) := hs.1
  have HF : Hid (nf = f.length) := hf.1
  have hx0 : w.heap.size < X.heap.size := by omega
  clear hX hXs
  by_cases hc : (len : Int) ≤ 1048576
  · by_cases hc2 : (nf : Int) ≤ 1048576 - len
    · have hcn : len ≤ 1048576 := by omega
      have hcf : nf ≤ 1048576 := by omega
      go_enter Try.func7, Try.ntmps7
      go_wp2_with fail
      rw [← HX.out]
      refine (szHeap_any _ _ _ _ _ _ hlm (by omega) (by omega)).mono ?_
      rintro e w1 ⟨rfl, hb1⟩
      rw [szN_pos hc]
      have hX1 : Below X.heap.size X w1 := hb1
      go_wp2_with fail
      refine (szWordS_any _ _ _ _ _ hlf (by omega) (by omega)).mono ?_
      rintro e w2 ⟨rfl, hb2⟩
      rw [szN_pos hc2]
      have hX2 : Below X.heap.size X w2 := hX1.trans (hb2.mono hX1.size)
      have hw2 : Below w.heap.size w w2 := hXb.trans (hX2.mono (by omega))
      have y0 := (hX2.block _ hx0).trans x0
      obtain ⟨f0, f1⟩ := cells2 y0
      clear hb1 hb2 hX1
      obtain ⟨N, hN⟩ : ∃ N, rchN s l f = N := ⟨_, rfl⟩
      have HN : Hid (rchN s l f = N) := hN
      have HSA : Hid (∀ W, Below w2.heap.size w2 W → Ws 0 B W ao len l) := fun W hW => hs.below (hw2.trans (hW.mono hw2.size)) hB
      have HSF : Hid (∀ W, Below w2.heap.size w2 W → Ws 0 B W af nf f) := fun W hW => hf.below (hw2.trans (hW.mono hw2.size)) hB
      have hB2 : B ≤ w2.heap.size := Nat.le_trans hB hw2.size
      have hz0 : w.heap.size < w2.heap.size := Nat.lt_of_lt_of_le hx0 hX2.size
      have HC : Hid (∀ W, Below w2.heap.size w2 W → W.cell? ⟨w.heap.size, 0, none⟩ = some (.int .i64 s) ∧ W.cell? ⟨w.heap.size, 1, none⟩ = some (.slice ao len cap)) := by
        intro W hW
        exact cells2 ((hW.block _ hz0).trans y0)
      have IW : Inv w2 w2 [] [] := Inv.start w2
      clear hN y0 x0
      go_wp2_with fail
      refine (inv_toHeap IW cap hB2 HSA.out hcn).mono ?_
      rintro e w3 ⟨g3, rfl, I3⟩
      clear IW f0 f1
      go_wp2_with fail
      refine (inv_toWordS I3 cf hB2 HSF.out hcf).mono ?_
      rintro e w4 ⟨g4, rfl, I4⟩
      clear I3
      go_wp2_with fail
      refine (inv_sReached I4 (List.mem_cons_of_mem _ List.mem_cons_self) List.mem_cons_self HL.out HF.out hcn hcf (Nat.le_refl _) HN.out).mono ?_
      rintro e w5 ⟨rfl, I5⟩
      clear I4
      obtain ⟨f0, f1⟩ := HC.out w5 I5.bel
      have I5' : Inv w2 w5 [] [] := I5.take (List.Sublist.refl _) (List.nil_sublist _)
      clear I5
      go_wp2_with fail
      refine (inv_toHeap I5' cap hB2 HSA.out hcn).mono ?_
      rintro e w6 ⟨g6, rfl, I6⟩
      have I7 := I6.alloc #[.int .i64 s, .slice (some ⟨g6, 0, none⟩) len len] 24
      clear I6 I5' f0 f1
      go_wp2_with fail
      refine (inv_toWordS I7 cf hB2 HSF.out hcf).mono ?_
      rintro e w8 ⟨g8, rfl, I8⟩
      clear I7
      obtain ⟨p0, p1⟩ := I8.at List.mem_cons_self
      go_wp2_with fail
      refine (inv_reached I8 (List.mem_cons_of_mem _ List.mem_cons_self) List.mem_cons_self HL.out HF.out hcn hcf (Nat.le_refl _) HN.out).mono ?_
      rintro e w9 ⟨rfl, I9⟩
      clear I8 p0 p1
      obtain ⟨f0, f1⟩ := HC.out w9 I9.bel
      obtain ⟨p0, p1⟩ := I9.at List.mem_cons_self
      go_wp2_with fail
      go_region_with (first
        | (go_at_call 15; refine (inv_toHeap I9.drew cap hB2 HSA.out hcn).mono ?_; rintro e w10 ⟨g10, rfl, I10⟩; obtain ⟨k0, k1⟩ := I10.at List.mem_cons_self)
        | (go_at_call 10; refine (inv_eqHeap I10 (List.mem_cons_of_mem _ (List.mem_cons_of_mem _ List.mem_cons_self)) List.mem_cons_self HL.out (by omega)).mono ?_; rintro e w11 ⟨rfl, I11⟩))
      all_goals
        clear I10 k0 k1
        go_wp2_with fail
        refine (inv_toWordS I11 cf hB2 HSF.out hcf).mono ?_
        rintro e w12 ⟨g12, rfl, I12⟩
        clear I11
        go_wp2_with fail
        refine (inv_eqWordS I12 (List.mem_cons_of_mem _ (List.mem_cons_of_mem _ List.mem_cons_self)) List.mem_cons_self HF.out (by omega)).mono ?_
        rintro e w13 ⟨rfl, I13⟩
        have hbw : Below w.heap.size w w13 := hw2.trans (I13.bel.mono hw2.size)
        clear I12 I13
        go_wp2_with fail
        go_ret
        exact ⟨rfl, hbw⟩
    · go_enter Try.func7, Try.ntmps7
      go_wp2_with fail
      rw [← HX.out]
      refine (szHeap_any _ _ _ _ _ _ hlm (by omega) (by omega)).mono ?_
      rintro e w1 ⟨rfl, hb1⟩
      rw [szN_pos hc]
      have hX1 : Below X.heap.size X w1 := hb1
      go_wp2_with fail
      refine (szWordS_any _ _ _ _ _ hlf (by omega) (by omega)).mono ?_
      rintro e w2 ⟨rfl, hb2⟩
      rw [szN_neg (by omega)]
      have hX2 : Below X.heap.size X w2 := hX1.trans (hb2.mono hX1.size)
      have hw2 : Below w.heap.size w w2 := hXb.trans (hX2.mono (by omega))
      go_wp2_with fail
      go_ret
      exact ⟨rfl, hw2⟩
  · go_enter Try.func7, Try.ntmps7
    go_wp2_with fail
    rw [← HX.out]
    refine (szHeap_any _ _ _ _ _ _ hlm (by omega) (by omega)).mono ?_
    rintro e w1 ⟨rfl, hb1⟩
    rw [szN_neg (by omega)]
    have hw1 : Below w.heap.size w w1 := hXb.trans (hb1.mono (by omega))
    go_wp2_with fail
    go_ret
    exact ⟨rfl, hw1⟩

end Go.Proofs.Ytemcmckofkhjfaa
