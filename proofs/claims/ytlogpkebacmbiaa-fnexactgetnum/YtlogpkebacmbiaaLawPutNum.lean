/-
  The law FnExactPutNum's walk: whatever bytes lie in memory and whatever the number, true.
-/
import Derived.Test.YtlogpkebacmbiaaYs1
namespace Go.Proofs.Ytlogpkebacmbiaa
open Go.RowKit
set_option linter.unusedVariables false
set_option linter.unusedSimpArgs false

theorem eqSameB {base base' n n' : Nat} {ao ao' : Option Addr} {c c' : Nat} (P : List Int) (w : World) (h : Byts base w (.slice ao n c) P) (k : Byts base' w (.slice ao' n' c') P) (hl : n ≤ 2000000) :
    Calls Try.prog 9 #[.slice ao n c, .slice ao' n' c'] w fun e w' => e = .returned (.bool true) ∧ Below w.heap.size w w' := by
  have hp : P.length = n := by obtain ⟨_, _, e⟩ := byts_form h; injection e with _ e2 _; exact e2.symm
  exact eqByteS_any _ _ _ _ _ _ _ _ _ _ P w (Nat.le_refl _) (Nat.le_refl _) (byts_bs h (by omega)) (byts_bs k (by omega))
theorem markB {base : Nat} {ao : Option Addr} {n c : Nat} (P : List Int) (w : World) (h : Byts base w (.slice ao n c) P) (hl : n ≤ 2000000) :
    Calls Try.prog 10 #[.slice ao n c, .int .i64 1] w fun e w' => e = .returned (.int .i64 (1 + n)) ∧ Kn (.slice ao n c) w w' ∧ Byts base w' (.slice ao n c) (upb 1 n) := by
  have hp : P.length = n := by obtain ⟨_, _, e⟩ := byts_form h; injection e with _ e2 _; exact e2.symm
  have := markByteS_any _ P 1 w h (by omega) (by omega)
  rw [hp] at this
  exact this

set_option maxRecDepth 100000 in
set_option maxHeartbeats 4000000 in
theorem law_putNum (L B : Nat) (ao : Option Addr) (len cap : Nat) (l : List Int) (n : Int) (w : World) (hB : B ≤ w.heap.size) (hs : Bs L B w ao len l) (h1 : -9223372036854775808 ≤ n) (h2 : n ≤ 9223372036854775807) (_ : ∀ x ∈ l, 0 ≤ x ∧ x ≤ 255) :
    Calls Try.prog 3 #[.slice ao len cap, .int .i64 n] w fun e w' => e = .returned (.bool true) ∧ Below w.heap.size w w' := by
  have hmx := hs.2.1
  by_cases hc : len ≤ 1048576
  · go_enter Try.func3, Try.ntmps3
    go_wp2_with fail
    refine (toByteS_own L B ao len cap l w hB hs hc).mono ?_
    rintro e w1 ⟨g1, rfl, hb1, hO1⟩
    have hz1 := hb1.size
    have hL1 : l.length = len := hs.1.symm
    go_wp2_with fail
    refine (sPutNum_any _ len len l n w1 (Nat.le_refl _) (byts_bs hO1 (by omega)) hc h1 h2).mono ?_
    rintro e w2 ⟨a0, n0, c0, rfl, hN0, hb2⟩
    have hz2 := hb2.size
    have hn0 : n0 ≤ 1048581 := by
      obtain ⟨_, _, e⟩ := byts_form hN0
      injection e with _ e2 _
      have := put_len n
      rw [List.length_append] at e2
      omega
    have hb2w : Below w.heap.size w w2 := hb1.trans (hb2.mono hz1)
    clear hb1 hb2 hO1
    go_wp2_with fail
    refine (toByteS_own L B ao len cap l w2 (by omega) (hs.below hb2w hB) hc).mono ?_
    rintro e w3 ⟨g3, rfl, hb3, hO3⟩
    have hz3 := hb3.size
    have hb3w : Below w.heap.size w w3 := hb2w.trans (hb3.mono (by omega))
    have hN03 := byts_bel hN0 hb3
    have HO0 : Hid (∀ b, (Value.slice a0 n0 c0).ownBlock = some b → b < w2.heap.size) := fun b hb => (byts_own hN0 hb).2
    have HO3 : Hid (∀ b, (Value.slice (some ⟨g3, 0, none⟩) len len).ownBlock = some b → w2.heap.size ≤ b ∧ b < w3.heap.size) := fun b hb => byts_own hO3 hb
    go_wp2_with fail
    refine (putNum_any _ len len l n w3 (Nat.le_refl _) (byts_bs hO3 (by omega)) hc h1 h2).mono ?_
    rintro e w4 ⟨a4, n4, c4, rfl, hN4, hb4⟩
    have hz4 := hb4.size
    have hn4 : n4 = n0 := by
      obtain ⟨_, _, e⟩ := byts_form hN4
      injection e with _ e2 _
      obtain ⟨_, _, e'⟩ := byts_form hN0
      injection e' with _ e2' _
      rw [e2, e2']
    subst hn4
    have hN04 := byts_bel hN03 hb4
    have hO4 := byts_bel hO3 hb4
    have hb4w : Below w.heap.size w w4 := hb3w.trans (hb4.mono (by omega))
    have HO4 : Hid (∀ b, (Value.slice a4 n4 c4).ownBlock = some b → w3.heap.size ≤ b) := fun b hb => (byts_own hN4 hb).1
    clear hN0 hN03 hO3 hb3 hb4
    go_wp2_with fail
    refine (eqSameB _ w4 hN4 hN04 (by omega)).mono ?_
    rintro e w5 ⟨rfl, hb5⟩
    have hz5 := hb5.size
    have hN05 := byts_bel hN04 hb5
    have hN5 := byts_bel hN4 hb5
    have hO5 := byts_bel hO4 hb5
    have hb5w : Below w.heap.size w w5 := hb4w.trans (hb5.mono (by omega))
    clear hN4 hN04 hO4 hb5
    go_wp2_with fail
    refine (toByteS_own L B ao len cap l w5 (by omega) (hs.below hb5w hB) hc).mono ?_
    rintro e w6 ⟨g6, rfl, hb6, hO6'⟩
    have hz6 := hb6.size
    have hN06 := byts_bel hN05 hb6
    have hN6 := byts_bel hN5 hb6
    have hO6 := byts_bel hO5 hb6
    have hb6w : Below w.heap.size w w6 := hb5w.trans (hb6.mono (by omega))
    clear hN5 hN05 hO5 hb6
    go_wp2_with fail
    refine (eqSameB _ w6 hO6 hO6' (by omega)).mono ?_
    rintro e w7 ⟨rfl, hb7⟩
    have hz7 := hb7.size
    have hN07 := byts_bel hN06 hb7
    have hN7 := byts_bel hN6 hb7
    have hO7 := byts_bel hO6 hb7
    have hb7w : Below w.heap.size w w7 := hb6w.trans (hb7.mono (by omega))
    clear hN6 hN06 hO6 hO6' hb7
    go_wp2_with fail
    refine (markB _ w7 hO7 (by omega)).mono ?_
    rintro e w8 ⟨rfl, hk8, _⟩
    have hz8 := hk8.size
    have hN08 : Byts w1.heap.size w8 (.slice a0 n4 c0) _ := byts_keep hN07 fun b hb => hk8.block b (fun e => by have := HO0.out b hb; have := HO3.out b e; omega)
    have hN8 : Byts w3.heap.size w8 (.slice a4 n4 c4) _ := byts_keep hN7 fun b hb => hk8.block b (fun e => by have := HO4.out b hb; have := HO3.out b e; omega)
    have hb8w : Below w.heap.size w w8 := hb7w.trans ((hk8.below (B := w2.heap.size) (fun k hk => (HO3.out k hk).1)).mono (by omega))
    clear hN7 hN07 hO7 hk8
    go_wp2_with fail
    refine (eqSameB _ w8 hN8 hN08 (by omega)).mono ?_
    rintro e w9 ⟨rfl, hb9⟩
    have hz9 := hb9.size
    have hN09 := byts_bel hN08 hb9
    have hN9 := byts_bel hN8 hb9
    have hb9w : Below w.heap.size w w9 := hb8w.trans (hb9.mono (by omega))
    clear hN8 hN08 hb9
    go_wp2_with fail
    refine (markB _ w9 hN9 (by omega)).mono ?_
    rintro e w10 ⟨rfl, hk10, hM10⟩
    have hz10 := hk10.size
    have hN010 : Byts w1.heap.size w10 (.slice a0 n4 c0) _ := byts_keep hN09 fun b hb => hk10.block b (fun e => by have := HO0.out b hb; have := HO4.out b e; omega)
    have hb10w : Below w.heap.size w w10 := hb9w.trans ((hk10.below (B := w3.heap.size) (fun k hk => HO4.out k hk)).mono (by omega))
    clear hN9 hN09 hk10
    go_wp2_with fail
    refine (heldByteS_any _ n4 1 w10 hM10 (by omega) (by omega)).mono ?_
    rintro e w11 ⟨rfl, hb11⟩
    have hz11 := hb11.size
    have hN011 := byts_bel hN010 hb11
    have hM11 := byts_bel hM10 hb11
    have hb11w : Below w.heap.size w w11 := hb10w.trans (hb11.mono (by omega))
    clear hN010 hM10 hb11
    go_wp2_with fail
    refine (toByteS_own L B ao len cap l w11 (by omega) (hs.below hb11w hB) hc).mono ?_
    rintro e w12 ⟨g12, rfl, hb12, hO12⟩
    have hz12 := hb12.size
    have hN012 := byts_bel hN011 hb12
    have hM12 := byts_bel hM11 hb12
    have hb12w : Below w.heap.size w w12 := hb11w.trans (hb12.mono (by omega))
    clear hN011 hM11 hb12
    go_wp2_with fail
    refine (putNum_any _ len len l n w12 (Nat.le_refl _) (byts_bs hO12 (by omega)) hc h1 h2).mono ?_
    rintro e w13 ⟨a13, n13, c13, rfl, hN13, hb13⟩
    have hz13 := hb13.size
    have hn13 : n13 = n4 := by
      obtain ⟨_, _, e⟩ := byts_form hN13
      injection e with _ e2 _
      obtain ⟨_, _, e'⟩ := byts_form hN012
      injection e' with _ e2' _
      rw [e2, e2']
    subst hn13
    have hN013 := byts_bel hN012 hb13
    have hM13 := byts_bel hM12 hb13
    have hb13w : Below w.heap.size w w13 := hb12w.trans (hb13.mono (by omega))
    clear hN012 hM12 hb13 hO12
    go_wp2_with fail
    refine (eqSameB _ w13 hN13 hN013 (by omega)).mono ?_
    rintro e w14 ⟨rfl, hb14⟩
    have hz14 := hb14.size
    have hM14 := byts_bel hM13 hb14
    have hb14w : Below w.heap.size w w14 := hb13w.trans (hb14.mono (by omega))
    clear hN13 hN013 hM13 hb14
    go_wp2_with fail
    refine (heldByteS_any _ n13 1 w14 hM14 (by omega) (by omega)).mono ?_
    rintro e w15 ⟨rfl, hb15⟩
    go_wp2_with fail
    go_ret
    exact ⟨rfl, hb14w.trans (hb15.mono (by omega))⟩
  · go_enter Try.func3, Try.ntmps3
    go_wp2_with fail
    go_ret
    exact ⟨rfl, Below.refl _ _⟩

end Go.Proofs.Ytlogpkebacmbiaa
