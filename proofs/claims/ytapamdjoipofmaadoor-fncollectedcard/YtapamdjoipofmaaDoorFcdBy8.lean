/-
  'word' of a 'shower' at every fuel.
-/
import Derived.Test.YtapamdjoipofmaaDoorFcdBy7
namespace Go.Proofs.YtapamdjoipofmaaDoor
open Go.RowKit
set_option linter.unusedVariables false
set_option linter.unusedSimpArgs false

theorem Shw.drew {w : World} {S : Nat} {ao : Option Addr} {len cap : Nat} {n : Int} {T : List UInt8} (h : Shw w S ao len cap n T) : Shw w.drew S ao len cap n T := h.below ⟨rfl, rfl, rfl, Nat.le_refl _, fun _ _ => rfl⟩
theorem Sg.drew {S : Nat} {w w' : World} (h : Sg S w w') : Sg S w w'.drew := ⟨h.bel.drew, h.oth.drew⟩
theorem shw_zero (l : List Wrd) (f : Nat) (x : Wrd) : shw l (f + 1) 0 x = ([46], 0) := by rw [shw]
theorem shw_1 {l : List Wrd} {x : Wrd} (h : x.K = 1) (f n : Nat) : shw l (f + 1) (n + 1) x = (Lib.itoa x.N, n) := by rw [shw, if_pos h]
theorem shw_2 {l : List Wrd} {x : Wrd} (h : x.K = 2) (f n : Nat) : shw l (f + 1) (n + 1) x = (if x.N = 1 then [116] else [117], n) := by rw [shw, if_neg (by omega), if_pos h]
theorem shw_3 {l : List Wrd} {x : Wrd} (h : x.K = 3) (f n : Nat) : shw l (f + 1) (n + 1) x = ([91, 93], n) := by rw [shw, if_neg (by omega), if_neg (by omega), if_pos h]

set_option maxRecDepth 100000 in
set_option maxHeartbeats 2000000 in
theorem word_step {s : Int} {S B len cap : Nat} {ao : Option Addr} {l : List Wrd} (hok : okH s l = true) (hcap : len ≤ cap) (hl : len ≤ 1048576) (hBS : B ≤ S) (f : Nat) (IH : ∀ f', f' ≤ f → SaidW S B ao len cap l f') : SaidW S B ao len cap l (f + 1) := by
  intro n x T w hnf hx h hs hT hTl
  have hSlt := h.lt
  have hA : Below w.heap.size w (w.alloc (.cells #[.int .i64 x.K, .int .i64 x.N] 34)) := (Below.refl _ _).alloc (Nat.le_refl _) _
  have hSA := h.below hA
  have hsA : Ws 0 S (w.alloc (.cells #[.int .i64 x.K, .int .i64 x.N] 34)) ao len l := hs.below hA (by omega)
  have hgA : Sg S w (w.alloc (.cells #[.int .i64 x.K, .int .i64 x.N] 34)) := Sg.below hA (by omega)
  have hrA : (w.alloc (.cells #[.int .i64 x.K, .int .i64 x.N] 34)).heap[w.heap.size]? = some (.cells #[.int .i64 x.K, .int .i64 x.N] 34 (0, 0)) := heap_new rfl
  cases n with
  | zero =>
    rw [shw_zero]
    clear hrA
    go_enter Tryd.func23, Tryd.ntmps23
    go_wp2_with fail
    refine (looks_none hSA (by omega)).mono ?_
    rintro e w1 ⟨rfl, hg1, hS1⟩
    have hG := hgA.trans hg1
    go_wp2_with fail
    refine bodyPost_ret (v := .tuple #[]) (by simp [results, Tryd.results23, go_sem]) rfl ⟨rfl, hG, hS1⟩
  | succ m =>
    have KL := looks_some hSA (by omega)
    have hWt : (34 : TypeId) ≠ 5 := by decide
    have HRW : Hid (∀ w', Sg S (w.alloc (.cells #[.int .i64 x.K, .int .i64 x.N] 34)) w' → w'.heap[w.heap.size]? = some (.cells #[.int .i64 x.K, .int .i64 x.N] 34 (0, 0))) := fun w' hg => hg.blk hrA (by omega) hWt
    have HTB : Hid (∀ w', Sg S w w' → TabB B w') := fun w' hg => hT.below (hg.bel.mono hBS)
    have HWS : Hid (∀ w', Sg S w w' → Ws 0 S w' ao len l) := fun w' hg => hs.sg hg
    have HIH : Hid (∀ f', f' ≤ f → SaidW S B ao len cap l f') := IH
    clear hrA hWt IH hs hT hsA
    unfold vW
    obtain ⟨K, N⟩ := x
    rcases rg_kind hx with ⟨hk, hn1, hn2⟩ | hk | hk | hk
    · rw [shw_1 hk]
      simp only at hk hn1 hn2
      subst hk
      go_enter Tryd.func23, Tryd.ntmps23
      go_wp2_with fail
      refine KL.mono ?_
      rintro e w1 ⟨rfl, hg1, hS1⟩
      have hG1 := hgA.trans hg1
      obtain ⟨c0, c1⟩ := cells2 (HRW.out w1 hg1)
      have hS1d := hS1.drew
      have hG1d := hG1.drew
      clear KL
      have KN := numWrite_any N hn1 hn2 hS1d (HTB.out _ hG1d) (by omega)
      go_wp2_with fail
      go_region_law (go_simp; go_at_call 39; refine KN.mono ?_; rintro e w2 ⟨rfl, hg2, hS2⟩; have hG2 := hG1d.trans hg2)
      all_goals
        clear KN
        go_wp2_with fail
        go_end0
        exact ⟨rfl, hG2, hS2⟩
    · rw [shw_2 hk]
      simp only at hk
      subst hk
      simp only
      generalize htx : (if N = 1 then [116] else [117] : List UInt8) = tx
      have HTX : Hid ((if N = 1 then [116] else [117] : List UInt8) = tx) := htx
      clear htx
      go_enter Tryd.func23, Tryd.ntmps23
      go_wp2_with fail
      refine KL.mono ?_
      rintro e w1 ⟨rfl, hg1, hS1⟩
      have hG1 := hgA.trans hg1
      obtain ⟨c0, c1⟩ := cells2 (HRW.out w1 hg1)
      have hS1d := hS1.drew
      have hG1d := hG1.drew
      clear KL
      have KN := truthWrite_any (N == 1) hS1d (by omega)
      have hTx : (if (N == 1) = true then [116] else [117] : List UInt8) = (if N = 1 then [116] else [117]) := by simp
      rw [hTx, HTX.out] at KN
      clear hTx
      go_wp2_with fail
      go_region_law (go_simp; go_at_call 40; refine KN.mono ?_; rintro e w2 ⟨rfl, hg2, hS2⟩; have hG2 := hG1d.trans hg2)
      all_goals
        clear KN
        go_wp2_with fail
        go_end0
        exact ⟨rfl, hG2, hS2⟩
    · rw [shw_3 hk]
      simp only at hk
      subst hk
      go_enter Tryd.func23, Tryd.ntmps23
      go_wp2_with fail
      refine KL.mono ?_
      rintro e w1 ⟨rfl, hg1, hS1⟩
      have hG1 := hgA.trans hg1
      obtain ⟨c0, c1⟩ := cells2 (HRW.out w1 hg1)
      have hS1d := hS1.drew
      have hG1d := hG1.drew
      clear KL
      have KN := writeString_any [91, 93] hS1 (by simp; omega)
      go_wp2_with fail
      refine KN.mono ?_
      rintro e w2 ⟨⟨rr, rfl⟩, hg2, hS2⟩
      have hG2 := hG1.trans hg2
      clear KN
      go_wp2_with fail
      go_end0
      exact ⟨rfl, hG2, hS2⟩
    · simp only at hk
      subst hk
      have hl0 : 0 < l.length := by
        obtain ⟨a, c, hN, hm, hac, _⟩ := rg4 hok hx rfl
        omega
      obtain ⟨bb, oo, hao, _⟩ := (HWS.out w (Sg.refl _ _)).2.2 0 hl0
      subst hao
      have KOB := fun w1 (hG : Sg S w w1) (hS : Shw w1 S (some ⟨bb, oo, none⟩) len cap (m : Int) T) => object_any hok hcap hl hBS f HIH.out ⟨4, N⟩ hx rfl m (by omega) T w1 hS (HWS.out w1 hG) (HTB.out w1 hG) (by omega)
      generalize hXX : shw l (f + 1) (m + 1) ⟨4, N⟩ = XX at *
      have HKO : Hid (∀ w1, Sg S w w1 → _) := KOB
      clear hXX KOB
      go_enter Tryd.func23, Tryd.ntmps23
      go_wp2_with fail
      refine KL.mono ?_
      rintro e w1 ⟨rfl, hg1, hS1⟩
      have hG1 := hgA.trans hg1
      obtain ⟨c0, c1⟩ := cells2 (HRW.out w1 hg1)
      have hS1d := hS1.drew
      have hG1d := hG1.drew
      clear KL
      have KN := HKO.out w1 hG1 hS1
      unfold vW at KN
      go_wp2_with fail
      refine KN.mono ?_
      rintro e w2 ⟨rfl, hg2, hS2⟩
      have hG2 := hG1.trans hg2
      clear KN
      go_wp2_with fail
      go_end0
      exact ⟨rfl, hG2, hS2⟩

theorem word_all {s : Int} {S B len cap : Nat} {ao : Option Addr} {l : List Wrd} (hok : okH s l = true) (hcap : len ≤ cap) (hl : len ≤ 1048576) (hBS : B ≤ S) : ∀ f, ∀ f', f' ≤ f → SaidW S B ao len cap l f'
  | 0, f', h => by
    obtain rfl : f' = 0 := by omega
    intro n x T w hn
    omega
  | f + 1, f', h => by
    have IH := word_all (ao := ao) hok hcap hl hBS f
    by_cases e : f' ≤ f
    · exact IH f' e
    · obtain rfl : f' = f + 1 := by omega
      exact word_step hok hcap hl hBS f IH

end Go.Proofs.YtapamdjoipofmaaDoor
