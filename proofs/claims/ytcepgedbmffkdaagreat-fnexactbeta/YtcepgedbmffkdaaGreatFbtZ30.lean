/-
  'ready' of the program, 'l7Ready' of the model: whether each name alone tells its binder, and no type is open.
-/
import Derived.Test.YtcepgedbmffkdaaGreatFbtIm
import Derived.Test.YtcepgedbmffkdaaGreatFbtZ28
import Derived.Test.YtcepgedbmffkdaaGreatFbtZ18
import Derived.Test.YtcepgedbmffkdaaGreatFbtLf2
import Derived.Test.YtcepgedbmffkdaaGreatFbtZ24
import Derived.Test.YtcepgedbmffkdaaGreatFbtZ19
import Derived.Test.YtcepgedbmffkdaaGreatFbtZ9
import Derived.Test.YtcepgedbmffkdaaGreatFbtZ10
namespace Go.Proofs.YtcepgedbmffkdaaGreat
open Go.RowKit
set_option linter.unusedVariables false
set_option linter.unusedSimpArgs false

/-- Whether a term is ready. -/
def rdyM (t : Tm) : Bool := mnM t && auM t && decide (freeW 24 t [] [] = [])
theorem rdyM_ok {t : Tm} (h : rdyM t = true) : okM t = true := by
  simp only [rdyM, mnM, Bool.and_eq_true] at h
  exact h.1.1.1
theorem beq0 (n : Nat) : ((n : Int) == 0) = decide (n = 0) := by
  by_cases h : n = 0
  · subst h; rfl
  · have h2 : ((n : Int) == 0) = false := by rw [beq_eq_false_iff_ne]; omega
    rw [h2]; simp [h]
theorem toks_lit7 {base : Nat} {w : World} {g : Nat} (hg : w.heap[g]? = some (.cells #[] 9 (0, 0))) (hb : base ≤ g) : Toks base w (.slice (some ⟨g, 0, none⟩) 0 0) [] :=
  ⟨rfl, Or.inr ⟨g, 0, #[], rfl, hb, hg, by simp, by unfold maxLen; simp, by simp, by simp⟩⟩

set_option maxRecDepth 100000 in
set_option maxHeartbeats 1000000 in
theorem ready_any (D d L B : Nat) (t : Tm) (a1 : Option Addr) (l1 c1 : Nat) (a2 : Option Addr) (l2 c2 : Nat) (a3 : Option Addr) (l3 c3 : Nat) (w : World) (hB : B ≤ w.heap.size) (hf : Fm L B w D d t a1 l1 a2 l2 a3 l3) :
    Calls Tryz.prog 24 #[.agg #[.int .i64 t.K, .int .i64 t.N, .string t.S, .string t.Z, .int .i64 t.T.K, .int .i64 t.T.N, .slice a1 l1 c1, .slice a2 l2 c2, .slice a3 l3 c3]] w fun e w' => e = .returned (.bool (rdyM t)) ∧ Below w.heap.size w w' := by
  obtain ⟨X, hX⟩ : ∃ X, X = w.alloc (.cells #[.int .i64 t.K, .int .i64 t.N, .string t.S, .string t.Z, .int .i64 t.T.K, .int .i64 t.T.N, .slice a1 l1 c1, .slice a2 l2 c2, .slice a3 l3 c3] 34) := ⟨_, rfl⟩
  have hXs : X.heap.size = w.heap.size + 1 := by rw [hX]; simp
  have hXb : Below w.heap.size w X := by rw [hX]; exact (Below.refl _ _).alloc (Nat.le_refl _) _
  have hX0 : X.heap[w.heap.size]? = some (.cells #[.int .i64 t.K, .int .i64 t.N, .string t.S, .string t.Z, .int .i64 t.T.K, .int .i64 t.T.N, .slice a1 l1 c1, .slice a2 l2 c2, .slice a3 l3 c3] 34 (0, 0)) := by rw [hX]; exact heap_new rfl
  have hfX := Fm.below hXb hB hf
  have HX : Hid (X = _) := hX
  clear hX
  cases h1 : mnM t
  · have HQ : Hid (mnM t = false ∧ rdyM t = false) := ⟨h1, by simp [rdyM, h1]⟩
    clear h1
    go_enter Tryz.func24, Tryz.ntmps24
    go_wp2_with fail
    rw [← HX.out]
    refine (isMono_any D d L B t _ _ _ _ _ _ _ _ _ X (by omega) hfX).mono ?_
    rintro e w1 ⟨rfl, hb1⟩
    rw [HQ.out.1]
    go_wp2_with fail
    go_ret
    exact ⟨by rw [HQ.out.2]; rfl, hXb.trans (hb1.mono (by omega))⟩
  · cases h2 : auM t
    · have HQ : Hid (mnM t = true ∧ auM t = false ∧ rdyM t = false) := ⟨h1, h2, by simp [rdyM, h2]⟩
      clear h1 h2
      go_enter Tryz.func24, Tryz.ntmps24
      go_wp2_with fail
      rw [← HX.out]
      refine (isMono_any D d L B t _ _ _ _ _ _ _ _ _ X (by omega) hfX).mono ?_
      rintro e w1 ⟨rfl, hb1⟩
      rw [HQ.out.1]
      have hz1 := hb1.size
      have hbw1 : Below w.heap.size w w1 := hXb.trans (hb1.mono (by omega))
      obtain ⟨f0, f1, f2, f3, f4, f5, f6, f7, f8⟩ := Nine.box ((hb1.block w.heap.size (by omega)).trans hX0)
      go_wp2_with fail
      refine (allUnlike_any D d L B t _ _ _ _ _ _ _ _ _ w1 (by omega) (Fm.below hbw1 hB hf)).mono ?_
      rintro e w2 ⟨rfl, hb2⟩
      rw [HQ.out.2.1]
      go_wp2_with fail
      go_ret
      exact ⟨by rw [HQ.out.2.2]; rfl, hbw1.trans (hb2.mono (by omega))⟩
    · have hok : okM t = true := by simp only [mnM, Bool.and_eq_true] at h1; exact h1.1
      obtain ⟨m, hm, hm6⟩ := okM_some hok
      have HFT : Hid (freeT t = freeW 24 t [] []) := by show _ = _; simp [freeT, hok]
      have hfl := freeW_len 24 t m [] [] hm
      obtain ⟨nf, hnf⟩ : ∃ nf, (freeW 24 t [] []).length = nf := ⟨_, rfl⟩
      have HQ : Hid (mnM t = true ∧ auM t = true ∧ rdyM t = decide (nf = 0)) := ⟨h1, h2, by
        have e : decide (freeW 24 t [] [] = []) = decide (nf = 0) := by rw [← hnf]; exact decide_eq_decide.2 List.length_eq_zero_iff.symm
        simp [rdyM, h1, h2, e]⟩
      have HNF : Hid ((freeW 24 t [] []).length = nf) := hnf
      rw [hnf] at hfl
      clear h1 h2 hok hnf
      go_enter Tryz.func24, Tryz.ntmps24
      go_wp2_with fail
      rw [← HX.out]
      refine (isMono_any D d L B t _ _ _ _ _ _ _ _ _ X (by omega) hfX).mono ?_
      rintro e w1 ⟨rfl, hb1⟩
      rw [HQ.out.1]
      have hz1 := hb1.size
      have hbw1 : Below w.heap.size w w1 := hXb.trans (hb1.mono (by omega))
      have x1 := (hb1.block w.heap.size (by omega)).trans hX0
      obtain ⟨f0, f1, f2, f3, f4, f5, f6, f7, f8⟩ := Nine.box x1
      go_wp2_with fail
      refine (allUnlike_any D d L B t _ _ _ _ _ _ _ _ _ w1 (by omega) (Fm.below hbw1 hB hf)).mono ?_
      rintro e w2 ⟨rfl, hb2⟩
      rw [HQ.out.2.1]
      have hz2 := hb2.size
      have hbw2 : Below w.heap.size w w2 := hbw1.trans (hb2.mono (by omega))
      clear f0 f1 f2 f3 f4 f5 f6 f7 f8
      obtain ⟨f0, f1, f2, f3, f4, f5, f6, f7, f8⟩ := Nine.box ((hb2.block w.heap.size (by omega)).trans x1)
      go_wp2_with fail
      refine (freeOf_any D d L B t _ _ _ _ _ _ _ _ _ w2 (by omega) (Fm.below hbw2 hB hf)).mono ?_
      rintro e w3 ⟨v, rfl, hb3, hTk⟩
      rw [HFT.out] at hTk
      obtain ⟨ao, cp, rfl⟩ := toks_form hTk
      rw [HNF.out] at hTk ⊢
      go_wp2_with fail
      go_ret
      exact ⟨by rw [HQ.out.2.2]; simp; exact beq0 nf, hbw2.trans (hb3.mono (by omega))⟩

set_option maxRecDepth 100000 in
set_option maxHeartbeats 1000000 in
theorem sReady_any (D d L B : Nat) (t : Tm) (a1 : Option Addr) (l1 c1 : Nat) (a2 : Option Addr) (l2 c2 : Nat) (a3 : Option Addr) (l3 c3 : Nat) (w : World) (hB : B ≤ w.heap.size) (hf : Fm L B w D d t a1 l1 a2 l2 a3 l3) :
    Calls Tryz.prog 17 #[.agg #[.int .i64 t.K, .int .i64 t.N, .string t.S, .string t.Z, .int .i64 t.T.K, .int .i64 t.T.N, .slice a1 l1 c1, .slice a2 l2 c2, .slice a3 l3 c3]] w fun e w' => e = .returned (.bool (rdyM t)) ∧ Below w.heap.size w w' := by
  obtain ⟨X, hX⟩ : ∃ X, X = w.alloc (.cells #[.int .i64 t.K, .int .i64 t.N, .string t.S, .string t.Z, .int .i64 t.T.K, .int .i64 t.T.N, .slice a1 l1 c1, .slice a2 l2 c2, .slice a3 l3 c3] 34) := ⟨_, rfl⟩
  have hXs : X.heap.size = w.heap.size + 1 := by rw [hX]; simp
  have hXb : Below w.heap.size w X := by rw [hX]; exact (Below.refl _ _).alloc (Nat.le_refl _) _
  have hX0 : X.heap[w.heap.size]? = some (.cells #[.int .i64 t.K, .int .i64 t.N, .string t.S, .string t.Z, .int .i64 t.T.K, .int .i64 t.T.N, .slice a1 l1 c1, .slice a2 l2 c2, .slice a3 l3 c3] 34 (0, 0)) := by rw [hX]; exact heap_new rfl
  have hfX := Fm.below hXb hB hf
  have HX : Hid (X = _) := hX
  clear hX
  cases h1 : mnM t
  · have HQ : Hid (mnM t = false ∧ rdyM t = false) := ⟨h1, by simp [rdyM, h1]⟩
    clear h1
    go_enter Tryz.func17, Tryz.ntmps17
    go_wp2_with fail
    rw [← HX.out]
    refine (sIsMono_any D d L B t _ _ _ _ _ _ _ _ _ X (by omega) hfX).mono ?_
    rintro e w1 ⟨rfl, hb1⟩
    rw [HQ.out.1]
    go_wp2_with fail
    go_ret
    exact ⟨by rw [HQ.out.2]; rfl, hXb.trans (hb1.mono (by omega))⟩
  · cases h2 : auM t
    · have HQ : Hid (mnM t = true ∧ auM t = false ∧ rdyM t = false) := ⟨h1, h2, by simp [rdyM, h2]⟩
      clear h1 h2
      go_enter Tryz.func17, Tryz.ntmps17
      go_wp2_with fail
      rw [← HX.out]
      refine (sIsMono_any D d L B t _ _ _ _ _ _ _ _ _ X (by omega) hfX).mono ?_
      rintro e w1 ⟨rfl, hb1⟩
      rw [HQ.out.1]
      have hz1 := hb1.size
      have hbw1 : Below w.heap.size w w1 := hXb.trans (hb1.mono (by omega))
      obtain ⟨f0, f1, f2, f3, f4, f5, f6, f7, f8⟩ := Nine.box ((hb1.block w.heap.size (by omega)).trans hX0)
      go_wp2_with fail
      refine (sAllUnlike_any D d L B t _ _ _ _ _ _ _ _ _ w1 (by omega) (Fm.below hbw1 hB hf)).mono ?_
      rintro e w2 ⟨rfl, hb2⟩
      rw [HQ.out.2.1]
      go_wp2_with fail
      go_ret
      exact ⟨by rw [HQ.out.2.2]; rfl, hbw1.trans (hb2.mono (by omega))⟩
    · have hok : okM t = true := by simp only [mnM, Bool.and_eq_true] at h1; exact h1.1
      obtain ⟨m, hm, hm6⟩ := okM_some hok
      have HFT : Hid (freeT t = freeW 24 t [] []) := by show _ = _; simp [freeT, hok]
      have hfl := freeW_len 24 t m [] [] hm
      obtain ⟨nf, hnf⟩ : ∃ nf, (freeW 24 t [] []).length = nf := ⟨_, rfl⟩
      have HQ : Hid (mnM t = true ∧ auM t = true ∧ rdyM t = decide (nf = 0)) := ⟨h1, h2, by
        have e : decide (freeW 24 t [] [] = []) = decide (nf = 0) := by rw [← hnf]; exact decide_eq_decide.2 List.length_eq_zero_iff.symm
        simp [rdyM, h1, h2, e]⟩
      have HNF : Hid ((freeW 24 t [] []).length = nf) := hnf
      rw [hnf] at hfl
      clear h1 h2 hok hnf
      go_enter Tryz.func17, Tryz.ntmps17
      go_wp2_with fail
      rw [← HX.out]
      refine (sIsMono_any D d L B t _ _ _ _ _ _ _ _ _ X (by omega) hfX).mono ?_
      rintro e w1 ⟨rfl, hb1⟩
      rw [HQ.out.1]
      have hz1 := hb1.size
      have hbw1 : Below w.heap.size w w1 := hXb.trans (hb1.mono (by omega))
      have x1 := (hb1.block w.heap.size (by omega)).trans hX0
      obtain ⟨f0, f1, f2, f3, f4, f5, f6, f7, f8⟩ := Nine.box x1
      go_wp2_with fail
      refine (sAllUnlike_any D d L B t _ _ _ _ _ _ _ _ _ w1 (by omega) (Fm.below hbw1 hB hf)).mono ?_
      rintro e w2 ⟨rfl, hb2⟩
      rw [HQ.out.2.1]
      have hz2 := hb2.size
      have hbw2 : Below w.heap.size w w2 := hbw1.trans (hb2.mono (by omega))
      clear f0 f1 f2 f3 f4 f5 f6 f7 f8
      obtain ⟨f0, f1, f2, f3, f4, f5, f6, f7, f8⟩ := Nine.box ((hb2.block w.heap.size (by omega)).trans x1)
      have hA : Below w2.heap.size w2 ((w2.alloc (.cells #[] 9)).alloc (.cells #[] 9)) := ((Below.refl _ _).alloc (Nat.le_refl _) _).alloc (by simp) _
      have hbA : Below w.heap.size w ((w2.alloc (.cells #[] 9)).alloc (.cells #[] 9)) := hbw2.trans (hA.mono (by omega))
      have hT1 : Toks w.heap.size ((w2.alloc (.cells #[] 9)).alloc (.cells #[] 9)) (.slice (some ⟨w2.heap.size, 0, none⟩) 0 0) [] := toks_lit7 (by rw [Below.heap_alloc _ _ _ (by simp)]; exact heap_new rfl) (by omega)
      have hT2 : Toks w.heap.size ((w2.alloc (.cells #[] 9)).alloc (.cells #[] 9)) (.slice (some ⟨w2.heap.size + 1, 0, none⟩) 0 0) [] := toks_lit7 (heap_new (by simp)) (by omega)
      have hfA : Fm L B ((w2.alloc (.cells #[] 9)).alloc (.cells #[] 9)) D d t a1 l1 a2 l2 a3 l3 := Fm.below hbA hB hf
      have hltA : w.heap.size < w2.heap.size := by omega
      go_wp2_with fail
      refine (lf_any 24 D d L B w.heap.size t a1 l1 c1 a2 l2 c2 a3 l3 c3 _ _ [] [] m _ hB (by simp; omega) hfA hm hT1 hT2 (fun g hg e => by simp [Value.ownBlock] at hg e; omega) (by simp) (by simp; omega)).mono ?_
      rintro e w3 ⟨v, rfl, hk3, hTk⟩
      have hb3A := hk3.below hT2 (by simp; omega)
      obtain ⟨ao, cp, rfl⟩ := toks_form hTk
      rw [HNF.out] at hTk ⊢
      go_wp2_with fail
      go_ret
      exact ⟨by rw [HQ.out.2.2]; simp; exact beq0 nf, hbA.trans hb3A⟩

end Go.Proofs.YtcepgedbmffkdaaGreat

/-
  Putting in the first that may be, of a term that is ready, in plain words. No walk.
-/
namespace Go.Proofs.YtcepgedbmffkdaaGreat
open Go.RowKit
set_option linter.unusedVariables false
set_option linter.unusedSimpArgs false

def betaT (t : Tm) : Tm × Bool := if rdyM t = true then (if (betaM 24 t).2 = true ∧ okM (betaM 24 t).1 = true then ((betaM 24 t).1, true) else (t, false)) else (zTm, false)
theorem betaT_not {t : Tm} (h : rdyM t = false) : betaT t = (zTm, false) := by unfold betaT; rw [if_neg (by rw [h]; simp)]
theorem betaT_no {t : Tm} (h : rdyM t = true) (h2 : (betaM 24 t).2 = false) : betaT t = (t, false) := by unfold betaT; rw [if_pos h, if_neg (fun h3 => by rw [h2] at h3; exact absurd h3.1 (by simp))]
theorem betaT_big {t : Tm} (h : rdyM t = true) (h2 : okM (betaM 24 t).1 = false) : betaT t = (t, false) := by unfold betaT; rw [if_pos h, if_neg (fun h3 => by rw [h2] at h3; exact absurd h3.2 (by simp))]
theorem betaT_yes {t : Tm} (h : rdyM t = true) (h2 : (betaM 24 t).2 = true) (h3 : okM (betaM 24 t).1 = true) : betaT t = ((betaM 24 t).1, true) := by unfold betaT; rw [if_pos h, if_pos ⟨h2, h3⟩]

/-- How it ends: what it tells lies in the result's block, too. -/
theorem put_finP {w W : World} {D d r : Nat} {P : Tm} {ok : Bool} {R : Tm × Bool} {bn : List Nat} {za zb zc : Option Addr} {la ca lb cb lc cc : Nat} (hb : Below w.heap.size w W) (hr : w.heap.size ≤ r) (hf : FldO W D (OwM W D d) P za la zb lb zc lc bn) (hnd : bn.Nodup) (hin : ∀ g ∈ bn, r + 1 ≤ g ∧ g < W.heap.size) (hR : R = (P, ok)) :
    ∀ W', W' = set9 W r 0 (.int .i64 P.K) (.int .i64 P.N) (.string P.S) (.string P.Z) (.int .i64 P.T.K) (.int .i64 P.T.N) (.slice za la ca) (.slice zb lb cb) (.slice zc lc cc) → PutE w W' (.returned (.tuple #[.agg #[.int .i64 P.K, .int .i64 P.N, .string P.S, .string P.Z, .int .i64 P.T.K, .int .i64 P.T.N, .slice za la ca, .slice zb lb cb, .slice zc lc cc], .bool ok])) R := fun W' hW' => by
  have hWb : Below w.heap.size w W' := by rw [hW']; exact set9_below hb hr
  have hWs : W'.heap.size = W.heap.size := by rw [hW']; exact set9_size _ _ _ _ _ _ _ _ _ _ _ _
  have hWo : ∀ g, g ≠ r → W'.heap[g]? = W.heap[g]? := fun g hg => by rw [hW']; exact set9_other g hg
  rw [hR]
  exact ⟨D, d, za, la, ca, zb, lb, cb, zc, lc, cc, rfl, hWb, bn, FldO.keep (fun g hg => hWo g (by have := hin g hg; omega)) hf, hnd, fun g hg => by have := hin g hg; omega⟩

end Go.Proofs.YtcepgedbmffkdaaGreat

/-
  A part of a term of one's own is written anew, whatever it was and whatever it has become: what the whole is then. No walk.
-/
namespace Go.Proofs.YtcepgedbmffkdaaGreat
open Go.RowKit
set_option linter.unusedVariables false
set_option linter.unusedSimpArgs false

/-- As Own9.part, the whole laid anew however deep its parts are then. -/
theorem Own9.partD {w : World} {D d b o : Nat} {t : Tm} {bs : List Nat} (h : Own9 w D d b o t bs) (hA : 0 < t.A.length) :
    ∃ (g l c : Nat) (cs : Array Value) (p12 : List Nat) (bss : List (List Nat)) (d1 : Nat), l = t.A.length ∧ w.cell? ⟨b, o + 8, none⟩ = some (.slice (some ⟨g, 0, none⟩) l c) ∧ w.heap[g]? = some (.cells cs 34 (0, 0)) ∧ t.A.length * 9 ≤ cs.size ∧ bss.length = t.A.length ∧ bs = p12 ++ g :: bss.flatten ∧
      (∀ i (_ : i < t.A.length) (_ : i < bss.length), Own9 w D d1 g (i * 9) t.A[i] bss[i]) ∧
      ∀ (w' : World) (D' d2 : Nat) (A' : List Tm) (bss' : List (List Nat)) (cs' : Array Value), D ≤ D' → A'.length = t.A.length → bss'.length = bss.length → (∀ k ∈ p12, w'.heap[k]? = w.heap[k]?) → (∀ i, i < 9 → w'.cell? ⟨b, o + i, none⟩ = w.cell? ⟨b, o + i, none⟩) → w'.heap[g]? = some (.cells cs' 34 (0, 0)) → cs'.size = cs.size →
        (∀ i (_ : i < A'.length) (_ : i < bss'.length), Own9 w' D' d2 g (i * 9) A'[i] bss'[i]) → Own9 w' D' (d2 + 1) b o { t with A := A' } (p12 ++ g :: bss'.flatten) := by
  obtain ⟨a1, l1, c1, a2, l2, c2, a3, l3, c3, h9, p1, p2, p3, rfl, h1, h2, h3, h4, h5⟩ := h
  cases d with
  | zero => obtain ⟨_, h6, _⟩ := h5; rw [h6] at hA; simp at hA
  | succ d1 =>
    rcases h5 with ⟨_, h6, _⟩ | ⟨g, cs, bss, rfl, hl, hm, hg, hc, hbl, rfl, hE⟩
    · rw [h6] at hA; simp at hA
    · refine ⟨g, l3, c3, cs, p1 ++ p2, bss, d1, hl, h9.c8, hg, by omega, hbl, rfl, fun i hi hi' => ?_, ?_⟩
      · obtain ⟨y1, k1, j1, y2, k2, j2, y3, k3, j3, y9, yf⟩ := hE i hi hi'
        exact ⟨y1, k1, j1, y2, k2, j2, y3, k3, j3, y9, yf⟩
      · intro w' D' d2 A' bss' cs' hD e1 e2 hk hcell hg' hcs hE'
        refine ⟨a1, l1, c1, a2, l2, c2, _, l3, c3, h9.of_cells hcell, p1, p2, g :: bss'.flatten, rfl, h1, h2, (h3.keep fun k hk' => hk k (by simp [hk'])).deeper hD, (h4.keep fun k hk' => hk k (by simp [hk'])).deeper hD, ?_⟩
        exact Or.inr ⟨g, cs', bss', rfl, by simp only []; omega, hm, hg', by omega, by simp only []; omega, rfl, fun i hi hi' => hE' i hi hi'⟩

theorem Own9.redo {w : World} {D d b o : Nat} {t : Tm} {bs : List Nat} (h : Own9 w D d b o t bs) (hnd : bs.Nodup) (hb : b ∉ bs) (hin : ∀ k ∈ bs, k < w.heap.size) (hbw : b < w.heap.size) {i : Nat} (hi : i < t.A.length) :
    ∃ (g l c : Nat) (cs : Array Value) (bi : List Nat) (di : Nat), w.cell? ⟨b, o + 8, none⟩ = some (.slice (some ⟨g, 0, none⟩) l c) ∧ l = t.A.length ∧ w.heap[g]? = some (.cells cs 34 (0, 0)) ∧ t.A.length * 9 ≤ cs.size ∧ g ∈ bs ∧ g ∉ bi ∧ bi.Nodup ∧ (∀ k ∈ bi, k ∈ bs) ∧ Own9 w D di g (i * 9) t.A[i] bi ∧
      ∀ (w' : World) (x : Tm) (D' d' : Nat) (bi' : List Nat) (cs' : Array Value), D ≤ D' → Own9 w' D' d' g (i * 9) x bi' → bi'.Nodup → (∀ k ∈ bi', k ∈ bi ∨ w.heap.size ≤ k) → (∀ k, k < w.heap.size → k ≠ g → k ∉ bi → w'.heap[k]? = w.heap[k]?) → w'.heap[g]? = some (.cells cs' 34 (0, 0)) → cs'.size = cs.size → (∀ q, q < i * 9 ∨ i * 9 + 8 < q → w'.cell? ⟨g, q, none⟩ = w.cell? ⟨g, q, none⟩) →
        ∃ bs' d'', Own9 w' D' d'' b o { t with A := t.A.set i x } bs' ∧ bs'.Nodup ∧ (∀ k ∈ bs', k ∈ bs ∨ k ∈ bi') := by
  obtain ⟨g, l, c, cs, p12, bss, d1, hl, hc8, hg, hcs, hbl, rfl, hE, hmk⟩ := h.partD (by omega)
  have hib : i < bss.length := by omega
  obtain ⟨hn12, hng, hdis⟩ := List.nodup_append.1 hnd
  obtain ⟨hgf, hnf⟩ := List.nodup_cons.1 hng
  have hni : bss[i].Nodup := (List.pairwise_flatten.1 hnf).1 _ (List.getElem_mem hib)
  have hgi : g ∉ bss[i] := fun hh => hgf (mem_part hib hh)
  have hgw : g < w.heap.size := hin g (by simp)
  have hsubi : ∀ k ∈ bss[i], k ∈ p12 ++ g :: bss.flatten := fun k hk => by
    simp only [List.mem_append, List.mem_cons]; exact Or.inr (Or.inr (mem_part hib hk))
  refine ⟨g, l, c, cs, bss[i], d1, hc8, hl, hg, hcs, by simp, hgi, hni, hsubi, hE i hi hib, ?_⟩
  intro w' x D' d' bi' cs' hD ho hnb hsub hoth hg' hcs' hfar
  have h12 : ∀ k ∈ p12, w'.heap[k]? = w.heap[k]? := fun k hk => hoth k (hin k (by simp [hk])) (fun e => hdis k hk g (by simp) e) (fun hh => hdis k hk k (by simp only [List.mem_cons]; exact Or.inr (mem_part hib hh)) rfl)
  have hbi : b ∉ bss[i] := fun hh => hb (hsubi b hh)
  have hbg : b ≠ g := fun e => hb (by rw [e]; simp)
  refine ⟨p12 ++ g :: (bss.set i bi').flatten, max d1 d' + 1, ?_, ?_, ?_⟩
  · refine hmk w' D' (max d1 d') _ (bss.set i bi') cs' hD (by simp) (by simp) h12 (fun q hq => World.cell?_of_block (hoth b hbw hbg hbi)) hg' hcs' ?_
    intro j hj hj'
    have hj1 : j < t.A.length := by simpa using hj
    have hj2 : j < bss.length := by simpa using hj'
    by_cases hji : j = i
    · subst hji
      simp only [List.getElem_set_self]
      exact ho.deeper (by omega)
    · simp only [List.getElem_set_ne (fun e => hji e.symm)]
      refine (((hE j hj1 hj2).keep (fun q hq => hfar _ (by omega)) (fun k hk => hoth k (hin k ?_) ?_ ?_)).deeperD hD).deeper (by omega)
      · simp only [List.mem_append, List.mem_cons]; exact Or.inr (Or.inr (mem_part hj2 hk))
      · rintro rfl; exact hgf (mem_part hj2 hk)
      · exact fun h1 => part_apart hnf hj2 hib hji hk h1
  · refine List.nodup_append.2 ⟨hn12, List.nodup_cons.2 ⟨fun hh => ?_, ?_⟩, ?_⟩
    · rcases mem_setc hh with h1 | h1
      · exact hgf h1
      · rcases hsub g h1 with h2 | h2
        · exact hgi h2
        · omega
    · refine nodup_setc hib hnf hnb fun k hk => ?_
      rcases hsub k hk with h1 | h1
      · exact Or.inl h1
      · refine Or.inr fun hh => ?_
        have h3 := hin k (by simp only [List.mem_append, List.mem_cons]; exact Or.inr (Or.inr hh))
        omega
    · intro a ha b2 hb2
      rcases List.mem_cons.1 hb2 with rfl | hb2
      · exact hdis a ha _ (by simp)
      · rcases mem_setc hb2 with h1 | h1
        · exact hdis a ha b2 (List.mem_cons_of_mem _ h1)
        · rcases hsub b2 h1 with h2 | h2
          · exact hdis a ha b2 (List.mem_cons_of_mem _ (mem_part hib h2))
          · have h4 := hin a (List.mem_append_left _ ha)
            omega
  · intro k hk
    rcases List.mem_append.1 hk with hk | hk
    · exact Or.inl (List.mem_append_left _ hk)
    · rcases List.mem_cons.1 hk with rfl | hk
      · exact Or.inl (by simp)
      · rcases mem_setc hk with h1 | h1
        · exact Or.inl (by simp only [List.mem_append, List.mem_cons]; exact Or.inr (Or.inr h1))
        · exact Or.inr h1

/-- What is given a name, where it holds. -/
def givM (t : Tm) : Option (ByteArray × Tm × Tm) :=
  if t.K = 6 then some (t.S, pa t 0, pa t 1)
  else if t.K = 5 ∧ (pa t 0).K = 4 then some ((pa t 0).S, pa t 1, pa (pa t 0) 0) else none

/-- Whether it may be put in. -/
def mayM (s : ByteArray) (x t : Tm) : Bool := pureM x && decide (usesN (bs s) 24 t < 2)

theorem hereM_none {t : Tm} (h : givM t = none) : hereM t = (t, false) := by
  unfold givM at h
  by_cases h6 : t.K = 6
  · rw [if_pos h6] at h; cases h
  rw [if_neg h6] at h
  by_cases h5 : t.K = 5 ∧ (pa t 0).K = 4
  · rw [if_pos h5] at h; cases h
  have hA : hereA t = false := by
    unfold hereA
    by_cases e : t.K = 5
    · have : ¬ (pa t 0).K = 4 := fun e2 => h5 ⟨e, e2⟩
      simp [this]
    · simp [e]
  have hL : hereL t = false := by unfold hereL; simp [h6]
  unfold hereM
  rw [if_neg (by rw [hA]; simp), if_neg (by rw [hL]; simp)]
theorem hereM_some {t x y : Tm} {s : ByteArray} (h : givM t = some (s, x, y)) : hereM t = if mayM s x y = true then spR (freeW 24 x [] []) x (usesP (bs s) 24 y) y else (t, false) := by
  unfold givM at h
  by_cases h6 : t.K = 6
  · rw [if_pos h6] at h
    injection h with h
    injection h with e1 h
    injection h with e2 e3
    subst e1 e2 e3
    have hA : hereA t = false := by unfold hereA; simp [h6]
    have hL : hereL t = mayM t.S (pa t 0) (pa t 1) := by unfold hereL mayM; simp [h6]
    unfold hereM
    rw [if_neg (by rw [hA]; simp), hL]
  rw [if_neg h6] at h
  by_cases h5 : t.K = 5 ∧ (pa t 0).K = 4
  · rw [if_pos h5] at h
    injection h with h
    injection h with e1 h
    injection h with e2 e3
    subst e1 e2 e3
    have hA : hereA t = mayM (pa t 0).S (pa t 1) (pa (pa t 0) 0) := by unfold hereA mayM; simp [h5.1, h5.2]
    have hL : hereL t = false := by unfold hereL; simp [h6]
    unfold hereM
    rw [hA, hL]
    simp
  · rw [if_neg h5] at h; cases h

end Go.Proofs.YtcepgedbmffkdaaGreat

/-
  What it is that a form's type is asked: a call.
-/
namespace Go.Proofs.YtcepgedbmffkdaaGreat
open Go.RowKit
set_option linter.unusedVariables false
set_option linter.unusedSimpArgs false

theorem is_appForm (W : World) (v : Value) : (Instr.typeAssert (.iface 112 v) 52 112 true).run Tryz.prog W = .ok (.tuple #[v, .bool true]) W := by kernel_rfl
theorem no_appForm (W : World) (u : TypeId) (v : Value) (h : u ≠ 112) : (Instr.typeAssert (.iface u v) 52 112 true).run Tryz.prog W = .ok (.tuple #[.agg #[.int .i64 0, .nilIface, .nilIface], .bool false]) W := by
  have hz : (zeroValue 112).run Tryz.prog W = .ok (.agg #[.int .i64 0, .nilIface, .nilIface]) W := by kernel_rfl
  simp [Instr.typeAssert, run_underlying Tryz.underlying112, h, hz]

end Go.Proofs.YtcepgedbmffkdaaGreat
