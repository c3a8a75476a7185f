/-
  'eachTerm' with a closure: whatever the closure keeps up at each term, all terms within are seen, from the front. (Written by mkeach.py.)
-/
import Derived.Test.YtgckmnchlkgakaaLmbBw0
import Derived.Test.YtgckmnchlkgakaaLmbGa00
import Derived.Test.YtgckmnchlkgakaaLmbFo0
import Derived.Test.YtgckmnchlkgakaaLmbSzM
import Derived.Test.YtgckmnchlkgakaaLmbWi
namespace Go.Proofs.Ytgckmnchlkgakaa
open Go.RowKit
set_option linter.unusedVariables false
set_option linter.unusedSimpArgs false

theorem Fm.deeperL {L B : Nat} {w : World} {D d d' : Nat} {t : Tm} {a1 a2 a3 : Option Addr} {l1 l2 l3 : Nat} (hd : d ≤ d') (h : Fm L B w D d t a1 l1 a2 l2 a3 l3) : Fm L B w D d' t a1 l1 a2 l2 a3 l3 :=
  h.wider (fun _ _ _ hr => hr) (fun _ _ _ hr => hr.deeper hd (Nat.le_refl _))

/-- What the closure does at a term, I being what it keeps up. -/
structure SeeL (L B base p D d : Nat) (I : List Tm → (Nat → Prop) → World → Prop) : Prop where
  below : ∀ X F w w', I X F w → Below w.heap.size w w' → I X F w'
  has : ∀ X F w k, I X F w → F k → base ≤ k ∧ k < w.heap.size
  see : ∀ (d' : Nat) (t : Tm) (a1 : Option Addr) (l1 c1 : Nat) (a2 : Option Addr) (l2 c2 : Nat) (a3 : Option Addr) (l3 c3 : Nat) (X : List Tm) (F : Nat → Prop) (w : World), d' ≤ d → base ≤ w.heap.size → I X F w → Fm L B w D d' t a1 l1 a2 l2 a3 l3 → nodeM t = true → X.length ≤ 1000 →
    Calls Try.prog 64 #[.agg #[.int .i64 t.K, .int .i64 t.N, .string t.S, .string t.Z, .int .i64 t.T.K, .int .i64 t.T.N, .slice a1 l1 c1, .slice a2 l2 c2, .slice a3 l3 c3], .pointer (some ⟨p, 0, none⟩)] w fun e w' => e = .returned (.tuple #[]) ∧ ∃ F', I (X ++ [t]) F' w' ∧ Kf F w F' w'

def SaidEachL (l : Nat) : Prop := ∀ (L B base p D d : Nat) (I : List Tm → (Nat → Prop) → World → Prop), SeeL L B base p D d I → B ≤ base → ∀ (d' : Nat) (t : Tm) (a1 : Option Addr) (l1 c1 : Nat) (a2 : Option Addr) (l2 c2 : Nat) (a3 : Option Addr) (l3 c3 : Nat) (X : List Tm) (F : Nat → Prop) (m : Nat) (w : World), d' ≤ d → base ≤ w.heap.size → I X F w → Fm L B w D d' t a1 l1 a2 l2 a3 l3 → nodesM l t = some m → X.length + m ≤ 1000 →
    Calls Try.prog 35 #[.agg #[.int .i64 t.K, .int .i64 t.N, .string t.S, .string t.Z, .int .i64 t.T.K, .int .i64 t.T.N, .slice a1 l1 c1, .slice a2 l2 c2, .slice a3 l3 c3], .func (Fn.func 64) #[] #[.pointer (some ⟨p, 0, none⟩)]] w fun e w' => e = .returned (.tuple #[]) ∧ ∃ F', I (X ++ allW t) F' w' ∧ Kf F w F' w'

set_option maxRecDepth 100000 in
set_option maxHeartbeats 1000000 in
theorem eachL_succ (l : Nat) (IH : SaidEachL l) : SaidEachL (l + 1) := by
  intro L B base p D d I hS hB d' t a1 l1 c1 a2 l2 c2 a3 l3 c3 X F m w hd hb hI hf hm hX
  obtain ⟨hn, hparts⟩ := nodesM_inv hm
  obtain ⟨hl3, hl3m⟩ := hf.m.len
  have HL : Hid (l3 = t.A.length) := hl3
  have HN : Hid (∀ j (hj : j < t.A.length), ∃ a, nodesM l t.A[j] = some a ∧ (preW t j).length + 1 + a ≤ m) := fun j hj => by
    obtain ⟨a, ha⟩ := hparts j hj
    exact ⟨a, ha, preW_len hm j hj ha⟩
  have hm0 : 0 < m := by have := allW_len _ t m hm; rw [allW_eq, List.length_cons] at this; omega
  obtain ⟨W, hW⟩ : ∃ W, W = w.alloc (.cells #[.int .i64 t.K, .int .i64 t.N, .string t.S, .string t.Z, .int .i64 t.T.K, .int .i64 t.T.N, .slice a1 l1 c1, .slice a2 l2 c2, .slice a3 l3 c3] 36) := ⟨_, rfl⟩
  have hWs : W.heap.size = w.heap.size + 1 := by rw [hW]; simp
  have hWb : Below w.heap.size w W := by rw [hW]; exact (Below.refl _ _).alloc (Nat.le_refl _) _
  have hW0 : W.heap[w.heap.size]? = some (.cells #[.int .i64 t.K, .int .i64 t.N, .string t.S, .string t.Z, .int .i64 t.T.K, .int .i64 t.T.N, .slice a1 l1 c1, .slice a2 l2 c2, .slice a3 l3 c3] 36 (0, 0)) := by rw [hW]; exact heap_new rfl
  have HW : Hid (W = _) := hW
  have hnF : ¬ F w.heap.size := fun e => by have := (hS.has _ _ _ _ hI e).2; omega
  have hIW := hS.below _ _ _ _ hI hWb
  have hfW : Fm L B W D d' t a1 l1 a2 l2 a3 l3 := Fm.below hWb (by omega) hf
  have HSZ : Hid (W.heap.size = w.heap.size + 1) := hWs
  have hltW : w.heap.size < W.heap.size := by omega
  clear hW hparts hl3 hm hWs
  go_enter Try.func35, Try.ntmps35
  go_wp2_with fail
  rw [← HW.out]
  refine (hS.see d' t _ _ _ _ _ _ _ _ _ X F W hd (by omega) hIW hfW hn (by omega)).mono ?_
  rintro e w1 ⟨rfl, F1, hI1, hk1⟩
  have hz1 := hk1.size
  have x1 := (hk1.block w.heap.size hltW hnF).trans hW0
  have hnF1 : ¬ F1 w.heap.size := fun e => by
    rcases hk1.own _ e with e | e
    · exact hnF e
    · omega
  obtain ⟨f0, f1, f2, f3, f4, f5, f6, f7, f8⟩ := Nine.box x1
  have hmt := mt_within
  go_wp2_with fail
  refine (within_any t a1 l1 c1 a2 l2 c2 a3 l3 c3 w1).mono ?_
  rintro e w2 ⟨rfl, hb2⟩
  have hI1b := hS.below _ _ _ _ hI1 hb2
  have hk1b := hk1.trans (Kf.of_below hb2)
  clear hmt hI1 hk1 f0 f1 f2 f3 f4 f5 f6 f7 f8
  go_wp2_with fail
  go_loopw [13] (fun i wr => ∃ (j : Nat) (F2 : Nat → Prop), j ≤ l3 ∧ i = .int .i64 j ∧ I (X ++ t :: preW t j) F2 wr ∧ Kf F W F2 wr) (fun i _ => l3 - (intOf i).toNat)
  case atStart => exact ⟨0, F1, by omega, rfl, by rw [preW_zero]; exact hI1b, hk1b⟩
  case round =>
    obtain ⟨j, F2, hj, rfl, hI2, hk2⟩ := hrel
    have hz2 := hk2.size
    by_cases hlt : j < l3
    · have hlt' : j < t.A.length := by have := HL.out; omega
      obtain ⟨a, ha, hal⟩ := HN.out j hlt'
      have hFb : ∀ k, F k → base ≤ k := fun k hk => (hS.has _ _ _ _ hI hk).1
      have hbw : Below base w wr := (hWb.mono hb).trans (hk2.below hFb (by omega))
      obtain ⟨b, o, rfl, _, hbB, b1, m1, d1, b2, m2, d2, b3, m3, d3, h9, hf1⟩ := hf.m.get j hlt'
      have h9r := h9.world (hbw.block b (by omega))
      obtain ⟨e0, e1, e2, e3, e4, e5, e6, e7, e8⟩ := h9r
      have hba : Below wr.heap.size wr (wr.alloc (.cells #[.int .i64 t.A[j].K, .int .i64 t.A[j].N, .string t.A[j].S, .string t.A[j].Z, .int .i64 t.A[j].T.K, .int .i64 t.A[j].T.N, .slice b1 m1 d1, .slice b2 m2 d2, .slice b3 m3 d3] 36)) := (Below.refl _ _).alloc (Nat.le_refl _) _
      have hf2 : Fm L B (wr.alloc (.cells #[.int .i64 t.A[j].K, .int .i64 t.A[j].N, .string t.A[j].S, .string t.A[j].Z, .int .i64 t.A[j].T.K, .int .i64 t.A[j].T.N, .slice b1 m1 d1, .slice b2 m2 d2, .slice b3 m3 d3] 36)) D (d' - 1) t.A[j] b1 m1 b2 m2 b3 m3 := Fm.keep (fun k _ hk => (hba.block k (by omega)).trans (hbw.block k (by omega))) (Nat.le_refl _) (Nat.le_refl _) hf1
      have hIa := hS.below _ _ _ _ hI2 hba
      have HNX : Hid (X ++ t :: preW t (j + 1) = (X ++ t :: preW t j) ++ allW t.A[j]) := by show _ = _; rw [preW_succ t j hlt']; simp
      have hlen : (X ++ t :: preW t j).length + a ≤ 1000 := by rw [List.length_append, List.length_cons]; omega
      have HK2 : Hid (Kf F W F2 wr) := hk2
      have HBA : Hid (Below _ _ _) := hba
      clear h9 hk2 hba hI2 HN hal
      go_wp2_with fail
      refine (IH L B base p D d I hS hB (d' - 1) t.A[j] _ _ _ _ _ _ _ _ _ _ F2 a _ (by omega) (by simp; omega) hIa hf2 ha hlen).mono ?_
      rintro e w3 ⟨rfl, F3, hI3, hk3⟩
      rw [← HNX.out] at hI3
      have hkn : Kf F W F3 w3 := (HK2.out.trans (Kf.of_below HBA.out)).trans hk3
      clear hk3
      go_wp2_with fail
      go_roundw
      case rel => exact ⟨j + 1, F3, by omega, by go_num, hI3, hkn⟩
      case measure => simp [intOf]; omega
    · have HK : Hid (X ++ allW t = X ++ t :: preW t j) := by show _ = _; rw [preW_all t j (by have := HL.out; omega)]
      go_wp2_with fail
      refine bodyPost_end (v := .tuple #[]) (by simp [results, Try.results35, go_sem]) rfl ?_
      exact ⟨rfl, F2, by rw [HK.out]; exact hI2, (Kf.of_below hWb).trans hk2⟩

theorem eachL_any (l : Nat) : SaidEachL l := by
  induction l with
  | zero => intro L B base p D d I hS hB d' t a1 l1 c1 a2 l2 c2 a3 l3 c3 X F m w hd hb hI hf hm; simp [nodesM] at hm
  | succ l ih => exact eachL_succ l ih

end Go.Proofs.Ytgckmnchlkgakaa
