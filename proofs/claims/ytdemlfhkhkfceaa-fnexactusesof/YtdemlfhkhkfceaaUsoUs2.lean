/-
  What the program's 'usesIn' comes to: a row of as many uses as there are.
-/
import Derived.Test.YtdemlfhkhkfceaaUsoUs1
import Derived.Test.YtdemlfhkhkfceaaUsoFdL0
import Derived.Deep.RegionLaw
import Derived.Deep.Cut
import Derived.Deep.CutRange
namespace Go.Proofs.Ytdemlfhkhkfceaa
open Go.RowKit
set_option linter.unusedVariables false
set_option linter.unusedSimpArgs false

def UiE (w w' : World) (e : Ending) (n : Nat) : Prop := ∃ v us, e = .returned v ∧ us.length = n ∧ Uss w.heap.size w' v us ∧ Below w.heap.size w w'
def SaidUi (l : Nat) : Prop := ∀ (D d L B : Nat) (t : Tm) (a1 : Option Addr) (l1 c1 : Nat) (a2 : Option Addr) (l2 c2 : Nat) (a3 : Option Addr) (l3 c3 : Nat) (b o m : Nat) (s : ByteArray) (P : List (List UInt8)) (pao : Option Addr) (pn pc : Nat) (w : World), B ≤ w.heap.size → b < w.heap.size →
    Nine w b o t.K t.N t.S t.Z t.T.K t.T.N (.slice a1 l1 c1) (.slice a2 l2 c2) (.slice a3 l3 c3) → Fm L B w D d t a1 l1 a2 l2 a3 l3 → nodesM l t = some m → m ≤ 1000 → Nsl w pao pn P → pn + 2 * l ≤ 1000 →
    Calls Try.prog 23 #[.pointer (some ⟨b, o, none⟩), .string s, .slice pao pn pc] w fun e w' => UiE w w' e (usesN (bs s) l t)

set_option maxRecDepth 100000 in
set_option maxHeartbeats 4000000 in
theorem ui_step (l : Nat) (IH : SaidUi l) : SaidUi (l + 1) := by
  intro D d L B t a1 l1 c1 a2 l2 c2 a3 l3 c3 b o m s P pao pn pc w hB hbw h9 hf hm hm1 hP hpl
  have hHM : Hid (nodesM (l + 1) t = some m) := hm
  obtain ⟨hnd, hparts⟩ := nodesM_inv hm
  have HU := usesN_nodes (bs s) (l + 1) t m hm
  have HL : Hid (l3 = t.A.length) := hf.m.len.1
  have hl3 := hf.m.len.2
  have hstr : (t.S.toList == s.toList) = decide (bs t.S = bs s) := by
    rw [Bool.eq_iff_iff, beq_iff_eq, decide_eq_true_eq]
    rw [ByteArray.toList_eq, ByteArray.toList_eq]
    exact Iff.rfl
  have h9w := h9
  obtain ⟨x0, x1, x2, x3, x4, x5, x6, x7, x8⟩ := h9
  by_cases hv : t.K = 3 ∧ bs t.S = bs s
  · have HE : Hid (usesN (bs s) (l + 1) t = 1) := usesN_var hv
    have hq : (t.S.toList == s.toList) = true := by rw [hstr]; simpa using hv.2
    have hK := hv.1
    rw [HE.out]
    clear hv hstr HU hm
    rw [hK] at x0
    go_enter Try.func23, Try.ntmps23
    go_wp2_with fail
    go_ret
    exact ⟨_, [(⟨b, o, none⟩, pao, pn, pc)], rfl, rfl, uss_one (heap_new rfl) (Nat.le_refl _), (Below.refl _ _).alloc (Nat.le_refl _) _⟩
  · have HE : Hid (usesN (bs s) (l + 1) t = sumU (partU (bs s) l t) t.A.length) := usesN_not hv
    rw [HE.out]
    rw [HE.out] at HU
    have hcase : (¬ t.K = 3) ∨ (t.K = 3 ∧ (t.S.toList == s.toList) = false) := by
      by_cases h3 : t.K = 3
      · exact Or.inr ⟨h3, by rw [hstr]; simp; exact fun h => hv ⟨h3, h⟩⟩
      · exact Or.inl h3
    clear hv hstr hm
    rcases hcase with h3 | ⟨h3, hq⟩
    all_goals
      go_enter Try.func23, Try.ntmps23
      go_upto_region 3 with fail
      clear h3
      go_wp2_with fail
      go_loopw [7, 32] (fun v i wr => ∃ (j mm : Nat) (us : List Use) (ao : Option Addr) (cp : Nat), j ≤ l3 ∧ i = .int .i64 j ∧ v = .slice ao mm cp ∧ Hid (us.length = mm) ∧ Hid (mm = sumU (partU (bs s) l t) j) ∧ Uss w.heap.size wr (.slice ao mm cp) us ∧ Below w.heap.size w wr) (fun _ i _ => l3 - (intOf i).toNat)
      case atStart => exact ⟨0, 0, [], none, 0, by omega, rfl, rfl, rfl, rfl, uss_nil _ _, Below.refl _ _⟩
      case round =>
        obtain ⟨j, mm, us, ao, cp, hj, rfl, rfl, hus, hmm, hU, hbr⟩ := hrel
        have hzr := hbr.size
        by_cases hlt : j < l3
        · have hlt' : j < t.A.length := by have := HL.out; omega
          obtain ⟨g, og, rfl, _, hgB, q1, n1, k1, q2, n2, k2, q3, n3, k3, y9, hf1⟩ := hf.m.get j hlt'
          obtain ⟨z0, z1, z2, z3, z4, z5, z6, z7, z8⟩ := h9w.below hbr hbw
          have hji : (0 : Int) ≤ (j : Int) := by omega
          have hjl : (j : Int) < (l3 : Int) := by omega
          have hN0 := binds_nmI t.K (bs t.S) (bs t.Z) j
          have KN := namesIn_any t a1 l1 c1 a2 l2 c2 (some ⟨g, og, none⟩) l3 c3 (j : Int) wr
          obtain ⟨N, hN⟩ : ∃ N, bindsW t.K (bs t.S) (bs t.Z) j = N := ⟨_, rfl⟩
          rw [hN0, hN] at KN
          have hNl : N.length ≤ 2 := by rw [← hN]; exact bindsW_len _ _ _ _
          have HN : Hid (bindsW t.K (bs t.S) (bs t.Z) j = N) := hN
          obtain ⟨nn, hnn⟩ : ∃ nn, N.length = nn := ⟨_, rfl⟩
          clear hN hN0
          go_wp2_with fail
          refine KN.mono ?_
          rintro e w3 ⟨xo, xc, rfl, hb3, hx⟩
          rw [hnn]
          have hz3 := hb3.size
          have hNs : Nsl w3 xo nn N := by
            rw [← hnn]
            exact Nsl.of_nm fun h => by obtain ⟨sb, e1, _, e2⟩ := hx h; exact ⟨sb, e1, e2⟩
          have hb3w : Below w.heap.size w w3 := hbr.trans (hb3.mono hzr)
          have hU3 := uss_below hU hb3
          clear hx KN
          go_wp2_with fail
          refine (contains_nsl xc hNs (by omega) s).mono ?_
          rintro e w4 ⟨rfl, hw⟩
          subst hw
          by_cases hmem : bs s ∈ N
          · have HT : decide (bs s ∈ N) = true := by simpa using hmem
            have HM2 : Hid (mm = sumU (partU (bs s) l t) (j + 1)) := by
              show mm = sumU (partU (bs s) l t) j + partU (bs s) l t j
              rw [partU_in hlt' (by rw [HN.out]; exact hmem), Nat.add_zero]
              exact hmm.out
            rw [HT]
            clear hmem
            go_wp2_with fail
            go_roundw
            case rel => exact ⟨j + 1, mm, us, ao, cp, by omega, by go_num, rfl, hus, HM2, hU3, hb3w⟩
            case measure => simp [intOf]; omega
          · have HT : decide (bs s ∈ N) = false := by simpa using hmem
            rw [HT]
            obtain ⟨mj, hmj⟩ := (nodesM_get hHM.out).2 j hlt'
            have hpu : partU (bs s) l t j = usesN (bs s) l t.A[j] := partU_out hlt' (by rw [HN.out]; exact hmem)
            have hsum : sumU (partU (bs s) l t) (j + 1) ≤ m := by
              have h1 := sumU_le (partU (bs s) l t) (j + 1) (t.A.length - (j + 1))
              rw [show j + 1 + (t.A.length - (j + 1)) = t.A.length by omega] at h1
              omega
            have HSUM : Hid (sumU (partU (bs s) l t) (j + 1) = mm + usesN (bs s) l t.A[j]) := by
              show sumU (partU (bs s) l t) j + partU (bs s) l t j = _
              rw [hpu]
              have := hmm.out
              omega
            obtain ⟨u9, hu9⟩ : ∃ u9, usesN (bs s) l t.A[j] = u9 := ⟨_, rfl⟩
            rw [hu9] at HSUM
            have hP3 : Nsl w4 pao pn P := hP.below hb3w
            have hgl : g < w4.heap.size := by omega
            have y3 := (y9.below hbr (by omega)).below hb3 (by omega)
            obtain ⟨z30, z31, z32, z33, z34, z35, z36, z37, z38⟩ := (h9w.below hb3w hbw)
            have hf3 := Fm.below hb3w hB hf1
            obtain ⟨Q, hQ⟩ : ∃ Q, Q = (w4.alloc (.cells #[.slice pao pn pc, .slice xo nn xc] 57)).drew := ⟨_, rfl⟩
            have hQb : Below w4.heap.size w4 Q := by rw [hQ]; exact ((Below.refl _ _).alloc (Nat.le_refl _) _).drew
            have hQs : Q.heap.size = w4.heap.size + 1 := by rw [hQ]; simp
            have hQ0 : Q.heap[w4.heap.size]? = some (.cells #[.slice pao pn pc, .slice xo nn xc] 57 (0, 0)) := by rw [hQ]; exact heap_new rfl
            have HQ : Hid (Q = _) := hQ
            have KC := concat_names w4.heap.size pao pn pc xo nn xc P N Q (by omega) (row_cell hQ0 0) (row_cell hQ0 1) (hP3.below hQb) (hNs.below hQb) (by omega)
            have KI : Hid (∀ (W : World) (bo : Option Addr) (bn bc : Nat), Below Q.heap.size Q W → Nsl W bo bn (P ++ N) → Calls Try.prog 23 #[.pointer (some ⟨g, og + j * 9, none⟩), .string s, .slice bo bn bc] W fun e w' => UiE W w' e u9) := fun W bo bn bc hW hNP => by
              have := IH D (d - 1) L B t.A[j] q1 n1 k1 q2 n2 k2 q3 n3 k3 g (og + j * 9) mj s (P ++ N) bo bn bc W (by have := hW.size; omega) (by have := hW.size; omega) (y3.below (hQb.trans (hW.mono (by omega))) hgl) (Fm.below (hQb.trans (hW.mono (by omega))) (by omega) hf3) hmj.1 (by omega) hNP (by have h1 := hNP.1; rw [List.length_append] at h1; have h2 := hP.1; omega)
              rw [hu9] at this
              exact this
            have hbw4 : b < w4.heap.size := by omega
            have HB9 : Hid (mm + u9 ≤ 1000) := by show _ ≤ _; have := HSUM.out; omega
            obtain ⟨PN, hPN⟩ : ∃ PN, P ++ N = PN := ⟨_, rfl⟩
            rw [hPN] at KC KI
            clear hPN
            have HU4 : Hid (∀ W, Below Q.heap.size Q W → Uss w.heap.size W (.slice ao mm cp) us ∧ W.cell? ⟨b, o + 8, none⟩ = some (.slice (some ⟨g, og, none⟩) l3 c3) ∧ Below w.heap.size w W) := fun W hW => ⟨uss_below hU3 (hQb.trans (hW.mono (by omega))), (bcell (hQb.trans (hW.mono (by omega))) (by omega) _).trans z38, hb3w.trans ((hQb.trans (hW.mono (by omega))).mono (by omega))⟩
            clear hu9 hQ hmem hpu hsum hQ0 hQb hP3 hNs z0 z1 z2 z3 z4 z5 z6 z7 z8 y9 y3 hf1 hf3 hU hU3 hmj
            go_wp2_with fail
            go_region_law (first
              | (refine step_run hrun (by rfl) _ _ (by rfl) (by rfl) (by rfl) (by rfl) ?_)
              | (go_simp; go_at_call 43; (try rw [← HQ.out]); refine KC.mono ?_; rintro e w5 ⟨v5, rfl, ht5, hb5⟩; obtain ⟨bo, bc, rfl⟩ := toks_form ht5; have hz5 := hb5.size; have KI5 := KI.out w5 bo _ bc hb5 (Nsl.of_toks ht5); have z58 := (HU4.out w5 hb5).2.1)
              | (go_simp; go_at_call 23; refine KI5.mono ?_; rintro e w6 ⟨v6, us6, rfl, hl6, hU6, hb6⟩; have hb56 : Below Q.heap.size Q w6 := hb5.trans (hb6.mono hz5); have z68 := (HU4.out w6 hb56).2.1; obtain ⟨ao7, cp7, w7, hrun, hU7, hg7⟩ := uss_app (HU4.out w6 hb56).1 (HU4.out w6 hb56).2.2.size hU6 (by have := hus.out; have := HB9.out; omega); rw [hus.out, hl6] at hrun hU7; have hbw6 := (HU4.out w6 hb56).2.2; have ho6 := fun g hg => uss_own (HU4.out w6 hb56).1 (g := g) hg))
            all_goals
              have hbw7 : Below w.heap.size w w7 := ⟨hg7.os.trans hbw6.os, hg7.tape.trans hbw6.tape, hg7.output.trans hbw6.output, Nat.le_trans hbw6.size hg7.size, fun q hq => (hg7.block q (by have := hbw6.size; omega) (fun e => by have := (ho6 q e.symm).1; omega)).trans (hbw6.block q hq)⟩
              have HL7 : Hid ((us ++ us6).length = mm + u9) := by show _ = _; rw [List.length_append, hus.out, hl6]
              have HS7 : Hid (mm + u9 = sumU (partU (bs s) l t) (j + 1)) := HSUM.out.symm
              clear hrun hg7 ho6 hbw6 hl6 HSUM
              go_wp2_with fail
              go_roundw
              case rel => exact ⟨j + 1, _, us ++ us6, ao7, cp7, by omega, by go_num, rfl, HL7, HS7, hU7, hbw7⟩
              case measure => simp [intOf]; omega
        · have hjl : j = t.A.length := by have := HL.out; omega
          have HR : Hid (us.length = sumU (partU (bs s) l t) t.A.length) := by show _ = _; rw [hus.out, hmm.out, hjl]
          clear hjl
          go_wp2_with fail
          go_ret
          exact ⟨_, us, rfl, HR.out, hU, hbr⟩

theorem ui_any : ∀ l, SaidUi l := by
  intro l
  induction l with
  | zero =>
    intro D d L B t a1 l1 c1 a2 l2 c2 a3 l3 c3 b o m s P pao pn pc w _ _ _ _ hm
    simp [nodesM] at hm
  | succ l ih => exact ui_step l ih

end Go.Proofs.Ytdemlfhkhkfceaa
