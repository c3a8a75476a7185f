/-
  The law FnHeaps: its walk.
-/
import Derived.Test.YtkplfdckfbihcaaFhpDy8
import Derived.Test.YtkplfdckfbihcaaFhpAlL
import Derived.Test.YtkplfdckfbihcaaFhpAl
import Derived.Test.YtkplfdckfbihcaaFhpSa
import Derived.Test.YtkplfdckfbihcaaFhpRb
namespace Go.Proofs.Ytkplfdckfbihcaa
open Go.RowKit
set_option linter.unusedVariables false
set_option linter.unusedSimpArgs false

theorem bigH_any (cao : Option Addr) (clen ccap : Nat) (w : World) (hl : clen ≤ 9223372036854775807) :
    Calls Try.prog 5 #[.slice cao clen ccap] w fun e w' => e = .returned (.bool (decide (1048576 < (clen : Int)))) ∧ w' = w := by
  go_enter Try.func5, Try.ntmps5
  go_wp2_with fail
  go_ret
  exact ⟨ret_bool rfl, rfl⟩

/-- What the law has in memory: the heap's box D, the head's behind it, its words and the fields below. -/
structure HeS (w wr : World) (D : Nat) (s : Int) (ao : Option Addr) (cap : Nat) (l : List Wrd) (x : Wrd) (af : Option Addr) (F : List Wrd) : Prop where
  bel : Below w.heap.size w wr
  lo : w.heap.size ≤ D
  box : wr.heap[D]? = some (.cells #[.int .i64 s, .slice ao l.length cap] 26 (0, 0))
  hd : wr.heap[D + 1]? = some (.cells #[.int .i64 x.K, .int .i64 x.N] 28 (0, 0))
  ws : Ws 0 D wr ao l.length l
  fs : Ws 0 D wr af F.length F
theorem HeS.lt {w wr : World} {D : Nat} {s : Int} {ao : Option Addr} {cap : Nat} {l : List Wrd} {x : Wrd} {af : Option Addr} {F : List Wrd} (h : HeS w wr D s ao cap l x af F) : D + 1 < wr.heap.size := (Array.getElem?_eq_some_iff.1 h.hd).1
theorem HeS.below {w wr w1 : World} {D : Nat} {s : Int} {ao : Option Addr} {cap : Nat} {l : List Wrd} {x : Wrd} {af : Option Addr} {F : List Wrd} (h : HeS w wr D s ao cap l x af F) (hb : Below wr.heap.size wr w1) : HeS w w1 D s ao cap l x af F := by
  have h1 := h.lt
  have h2 := h.bel.size
  exact ⟨h.bel.trans (hb.mono h2), h.lo, (hb.block _ (by omega)).trans h.box, (hb.block _ h1).trans h.hd, h.ws.below hb (by omega), h.fs.below hb (by omega)⟩
theorem HeS.wsW {w wr : World} {D : Nat} {s : Int} {ao : Option Addr} {cap : Nat} {l : List Wrd} {x : Wrd} {af : Option Addr} {F : List Wrd} (h : HeS w wr D s ao cap l x af F) : Ws 0 wr.heap.size wr ao l.length l := h.ws.keep (fun _ _ _ => rfl) (Nat.le_refl _) (by have := h.lt; omega)
theorem HeS.fsW {w wr : World} {D : Nat} {s : Int} {ao : Option Addr} {cap : Nat} {l : List Wrd} {x : Wrd} {af : Option Addr} {F : List Wrd} (h : HeS w wr D s ao cap l x af F) : Ws 0 wr.heap.size wr af F.length F := h.fs.keep (fun _ _ _ => rfl) (Nat.le_refl _) (by have := h.lt; omega)

set_option maxRecDepth 100000 in
set_option maxHeartbeats 4000000 in
theorem law_fnHeaps (cao : Option Addr) (clen ccap : Nat) (w : World) (hb : Bts w cao clen) (hl : clen ≤ 9223372036854775807) :
    Calls Try.prog 3 #[.slice cao clen ccap] w fun e w' => e = .returned (.bool true) ∧ Below w.heap.size w w' := by
  by_cases hbig : 1048576 < (clen : Int)
  · have HBG : Hid (decide (1048576 < (clen : Int)) = true) := by show _ = _; simpa using hbig
    clear hbig
    go_enter Try.func3, Try.ntmps3
    go_wp2_with fail
    refine (bigH_any _ _ _ _ hl).mono ?_
    rintro e w1 ⟨rfl, rfl⟩
    rw [HBG.out]
    go_wp2_with fail
    go_ret
    exact ⟨rfl, Below.refl _ _⟩
  · have HBG : Hid (decide (1048576 < (clen : Int)) = false) := by show _ = _; simpa using hbig
    have hcl : clen ≤ 1048576 := by omega
    go_enter Try.func3, Try.ntmps3
    go_wp2_with fail
    refine (bigH_any _ _ _ _ hl).mono ?_
    rintro e w0 ⟨rfl, hw0⟩
    rw [HBG.out, hw0]
    clear hw0 w0
    go_wp2_with fail
    refine (drawAlloc_any _ _ _ _ hb hcl).mono ?_
    rintro e w1 ⟨s, ao, n, cap, l, x, af, nf, cf, F, rfl, hb1, hW, hF, hl80, hf4⟩
    obtain ⟨ao', cap', ev, hcap⟩ := wors_form hW
    injection ev with ev1 ev2 ev3
    subst ev1 ev2 ev3
    obtain ⟨af', cf', ev, hcf⟩ := wors_form hF
    injection ev with ev1 ev2 ev3
    subst ev1 ev2 ev3
    have hA1 : Below w1.heap.size w1 ((w1.alloc (.cells #[.int .i64 s, .slice ao l.length cap] 26)).alloc (.cells #[.int .i64 x.K, .int .i64 x.N] 28)) := ((Below.refl _ _).alloc (Nat.le_refl _) _).alloc (by simp) _
    have hS : HeS w ((w1.alloc (.cells #[.int .i64 s, .slice ao l.length cap] 26)).alloc (.cells #[.int .i64 x.K, .int .i64 x.N] 28)) w1.heap.size s ao cap l x af F :=
      ⟨hb1.trans (hA1.mono hb1.size), hb1.size, by rw [Below.heap_alloc _ _ _ (by simp)]; exact heap_new rfl, heap_new (by simp), ((wors_is6 rfl (by omega) hW).keep (fun _ _ _ => rfl) (Nat.zero_le _) (Nat.le_refl _)).below hA1 (Nat.le_refl _), ((wors_is6 rfl (by omega) hF).keep (fun _ _ _ => rfl) (Nat.zero_le _) (Nat.le_refl _)).below hA1 (Nat.le_refl _)⟩
    clear hbig hb hW hF hb1
    have HQ := @ok_alloc s l F x
    go_wp2_with fail
    generalize hY : ((w1.alloc (.cells #[.int .i64 s, .slice ao l.length cap] 26)).alloc (.cells #[.int .i64 x.K, .int .i64 x.N] 28)) = Y at *
    generalize hD : w1.heap.size = D at *
    clear hY hD hA1
    refine (alloc_any 0 Y.heap.size 0 Y.heap.size s ao l.length cap l x af F.length cf F Y (Nat.le_refl _) (Nat.le_refl _) hS.wsW hS.fsW (by omega) (by omega) hcap).mono ?_
    rintro e w2 ⟨⟨a2, n2, c2, rfl, hn2, hP⟩, hb2⟩
    have hS2 := hS.below hb2
    generalize hq : alB s l x F = q at *
    have HQE : Hid (alB s l x F = q) := hq
    generalize hPe : alP q l x F = P at *
    have HPE : Hid (alP q l x F = P) := hPe
    generalize hye : alW q l = y at *
    have HYE : Hid (alW q l = y) := hye
    subst hn2
    obtain ⟨ap', cp', ev, hc2⟩ := wors_form hP
    injection ev with ev1 ev2 ev3
    subst ev1 ev3
    have hPl : P.length ≤ 90 := by rw [← hPe]; have := alP_len q l x F; omega
    have hA2 : Below w2.heap.size w2 ((w2.alloc (.cells #[.int .i64 s, .slice a2 P.length c2] 26)).alloc (.cells #[.int .i64 y.K, .int .i64 y.N] 28)) := ((Below.refl _ _).alloc (Nat.le_refl _) _).alloc (by simp) _
    have hS3 := hS2.below hA2
    have hPs : Ws 0 w2.heap.size ((w2.alloc (.cells #[.int .i64 s, .slice a2 P.length c2] 26)).alloc (.cells #[.int .i64 y.K, .int .i64 y.N] 28)) a2 P.length P := ((wors_is6 rfl (by omega) hP).keep (fun _ _ _ => rfl) (Nat.zero_le _) (Nat.le_refl _)).below hA2 (Nat.le_refl _)
    have hT3 : HeS w ((w2.alloc (.cells #[.int .i64 s, .slice a2 P.length c2] 26)).alloc (.cells #[.int .i64 y.K, .int .i64 y.N] 28)) w2.heap.size s a2 c2 P y a2 P :=
      ⟨hS3.bel, hS2.bel.size, by rw [Below.heap_alloc _ _ _ (by simp)]; exact heap_new rfl, heap_new (by simp), hPs, hPs⟩
    obtain ⟨b0, b1⟩ := cells2 hS3.box
    obtain ⟨k0, k1⟩ := cells2 hS3.hd
    clear hS hS2 hq hPe hye hb2 ev2 hA2 hPs hP
    go_wp2_with fail
    generalize hY : ((w2.alloc (.cells #[.int .i64 s, .slice a2 P.length c2] 26)).alloc (.cells #[.int .i64 y.K, .int .i64 y.N] 28)) = Z at *
    generalize hE : w2.heap.size = E at *
    clear hY hE b0 b1 k0 k1
    refine (sAlloc_any 0 Z.heap.size 0 Z.heap.size s ao l.length cap l x af F.length cf F Z (Nat.le_refl _) (Nat.le_refl _) hS3.wsW hS3.fsW (by omega) (by omega)).mono ?_
    rintro e w4 ⟨⟨a4, n4, c4, rfl, hn4, hP4⟩, hb4⟩
    rw [HQE.out] at *
    rw [HPE.out] at hn4
    rw [HYE.out]
    have hS4 := hS3.below hb4
    have hT4 := hT3.below hb4
    have hA4 : Below w4.heap.size w4 ((w4.alloc (.cells #[.int .i64 s, .slice a4 n4 c4] 26)).alloc (.cells #[.int .i64 y.K, .int .i64 y.N] 28)) := ((Below.refl _ _).alloc (Nat.le_refl _) _).alloc (by simp) _
    have hS5 := hS4.below hA4
    have hT5 := hT4.below hA4
    have hwE : E + 1 < w4.heap.size := hT4.lt
    have hwD : D + 1 < w4.heap.size := hS4.lt
    subst hn4
    clear hS3 hT3 hS4 hT4 hb4 hP4 hA4
    go_wp2_with fail
    generalize hY : ((w4.alloc (.cells #[.int .i64 s, .slice a4 P.length c4] 26)).alloc (.cells #[.int .i64 y.K, .int .i64 y.N] 28)) = Z5 at *
    clear hY
    have hD5 : D < Z5.heap.size := by have := hS5.lt; omega
    obtain ⟨b0, b1⟩ := cells2 hS5.box
    have HK1 : Hid (∀ w' : World, Below Z5.heap.size Z5 w' → Calls Try.prog 9 #[vH s ao l.length cap] w' fun e w'' => e = .returned (.bool (okH s l)) ∧ Below Z5.heap.size Z5 w'') := fun w' hC =>
      (heapOk_any 0 w'.heap.size s ao l.length cap l w' (Nat.le_refl _) (hS5.below hC).wsW (by omega) hcap).mono fun e w'' ⟨h1, h2⟩ => ⟨h1, hC.trans (h2.mono hC.size)⟩
    have HK2 : Hid (∀ w' : World, Below Z5.heap.size Z5 w' → Calls Try.prog 10 #[vH s ao l.length cap] w' fun e w'' => e = .returned (.bool (okH s l)) ∧ Below Z5.heap.size Z5 w'') := fun w' hC =>
      (sHeapOk_any 0 w'.heap.size s ao l.length cap l w' (Nat.le_refl _) (hS5.below hC).wsW (by omega)).mono fun e w'' ⟨h1, h2⟩ => ⟨h1, hC.trans (h2.mono hC.size)⟩
    have HQQ : Hid (q = true → okH s l = true ∧ okH s (l ++ [x] ++ F) = true) := HQ
    generalize hr : okH s l = r at *
    have HR : Hid (okH s l = r) := hr
    have hrr : (r != r) = false := by cases r <;> rfl
    clear hr HQ
    cases q with
    | false =>
      have hPl0 : P = l := HPE.out.symm
      have hy0 : y = ⟨0, 0⟩ := HYE.out.symm
      subst hPl0
      subst hy0
      refine wp_region_below (by kernel_rfl) (by kernel_rfl) ?_
      repeat (first
        | go_big_quiet_skip
        | (go_big_quiet_want; unfold Oper.quiet; apply Exists.intro; refine ⟨fun w' hC => ?_, ?_⟩; (have g0 := (bcell hC hD5 0).trans b0; have g1 := (bcell hC hD5 1).trans b1; unfold Oper.quietAt; go_simp; first | exact rfl | exact ⟨rfl, rfl⟩ | (go_at_call 9; exact HK1.out _ hC) | (go_at_call 10; exact HK2.out _ hC)); go_big_quiet_on; simp only [Act.put, List.setIfInBounds_toArray, List.set_cons_zero, List.set_cons_succ]))
      refine wpQuiet_nil ?_
      intro w6 hb6
      have hS6 := hS5.below hb6
      have hT6 := hT5.below hb6
      clear HK1 HK2 hS5 hT5 b0 b1
      obtain ⟨f0, f1⟩ := cells2 hS6.box
      obtain ⟨e0, e1⟩ := cells2 hT6.box
      obtain ⟨e2, e3⟩ := cells2 hT6.hd
      go_wp2_with fail
      go_ret
      exact ⟨rfl, hS6.bel⟩
    | true =>
      have hPl1 : P = l ++ [x] ++ F := HPE.out.symm
      have hy0 : y = ⟨4, (l.length : Int)⟩ := HYE.out.symm
      have HPP : Hid (P = l ++ [x] ++ F) := hPl1
      have hPL : P.length = l.length + 1 + F.length := by rw [hPl1]; simp; omega
      subst hy0
      clear hPl1
      refine wp_region_below (by kernel_rfl) (by kernel_rfl) ?_
      repeat (first
        | go_big_quiet_skip
        | (go_big_quiet_want; unfold Oper.quiet; apply Exists.intro; refine ⟨fun w' hC => ?_, ?_⟩; (have g0 := (bcell hC hD5 0).trans b0; have g1 := (bcell hC hD5 1).trans b1; unfold Oper.quietAt; go_simp; first | exact rfl | exact ⟨rfl, rfl⟩ | (go_at_call 9; exact HK1.out _ hC) | (go_at_call 10; exact HK2.out _ hC)); go_big_quiet_on; simp only [Act.put, List.setIfInBounds_toArray, List.set_cons_zero, List.set_cons_succ]))
      refine wpQuiet_nil ?_
      intro w6 hb6
      have hS6 := hS5.below hb6
      have hT6 := hT5.below hb6
      clear HK1 HK2 hS5 hT5 b0 b1
      obtain ⟨f0, f1⟩ := cells2 hS6.box
      obtain ⟨f2, f3⟩ := cells2 hS6.hd
      obtain ⟨e0, e1⟩ := cells2 hT6.box
      obtain ⟨e2, e3⟩ := cells2 hT6.hd
      have hlP : l.length < P.length := by omega
      obtain ⟨b, o, ha2, _, hbE, htw⟩ := hT6.ws.2.2 l.length hlP
      have hPx : P[l.length] = x := by simp [HPP.out]
      rw [hPx] at htw
      subst ha2
      obtain ⟨c0, c1⟩ := htw
      have hw1 : IntKind.i64.wrap ((l.length : Int) + 1) = (l.length : Int) + 1 := by rw [IntKind.wrap_i64]; omega
      have hw2 : IntKind.i64.wrap ((l.length : Int) + 1 + (F.length : Int)) = (l.length : Int) + 1 + (F.length : Int) := by rw [IntKind.wrap_i64]; omega
      have hm1 : ((P.length : Int) != (l.length : Int) + 1 + (F.length : Int)) = false := by rw [hPL]; simp
      have hi0 : (0 : Int) ≤ (l.length : Int) := by omega
      have hi1 : (l.length : Int) < (P.length : Int) := by omega
      have HPL : Hid (P.length = l.length + 1 + F.length) := hPL
      clear hPL hlP hPx
      go_wp2_with fail
      go_quiet (fail)
      go_wp2_with fail
      have hSn : ∀ nq, HeS w (w6.drewN nq) D s ao cap l x af F := fun nq => hS6.below (below_drewW (Below.refl _ _) nq)
      have hTn : ∀ nq, HeS w (w6.drewN nq) E s (some ⟨b, o, none⟩) c2 P ⟨4, (l.length : Int)⟩ (some ⟨b, o, none⟩) P := fun nq => hT6.below (below_drewW (Below.refl _ _) nq)
      clear hS6 hT6 f0 f1 f2 f3 e0 e1 e2 e3 c0 c1 hm1 hw2
      go_loopw [12] (fun i wr => ∃ k : Nat, k ≤ F.length ∧ i = .int .i64 k ∧ HeS w wr D s ao cap l x af F ∧ HeS w wr E s (some ⟨b, o, none⟩) c2 P ⟨4, (l.length : Int)⟩ (some ⟨b, o, none⟩) P) (fun i _ => F.length - (intOf i).toNat)
      case atStart => exact ⟨0, by omega, rfl, hSn _, hTn _⟩
      case round =>
        clear hSn hTn
        obtain ⟨k, hk, rfl, hSr, hTr⟩ := hrel
        obtain ⟨e0, e1⟩ := cells2 hTr.box
        obtain ⟨e2, e3⟩ := cells2 hTr.hd
        by_cases hlt : k < F.length
        · have hkP : l.length + 1 + k < P.length := by have := HPL.out; omega
          obtain ⟨bb, oo, hbo, _, _, htw⟩ := hTr.ws.2.2 (l.length + 1 + k) hkP
          injection hbo with hbo
          injection hbo with hbo1 hbo2
          subst hbo1 hbo2
          have hPk : P[l.length + 1 + k] = F[k] := by
            have e : P[l.length + 1 + k]? = F[k]? := by
              rw [HPP.out, List.getElem?_append_right (by simp)]
              congr 1
              simp
            rw [List.getElem?_eq_getElem hkP, List.getElem?_eq_getElem hlt] at e
            exact Option.some.inj e
          rw [hPk] at htw
          obtain ⟨bf, of, haf, _, _, hfw⟩ := hSr.fs.2.2 k hlt
          subst haf
          obtain ⟨c0, c1⟩ := htw
          obtain ⟨d0, d1⟩ := hfw
          generalize F[k] = z at *
          have hw2 : IntKind.i64.wrap ((l.length : Int) + 1 + (k : Int)) = (l.length : Int) + 1 + (k : Int) := by rw [IntKind.wrap_i64]; omega
          have htn : ((l.length : Int) + 1 + (k : Int)).toNat = l.length + 1 + k := by omega
          have hj0 : (0 : Int) ≤ (l.length : Int) + 1 + (k : Int) := by omega
          have hj1 : (l.length : Int) + 1 + (k : Int) < (P.length : Int) := by omega
          have hj2 : (k : Int) < (F.length : Int) := by omega
          have hSn : ∀ nq, HeS w (wr.drewN nq) D s ao cap l x (some ⟨bf, of, none⟩) F := fun nq => hSr.below (below_drewW (Below.refl _ _) nq)
          have hTn : ∀ nq, HeS w (wr.drewN nq) E s (some ⟨b, o, none⟩) c2 P ⟨4, (l.length : Int)⟩ (some ⟨b, o, none⟩) P := fun nq => hTr.below (below_drewW (Below.refl _ _) nq)
          clear hPk hSr hTr
          go_wp2_with fail
          go_quiet (fail)
          go_wp2_with fail
          go_roundw
          case rel => exact ⟨k + 1, by omega, by go_num, hSn _, hTn _⟩
          case measure => simp [intOf]; omega
        · obtain ⟨hok1, hok2⟩ := HQQ.out (by simp)
          have hr1 : r = true := hok1
          subst hr1
          go_wp2_with fail
          refine (heapOk_any 0 wr.heap.size s (some ⟨b, o, none⟩) P.length c2 P wr (Nat.le_refl _) hTr.wsW (by omega) hc2).mono ?_
          rintro e w8 ⟨rfl, hb8⟩
          rw [HPP.out, hok2, ← HPP.out]
          have hS8 := hSr.below hb8
          obtain ⟨f0, f1⟩ := cells2 hS8.box
          go_wp2_with fail
          refine (heapOk_any 0 w8.heap.size s ao l.length cap l w8 (Nat.le_refl _) hS8.wsW (by omega) hcap).mono ?_
          rintro e w9 ⟨rfl, hb9⟩
          rw [HR.out]
          have hS9 := hS8.below hb9
          go_wp2_with fail
          go_ret
          exact ⟨rfl, hS9.bel⟩

end Go.Proofs.Ytkplfdckfbihcaa
