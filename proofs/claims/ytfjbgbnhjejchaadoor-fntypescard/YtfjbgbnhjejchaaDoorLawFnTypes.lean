/-
  The law FnTypes's walk: whatever bytes lie in memory, true.
-/
import Derived.Test.YtfjbgbnhjejchaaDoorDty
import Derived.Test.YtfjbgbnhjejchaaDoorTxP
import Derived.Test.YtfjbgbnhjejchaaDoorStR
import Derived.Test.YtfjbgbnhjejchaaDoorTx
import Derived.Test.YtfjbgbnhjejchaaDoorVr0
namespace Go.Proofs.YtfjbgbnhjejchaaDoor
open Go.RowKit
set_option linter.unusedVariables false
set_option linter.unusedSimpArgs false

set_option maxRecDepth 100000 in
set_option maxHeartbeats 400000 in
theorem big_any (cao : Option Addr) (clen ccap : Nat) (w : World) (hl : clen ≤ 9223372036854775807) :
    Calls Tryd.prog 10 #[.slice cao clen ccap] w fun e w' => e = .returned (.bool (decide (1048576 < (clen : Int)))) ∧ w' = w := by
  go_enter Tryd.func10, Tryd.ntmps10
  go_wp2_with fail
  go_ret
  exact ⟨ret_bool rfl, rfl⟩

/-- A slice holds these types, somewhere below the heap's end. -/
structure LieX (X : World) (ao : Option Addr) (len : Nat) (ts : List Tr) : Prop where
  at_ : ∃ L B, B ≤ X.heap.size ∧ Hs L B X 10 ao len ts

set_option maxRecDepth 100000 in
set_option maxHeartbeats 2000000 in
theorem law_fnTypes (cao : Option Addr) (clen ccap : Nat) (w : World) (hb : Bts w cao clen) (hl : clen ≤ 9223372036854775807) :
    Calls Tryd.prog 4 #[.slice cao clen ccap] w fun e w' => e = .returned (.bool true) ∧ Below w.heap.size w w' := by
  by_cases hbig : 1048576 < (clen : Int)
  · have HBG : Hid (decide (1048576 < (clen : Int)) = true) := by show _ = _; simpa using hbig
    clear hbig
    go_enter Tryd.func4, Tryd.ntmps4
    go_wp2_with fail
    refine (big_any cao clen ccap _ hl).mono ?_
    rintro e w1 ⟨rfl, rfl⟩
    rw [HBG.out]
    go_wp2_with fail
    go_ret
    exact ⟨rfl, Below.refl _ _⟩
  have HBG : Hid (decide (1048576 < (clen : Int)) = false) := by show _ = _; simpa using hbig
  have hcl : clen ≤ 1048576 := by omega
  clear hbig
  go_enter Tryd.func4, Tryd.ntmps4
  go_wp2_with fail
  refine (big_any cao clen ccap _ hl).mono ?_
  rintro e w0 ⟨rfl, rfl⟩
  rw [HBG.out]
  go_wp2_with fail
  refine (drawTyText_any cao clen ccap _ hb hcl).mono ?_
  rintro e w1 ⟨K, N, ao, len, cap, ts, rfl, hb1, hs1, hct⟩
  have hz1 := hb1.size
  have hA1 : Below w1.heap.size w1 (w1.alloc (.cells #[.int .i64 K, .int .i64 N, .slice ao len cap] 29)) := (Below.refl _ _).alloc (Nat.le_refl _) _
  have hAw : (w1.alloc (.cells #[.int .i64 K, .int .i64 N, .slice ao len cap] 29)).heap.size = w1.heap.size + 1 := by simp
  have hb1a : Below w0.heap.size w0 (w1.alloc (.cells #[.int .i64 K, .int .i64 N, .slice ao len cap] 29)) := hb1.trans (hA1.mono hz1)
  have hs1a := hs1.below hA1 (Nat.le_refl _)
  have t1 : (w1.alloc (.cells #[.int .i64 K, .int .i64 N, .slice ao len cap] 29)).heap[w1.heap.size]? = some (.cells #[.int .i64 K, .int .i64 N, .slice ao len cap] 29 (0, 0)) := heap_new rfl
  go_wp2_with fail
  refine (tyText_any 10 _ _ K N ao len cap ts _ (by simp) hs1a).mono ?_
  rintro e w2 ⟨rfl, hb2⟩
  have hz2 := hb2.size
  rw [hAw] at hz2
  have hbw2 : Below w1.heap.size w1 w2 := hA1.trans (hb2.mono (by simp))
  have t2 := (hb2.block w1.heap.size (by simp)).trans t1
  have hs2 := hs1.below hbw2 (Nat.le_refl _)
  obtain ⟨f0, f1, f2⟩ := box_cells t2
  go_wp2_with fail
  refine (tyNodes_any 10 _ _ K N ao len cap ts _ (by omega) hs2).mono ?_
  rintro e w3 ⟨rfl, hb3⟩
  have hz3 := hb3.size
  have hbw3 : Below w1.heap.size w1 w3 := hbw2.trans (hb3.mono (by omega))
  have t3 := (hb3.block w1.heap.size (by omega)).trans t2
  have hs3 := hs1.below hbw3 (Nat.le_refl _)
  clear f0 f1 f2
  obtain ⟨f0, f1, f2⟩ := box_cells t3
  go_wp2_with fail
  refine (sTyOk_any 10 _ _ K N ao len cap ts _ (by omega) hs3).mono ?_
  rintro e w4 ⟨rfl, hb4⟩
  have hz4 := hb4.size
  have hbw4 : Below w1.heap.size w1 w4 := hbw3.trans (hb4.mono (by omega))
  have t4 := (hb4.block w1.heap.size (by omega)).trans t3
  have hs4 := hs1.below hbw4 (Nat.le_refl _)
  clear f0 f1 f2
  obtain ⟨f0, f1, f2⟩ := box_cells t4
  cases hok : okT ⟨K, N, ts⟩
  · have HT : Hid (txT ⟨K, N, ts⟩ = []) := by show _ = _; simp [txT, hok]
    have HN : Hid (nodesT ⟨K, N, ts⟩ = 0) := by show _ = _; simpa [okT] using hok
    have HO : Hid (okT ⟨K, N, ts⟩ = false) := hok
    clear hok
    rw [HT.out, HN.out]
    go_wp2_with fail
    refine (tyOk_any 10 _ _ K N ao len cap ts _ (by omega) hs4).mono ?_
    rintro e w5 ⟨rfl, hb5⟩
    rw [HO.out]
    go_wp2_with fail
    go_ret
    exact ⟨rfl, (hb1.trans (hbw4.mono hz1)).trans (hb5.mono (by omega))⟩
  · have HT : Hid (txT ⟨K, N, ts⟩ = textW 6 ⟨K, N, ts⟩) := by show _ = _; simp [txT, hok]
    have HO : Hid (okT ⟨K, N, ts⟩ = true) := hok
    have HP : Hid (parT (spl (textW 6 ⟨K, N, ts⟩)) = some ⟨K, N, ts⟩) := par_text _ hok
    obtain ⟨m, hm, hm6⟩ := okT_le hok
    have HNT : Hid (nodesT ⟨K, N, ts⟩ = m) := by show _ = _; simp [nodesT, hm, hm6]
    have hm1 : 1 ≤ m := nodesW_pos _ _ _ hm
    have HTL : Hid ((textW 6 ⟨K, N, ts⟩).length ≤ 180) := by show _ ≤ _; have := textW_len _ _ _ hm; omega
    clear hok hm
    rw [HT.out, HNT.out]
    go_wp2_with fail
    refine (parseTy_any _ _ (by show (textW 6 ⟨K, N, ts⟩).toArray.size ≤ _; have := HTL.out; simp; omega)).mono ?_
    rintro e w5 ⟨ao5, len5, cap5, rfl, hb5, ho5⟩
    have hsp : (⟨(textW 6 ⟨K, N, ts⟩).toArray⟩ : ByteArray).data.toList = textW 6 ⟨K, N, ts⟩ := tk_data _
    rw [hsp, HP.out] at ho5 ⊢
    simp only [Option.getD_some, Option.isSome_some] at ho5 ⊢
    clear hsp
    obtain ⟨X, hX⟩ : ∃ X, X = w5.alloc (.cells #[.int .i64 K, .int .i64 N, .slice ao5 len5 cap5] 29) := ⟨_, rfl⟩
    have hz5 := hb5.size
    have hXs : X.heap.size = w5.heap.size + 1 := by rw [hX]; simp
    have hA5 : Below w5.heap.size w5 X := by rw [hX]; exact (Below.refl _ _).alloc (Nat.le_refl _) _
    have hbwX : Below w1.heap.size w1 X := (hbw4.trans (hb5.mono (by omega))).trans (hA5.mono (by omega))
    have tX : X.heap[w1.heap.size]? = some (.cells #[.int .i64 K, .int .i64 N, .slice ao len cap] 29 (0, 0)) := (hA5.block _ (by omega)).trans ((hb5.block _ (by omega)).trans t4)
    have xX : X.heap[w5.heap.size]? = some (.cells #[.int .i64 K, .int .i64 N, .slice ao5 len5 cap5] 29 (0, 0)) := by rw [hX]; exact heap_new rfl
    have hsX := hs1.below hbwX (Nat.le_refl _)
    have hoX := (ho5.hs.below hA5 (Nat.le_refl _)).deeper (show 6 ≤ 10 by omega)
    have hpX : w1.heap.size < X.heap.size := by omega
    have htX : w5.heap.size < X.heap.size := by omega
    have HX : Hid (X = _) := hX
    have HZ : Hid (w1.heap.size ≤ X.heap.size ∧ w5.heap.size ≤ X.heap.size) := ⟨by omega, by omega⟩
    have hL1 : LieX X ao len ts := ⟨⟨_, _, HZ.out.1, hsX⟩⟩
    have hL2 : LieX X ao5 len5 ts := ⟨⟨_, _, HZ.out.2, hoX⟩⟩
    have SA : Hid (∀ (a1 : Option Addr) (l1 c1 : Nat) (a2 : Option Addr) (l2 c2 : Nat) (w' : World), LieX X a1 l1 ts → LieX X a2 l2 ts → Below X.heap.size X w' → Calls Tryd.prog 16 #[.agg #[.int .i64 K, .int .i64 N, .slice a1 l1 c1], .agg #[.int .i64 K, .int .i64 N, .slice a2 l2 c2]] w' fun e w'' => e = .returned (.bool true) ∧ Below X.heap.size X w'') := fun a1 l1 c1 a2 l2 c2 w' h1 h2 hC => by
      obtain ⟨L1, B1, hB1, h1⟩ := h1.at_
      obtain ⟨L2, B2, hB2, h2⟩ := h2.at_
      exact (sameRight_any 10 _ _ _ _ K N a1 l1 c1 ts K N a2 l2 c2 ts true w' (Nat.le_trans hB1 hC.size) (Nat.le_trans hB2 hC.size) (h1.below hC hB1) (h2.below hC hB2) (Iff.intro (fun _ => rfl) (fun _ => rfl)) HO.out HO.out).mono fun e w'' ⟨h1, h2⟩ => ⟨h1, hC.trans (h2.mono hC.size)⟩
    have SV : Hid (∀ w' : World, Below X.heap.size X w' → Calls Tryd.prog 17 #[.agg #[.int .i64 K, .int .i64 N, .slice ao len cap]] w' fun e w'' => e = .returned (.int .i64 (varsT ⟨K, N, ts⟩)) ∧ Below X.heap.size X w'') := fun w' hC =>
      (varsOf_any 10 _ _ K N ao len cap ts w' (Nat.le_trans HZ.out.1 hC.size) (hsX.below hC HZ.out.1)).mono fun e w'' ⟨h1, h2⟩ => ⟨h1, hC.trans (h2.mono hC.size)⟩
    have SG : Hid (∀ w' : World, Below X.heap.size X w' → Calls Tryd.prog 18 #[.agg #[.int .i64 K, .int .i64 N, .slice ao len cap]] w' fun e w'' => e = .returned (.bool (groundT ⟨K, N, ts⟩)) ∧ Below X.heap.size X w'') := fun w' hC =>
      (ground_any 10 _ _ K N ao len cap ts w' (Nat.le_trans HZ.out.1 hC.size) (hsX.below hC HZ.out.1)).mono fun e w'' ⟨h1, h2⟩ => ⟨h1, hC.trans (h2.mono hC.size)⟩
    have HG : Hid (groundT ⟨K, N, ts⟩ = ((varsT ⟨K, N, ts⟩ : Int) == 0)) := by
      show _ = _
      unfold groundT
      rw [HO.out, Bool.eq_iff_iff]
      simp
    have HE : Hid (∀ w' : World, Below X.heap.size X w' → Below w0.heap.size w0 w') := fun w' hC => (hb1.trans (hbwX.mono hz1)).trans (hC.mono (Nat.le_trans hz1 HZ.out.1))
    obtain ⟨q0, q1, q2⟩ := box_cells tX
    obtain ⟨f0', f1', f2'⟩ := box_cells xX
    clear f0 f1 f2 hX hXs tX xX hsX hoX hA5 hbwX hz5 hz4 hz3 hz2 hs4 hs3 hs2 hs1a t4 t3 t2 t1 hb5 hb4 hb3 hb2 hbw4 hbw3 hbw2 ho5
    have e1 : decide ((0 : Int) < (m : Int)) = true := by simp; omega
    have e2 : decide ((m : Int) ≤ 60) = true := by simp; omega
    have e3 : decide (0 < m) = true := by simp; omega
    have e4 : decide (m ≤ 60) = true := by simp; omega
    have HVG : Hid ((((varsT ⟨K, N, ts⟩ : Int) == 0) == groundT ⟨K, N, ts⟩) = true) := by show _ = _; rw [HG.out]; simp
    go_wp2_with fail
    rw [← HX.out]
    refine wp_region_below (by kernel_rfl) (by kernel_rfl) ?_
    repeat (first
      | go_big_quiet_skip
      | (go_big_quiet_want; unfold Oper.quiet; apply Exists.intro; refine ⟨fun w' hC => ?_, ?_⟩; (have g0 := (bcell hC hpX 0).trans q0; have g1 := (bcell hC hpX 1).trans q1; have g2 := (bcell hC hpX 2).trans q2; have g3 := (bcell hC htX 0).trans f0'; have g4 := (bcell hC htX 1).trans f1'; have g5 := (bcell hC htX 2).trans f2'; unfold Oper.quietAt; go_simp; first | exact rfl | exact ⟨rfl, rfl⟩ | (go_at_call 16; exact SA.out _ _ _ _ _ _ _ (by first | exact hL1 | exact hL2) (by first | exact hL2 | exact hL1) hC) | (go_at_call 17; exact SV.out _ hC) | (go_at_call 18; exact SG.out _ hC)); go_big_quiet_on; simp only [Act.put, List.setIfInBounds_toArray, List.set_cons_zero, List.set_cons_succ]))
    refine wpQuiet_nil ?_
    intro w6 hb6
    have hend := HE.out w6 hb6
    go_wp2_with fail
    go_ret
    exact ⟨ret_bool HVG.out, hend⟩

end Go.Proofs.YtfjbgbnhjejchaaDoor
