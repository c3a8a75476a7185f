/-
  The law FnRoots: its walk.
-/
import Derived.Test.YtkplfdckfbihcaaFrtDy7
import Derived.Test.YtkplfdckfbihcaaFrtZ37
import Derived.Test.YtkplfdckfbihcaaFrtZ46
import Derived.Test.YtkplfdckfbihcaaFrtSRo
namespace Go.Proofs.Ytkplfdckfbihcaa
open Go.RowKit
set_option linter.unusedVariables false
set_option linter.unusedSimpArgs false

theorem big_any (cao : Option Addr) (clen ccap : Nat) (w : World) (hl : clen ≤ 9223372036854775807) :
    Calls Try.prog 5 #[.slice cao clen ccap] w fun e w' => e = .returned (.bool (decide (1048576 < (clen : Int)))) ∧ w' = w := by
  go_enter Try.func5, Try.ntmps5
  go_wp2_with fail
  go_ret
  exact ⟨ret_bool rfl, rfl⟩

/-- What the law has in memory: the heap's box D, its words and the roots below it. -/
structure RtS (w wr : World) (D : Nat) (s : Int) (ao : Option Addr) (n cap : Nat) (l : List Wrd) (ar : Option Addr) (nr : Nat) (roots : List Wrd) : Prop where
  bel : Below w.heap.size w wr
  lo : w.heap.size ≤ D
  box : wr.heap[D]? = some (.cells #[.int .i64 s, .slice ao n cap] 26 (0, 0))
  ws : Ws 0 D wr ao n l
  rs : Ws 0 D wr ar nr roots
theorem RtS.lt {w wr : World} {D : Nat} {s : Int} {ao : Option Addr} {n cap : Nat} {l : List Wrd} {ar : Option Addr} {nr : Nat} {roots : List Wrd} (h : RtS w wr D s ao n cap l ar nr roots) : D < wr.heap.size := (Array.getElem?_eq_some_iff.1 h.box).1
theorem RtS.below {w wr w1 : World} {D : Nat} {s : Int} {ao : Option Addr} {n cap : Nat} {l : List Wrd} {ar : Option Addr} {nr : Nat} {roots : List Wrd} (h : RtS w wr D s ao n cap l ar nr roots) (hb : Below wr.heap.size wr w1) : RtS w w1 D s ao n cap l ar nr roots := by
  have h1 := h.lt
  have h2 := h.bel.size
  exact ⟨h.bel.trans (hb.mono h2), h.lo, (hb.block _ h1).trans h.box, h.ws.below hb (by omega), h.rs.below hb (by omega)⟩
theorem RtS.drew {w wr : World} {D : Nat} {s : Int} {ao : Option Addr} {n cap : Nat} {l : List Wrd} {ar : Option Addr} {nr : Nat} {roots : List Wrd} (h : RtS w wr D s ao n cap l ar nr roots) : RtS w wr.drew D s ao n cap l ar nr roots := h.below ⟨rfl, rfl, rfl, Nat.le_refl _, fun _ _ => rfl⟩
theorem RtS.wsW {w wr : World} {D : Nat} {s : Int} {ao : Option Addr} {n cap : Nat} {l : List Wrd} {ar : Option Addr} {nr : Nat} {roots : List Wrd} (h : RtS w wr D s ao n cap l ar nr roots) : Ws 0 wr.heap.size wr ao n l := h.ws.keep (fun _ _ _ => rfl) (Nat.le_refl _) (Nat.le_of_lt h.lt)
theorem RtS.rsW {w wr : World} {D : Nat} {s : Int} {ao : Option Addr} {n cap : Nat} {l : List Wrd} {ar : Option Addr} {nr : Nat} {roots : List Wrd} (h : RtS w wr D s ao n cap l ar nr roots) : Ws 0 wr.heap.size wr ar nr roots := h.rs.keep (fun _ _ _ => rfl) (Nat.le_refl _) (Nat.le_of_lt h.lt)
theorem ws_take {L B : Nat} {w : World} {ao : Option Addr} {n : Nat} {l : List Wrd} (h : Ws L B w ao n l) (i : Nat) (hi : i ≤ n) : Ws L B w ao i (l.take i) := by
  have h1 := h.1
  have h2 := h.2.1
  refine ⟨by rw [List.length_take]; omega, by omega, fun j hj => ?_⟩
  rw [List.length_take] at hj
  obtain ⟨b, o, e, q1, q2, q3⟩ := h.2.2 j (by omega)
  rw [List.getElem_take]
  exact ⟨b, o, e, q1, q2, q3⟩

set_option maxRecDepth 100000 in
set_option maxHeartbeats 4000000 in
theorem law_fnRoots (cao : Option Addr) (clen ccap : Nat) (w : World) (hb : Bts w cao clen) (hl : clen ≤ 9223372036854775807) :
    Calls Try.prog 4 #[.slice cao clen ccap] w fun e w' => e = .returned (.bool true) ∧ Below w.heap.size w w' := by
  by_cases hbig : 1048576 < (clen : Int)
  · have HBG : Hid (decide (1048576 < (clen : Int)) = true) := by show _ = _; simpa using hbig
    clear hbig
    go_enter Try.func4, Try.ntmps4
    go_wp2_with fail
    refine (big_any _ _ _ _ hl).mono ?_
    rintro e w1 ⟨rfl, rfl⟩
    rw [HBG.out]
    go_wp2_with fail
    go_ret
    exact ⟨rfl, Below.refl _ _⟩
  · have HBG : Hid (decide (1048576 < (clen : Int)) = false) := by show _ = _; simpa using hbig
    have hcl : clen ≤ 1048576 := by omega
    go_enter Try.func4, Try.ntmps4
    go_wp2_with fail
    refine (big_any _ _ _ _ hl).mono ?_
    rintro e w0 ⟨rfl, hw0⟩
    rw [HBG.out, hw0]
    clear hw0 w0
    go_wp2_with fail
    refine (drawCollect_any _ _ _ _ hb hcl).mono ?_
    rintro e w1 ⟨s, ao, n, cap, l, ar, nr, cr, roots, rfl, hb1, hW, hR, hl80, hr5⟩
    obtain ⟨ao', cap', ev, hcap⟩ := wors_form hW
    injection ev with ev1 ev2 ev3
    subst ev1 ev2 ev3
    obtain ⟨ar', cr', ev, hcr⟩ := wors_form hR
    injection ev with ev1 ev2 ev3
    subst ev1 ev2 ev3
    have hA : Below w1.heap.size w1 (w1.alloc (.cells #[.int .i64 s, .slice ao l.length cap] 26)) := (Below.refl _ _).alloc (Nat.le_refl _) _
    obtain ⟨Y, hY⟩ : ∃ Y, Y = (w1.alloc (.cells #[.int .i64 s, .slice ao l.length cap] 26)) := ⟨_, rfl⟩
    rw [← hY] at hA
    have hS : RtS w Y w1.heap.size s ao l.length cap l ar roots.length roots := by
      refine ⟨hb1.trans (hA.mono hb1.size), hb1.size, by rw [hY]; exact heap_new rfl, ((wors_is6 rfl (by omega) hW).keep (fun _ _ _ => rfl) (Nat.zero_le _) (Nat.le_refl _)).below hA (Nat.le_refl _), ((wors_is6 rfl (by omega) hR).keep (fun _ _ _ => rfl) (Nat.zero_le _) (Nat.le_refl _)).below hA (Nat.le_refl _)⟩
    have HY : Hid (Y = _) := hY
    generalize hD : w1.heap.size = D at *
    have HD : Hid (w1.heap.size = D) := hD
    obtain ⟨d0, d1⟩ := cells2 hS.box
    clear hY hW hR hA hD hb hb1 hbig
    go_wp2_with fail
    rw [← HY.out, HD.out]
    refine (reached_any s ao l.length cap l ar roots.length cr roots Y hS.wsW hS.rsW (by omega) (by omega) hcap).mono ?_
    rintro e w2 ⟨rfl, hb2⟩
    have hS2 := hS.below hb2
    obtain ⟨e0, e1⟩ := cells2 hS2.box
    clear hS hb2 d0 d1
    go_wp2_with fail
    refine (sReached_any s ao l.length cap l ar roots.length cr roots w2 hS2.wsW hS2.rsW (by omega) (by omega) hcap).mono ?_
    rintro e w3 ⟨rfl, hb3⟩
    have hS3 := hS2.below hb3
    obtain ⟨f0, f1⟩ := cells2 hS3.box
    have hA3 : Below w3.heap.size w3 (w3.alloc (.cells #[] 28)) := (Below.refl _ _).alloc (Nat.le_refl _) _
    have hS4 := hS3.below hA3
    clear hS2 hb3 e0 e1
    go_wp2_with fail
    refine (collect_any s ao l.length cap l (some ⟨w3.heap.size, 0, none⟩) 0 0 [] _ hS4.wsW (ws_nil _ _ _ _) (by omega) (by omega) hcap).mono ?_
    rintro e w5 ⟨⟨va, vn, vcp, oa, no, ocp, rfl, hvn, hno, hV, hO, _⟩, hb5⟩
    have hS5 := hS4.below hb5
    have hA5 : Below w5.heap.size w5 (w5.alloc (.cells #[.int .i64 s, .slice va vn vcp] 26)) := (Below.refl _ _).alloc (Nat.le_refl _) _
    have z0 : (w5.alloc (.cells #[.int .i64 s, .slice va vn vcp] 26)).heap[w5.heap.size]? = some (.cells #[.int .i64 s, .slice va vn vcp] 26 (0, 0)) := heap_new rfl
    have hS6 := hS5.below hA5
    have HV0 : Hid (okH s l = true → vn = 0 ∧ no = 0) := fun h => by rw [hvn, hno, (col_none h).1, (col_none h).2]; exact ⟨rfl, rfl⟩
    obtain ⟨g0, g1⟩ := cells2 hS6.box
    clear hV hO hvn hno hb5 hS5 hA5 hS4 hS3 f0 f1 hA3
    go_wp2_with fail
    generalize hZ : (w5.alloc (.cells #[.int .i64 s, .slice va vn vcp] 26)) = Z at *
    have hZlt : w5.heap.size < Z.heap.size := (Array.getElem?_eq_some_iff.1 z0).1
    clear hZ
    generalize hC : w5.heap.size = C at *
    clear hC
    refine (heapOk_any 0 Z.heap.size s ao l.length cap l Z (Nat.le_refl _) hS6.wsW (by omega) hcap).mono ?_
    rintro e w7 ⟨rfl, hb7⟩
    have hS7 := hS6.below hb7
    have z7 := (hb7.block _ hZlt).trans z0
    obtain ⟨i0, i1⟩ := cells2 z7
    have hz7 := (Array.getElem?_eq_some_iff.1 z7).1
    have HT : Hid (0 < rchN s l roots → ∀ i, rchN s l (roots.take i) ≤ rchN s l roots) := fun h i => rch_take i h
    generalize rchN s l roots = m at *
    clear hS6 hb7 z0 g0 g1
    generalize hq : okH s l = q at *
    clear hq
    cases q with
    | true =>
      obtain ⟨hv0, hn0⟩ := HV0.out rfl
      subst hv0
      subst hn0
      go_wp2_with fail
      go_loopw [8] (fun i wr => ∃ k : Nat, k ≤ roots.length ∧ i = .int .i64 k ∧ RtS w wr D s ao l.length cap l ar roots.length roots) (fun i _ => roots.length - (intOf i).toNat)
      case atStart => exact ⟨0, by omega, rfl, hS7⟩
      case round =>
        clear hS7
        obtain ⟨k, hk, rfl, hSr⟩ := hrel
        by_cases hlt : k < roots.length
        · obtain ⟨rb, ro, har, _, _, _⟩ := hSr.rs.2.2 0 (by omega)
          subst har
          obtain ⟨b0, b1⟩ := cells2 hSr.box
          have hDr := hSr.lt
          have HKR : Hid (∀ w' : World, Below wr.heap.size wr w' → Calls Try.prog 12 #[vH s ao l.length cap, .slice (some ⟨rb, ro, none⟩) k cr] w' fun e w'' => e = .returned (.int .i64 ((rchN s l (roots.take k) : Nat) : Int)) ∧ Below wr.heap.size wr w'') := fun w' hC =>
            (reached_any s ao l.length cap l (some ⟨rb, ro, none⟩) k cr (roots.take k) w' (hSr.below hC).wsW (ws_take (hSr.below hC).rsW k (by omega)) (by omega) (by omega) hcap).mono fun e w'' ⟨h1, h2⟩ => ⟨h1, hC.trans (h2.mono hC.size)⟩
          have hT : 0 < m → rchN s l (roots.take k) ≤ m := fun h => HT.out h k
          generalize rchN s l (roots.take k) = a at *
          have hkc : (k : Int) ≤ (cr : Int) := by omega
          by_cases hg : m < a
          · have e2 : decide ((0 : Int) < (m : Int)) = false := by simp; exact Nat.eq_zero_of_not_pos (fun h => by have := hT h; omega)
            have e1 : decide ((m : Int) < (a : Int)) = true := by simp; omega
            have e3 : decide (m < a) = true := by simp; omega
            have e4 : decide (0 < m) = false := by rw [← e2]; simp
            clear hT hg
            go_wp2_with fail
            refine wp_region_below (by kernel_rfl) (by kernel_rfl) ?_
            repeat (first
              | go_big_quiet_skip
              | (go_big_quiet_want; unfold Oper.quiet; apply Exists.intro; refine ⟨fun w' hC => ?_, ?_⟩; (have g0 := (bcell hC hDr 0).trans b0; have g1 := (bcell hC hDr 1).trans b1; unfold Oper.quietAt; go_simp; first | exact rfl | exact ⟨rfl, rfl⟩ | (go_at_call 12; exact HKR.out _ hC)); go_big_quiet_on; simp only [Act.put, List.setIfInBounds_toArray, List.set_cons_zero, List.set_cons_succ]))
            refine wpQuiet_nil ?_
            intro w8 hb8
            have hS8 := hSr.below hb8
            clear HKR
            go_wp2_with fail
            go_roundw
            case rel => exact ⟨k + 1, by omega, by go_num, hS8⟩
            case measure => simp [intOf]; omega
          · have e1 : decide ((m : Int) < (a : Int)) = false := by simp; omega
            have e3 : decide (m < a) = false := by simp; omega
            clear hT hg
            go_wp2_with fail
            refine wp_region_below (by kernel_rfl) (by kernel_rfl) ?_
            repeat (first
              | go_big_quiet_skip
              | (go_big_quiet_want; unfold Oper.quiet; apply Exists.intro; refine ⟨fun w' hC => ?_, ?_⟩; (have g0 := (bcell hC hDr 0).trans b0; have g1 := (bcell hC hDr 1).trans b1; unfold Oper.quietAt; go_simp; first | exact rfl | exact ⟨rfl, rfl⟩ | (go_at_call 12; exact HKR.out _ hC)); go_big_quiet_on; simp only [Act.put, List.setIfInBounds_toArray, List.set_cons_zero, List.set_cons_succ]))
            refine wpQuiet_nil ?_
            intro w8 hb8
            have hS8 := hSr.below hb8
            clear HKR
            go_wp2_with fail
            go_roundw
            case rel => exact ⟨k + 1, by omega, by go_num, hS8⟩
            case measure => simp [intOf]; omega
        · go_wp2_with fail
          go_ret
          exact ⟨rfl, hSr.bel⟩
    | false =>
      go_wp2_with fail
      go_loopw [8] (fun i wr => ∃ k : Nat, k ≤ roots.length ∧ i = .int .i64 k ∧ RtS w wr D s ao l.length cap l ar roots.length roots) (fun i _ => roots.length - (intOf i).toNat)
      case atStart => exact ⟨0, by omega, rfl, hS7⟩
      case round =>
        clear hS7
        obtain ⟨k, hk, rfl, hSr⟩ := hrel
        by_cases hlt : k < roots.length
        · obtain ⟨rb, ro, har, _, _, _⟩ := hSr.rs.2.2 0 (by omega)
          subst har
          obtain ⟨b0, b1⟩ := cells2 hSr.box
          have hDr := hSr.lt
          have HKR : Hid (∀ w' : World, Below wr.heap.size wr w' → Calls Try.prog 12 #[vH s ao l.length cap, .slice (some ⟨rb, ro, none⟩) k cr] w' fun e w'' => e = .returned (.int .i64 ((rchN s l (roots.take k) : Nat) : Int)) ∧ Below wr.heap.size wr w'') := fun w' hC =>
            (reached_any s ao l.length cap l (some ⟨rb, ro, none⟩) k cr (roots.take k) w' (hSr.below hC).wsW (ws_take (hSr.below hC).rsW k (by omega)) (by omega) (by omega) hcap).mono fun e w'' ⟨h1, h2⟩ => ⟨h1, hC.trans (h2.mono hC.size)⟩
          have hT : 0 < m → rchN s l (roots.take k) ≤ m := fun h => HT.out h k
          generalize rchN s l (roots.take k) = a at *
          have hkc : (k : Int) ≤ (cr : Int) := by omega
          by_cases hg : m < a
          · have e2 : decide ((0 : Int) < (m : Int)) = false := by simp; exact Nat.eq_zero_of_not_pos (fun h => by have := hT h; omega)
            have e1 : decide ((m : Int) < (a : Int)) = true := by simp; omega
            have e3 : decide (m < a) = true := by simp; omega
            have e4 : decide (0 < m) = false := by rw [← e2]; simp
            clear hT hg
            go_wp2_with fail
            refine wp_region_below (by kernel_rfl) (by kernel_rfl) ?_
            repeat (first
              | go_big_quiet_skip
              | (go_big_quiet_want; unfold Oper.quiet; apply Exists.intro; refine ⟨fun w' hC => ?_, ?_⟩; (have g0 := (bcell hC hDr 0).trans b0; have g1 := (bcell hC hDr 1).trans b1; unfold Oper.quietAt; go_simp; first | exact rfl | exact ⟨rfl, rfl⟩ | (go_at_call 12; exact HKR.out _ hC)); go_big_quiet_on; simp only [Act.put, List.setIfInBounds_toArray, List.set_cons_zero, List.set_cons_succ]))
            refine wpQuiet_nil ?_
            intro w8 hb8
            have hS8 := hSr.below hb8
            clear HKR
            go_wp2_with fail
            go_roundw
            case rel => exact ⟨k + 1, by omega, by go_num, hS8⟩
            case measure => simp [intOf]; omega
          · have e1 : decide ((m : Int) < (a : Int)) = false := by simp; omega
            have e3 : decide (m < a) = false := by simp; omega
            clear hT hg
            go_wp2_with fail
            refine wp_region_below (by kernel_rfl) (by kernel_rfl) ?_
            repeat (first
              | go_big_quiet_skip
              | (go_big_quiet_want; unfold Oper.quiet; apply Exists.intro; refine ⟨fun w' hC => ?_, ?_⟩; (have g0 := (bcell hC hDr 0).trans b0; have g1 := (bcell hC hDr 1).trans b1; unfold Oper.quietAt; go_simp; first | exact rfl | exact ⟨rfl, rfl⟩ | (go_at_call 12; exact HKR.out _ hC)); go_big_quiet_on; simp only [Act.put, List.setIfInBounds_toArray, List.set_cons_zero, List.set_cons_succ]))
            refine wpQuiet_nil ?_
            intro w8 hb8
            have hS8 := hSr.below hb8
            clear HKR
            go_wp2_with fail
            go_roundw
            case rel => exact ⟨k + 1, by omega, by go_num, hS8⟩
            case measure => simp [intOf]; omega
        · go_wp2_with fail
          go_ret
          exact ⟨rfl, hSr.bel⟩

end Go.Proofs.Ytkplfdckfbihcaa
