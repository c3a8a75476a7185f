/-
  The model's 'l10Guard' and 'Guard'.
-/
import Derived.Test.YtchdmpipfmedaaaGd0
import Derived.Test.YtchdmpipfmedaaaAd
import Derived.Test.YtchdmpipfmedaaaPcS
namespace Go.Proofs.Ytchdmpipfmedaaa
open Go.RowKit
set_option linter.unusedVariables false
set_option linter.unusedSimpArgs false

set_option maxHeartbeats 400000 in
theorem l1In_all (x a b : Int) (w : World) : Calls Try.prog 31 #[.int .i64 x, .int .i64 a, .int .i64 b] w fun e w' => e = .returned (.bool (decide (a ≤ x) && decide (x ≤ b))) ∧ w' = w := by
  obtain ⟨ans, hans⟩ : ∃ c, (decide (a ≤ x) && decide (x ≤ b)) = c := ⟨_, rfl⟩
  rw [hans]
  have HA : Hid ((decide (a ≤ x) && decide (x ≤ b)) = ans) := hans
  clear hans
  by_cases h0 : a ≤ x
  · by_cases h1 : x ≤ b
    · have HE : Hid (ans = true) := by show _ = _; rw [← HA.out]; simp [h0, h1]
      go_enter Try.func31, Try.ntmps31
      go_wp2_with fail
      go_ret
      exact ⟨ret_bool (by rw [HE.out]), rfl⟩
    · have HE : Hid (ans = false) := by show _ = _; rw [← HA.out]; simp [h0, h1]
      go_enter Try.func31, Try.ntmps31
      go_wp2_with fail
      go_ret
      exact ⟨ret_bool (by rw [HE.out]), rfl⟩
  · have HE : Hid (ans = false) := by show _ = _; rw [← HA.out]; simp [h0]
    go_enter Try.func31, Try.ntmps31
    go_wp2_with fail
    go_ret
    exact ⟨ret_bool (by rw [HE.out]), rfl⟩

def ints (s : List Nat) : List Int := s.map fun j : Nat => (j : Int)
theorem ints_len (s : List Nat) : (ints s).length = s.length := by simp [ints]
theorem ints_snoc (s : List Nat) (k : Nat) : ints (s ++ [k]) = ints s ++ [(k : Int)] := by simp [ints]

/-- The place of the last OpTry that is not over. -/
def lgP (p : Pc) (n : Int) : Int := if 0 ≤ n ∧ n < p.Ins.length then (match (stN p.Ins n.toNat).getLast? with | some k => (k : Int) | none => -1) else -1

theorem lgP_out {p : Pc} {n : Int} (h : ¬ (0 ≤ n ∧ n < p.Ins.length)) : lgP p n = -1 := by unfold lgP; rw [if_neg h]
theorem lgP_nil {p : Pc} {n : Int} (h : stN p.Ins n.toNat = []) : lgP p n = -1 := by unfold lgP; rw [h]; split <;> rfl

set_option maxRecDepth 100000 in
set_option maxHeartbeats 2000000 in
theorem l10Guard_any (L B : Nat) (p : Pc) (ao : Option Addr) (len cap : Nat) (n : Int) (w : World) (hB : B ≤ w.heap.size) (hs : Iss L B w ao len p.Ins) (hl : len ≤ 1048576) :
    Calls Try.prog 27 #[vP p ao len cap, .int .i64 n] w fun e w' => e = .returned (.int .i64 (lgP p n)) ∧ Below w.heap.size w w' := by
  have HL : Hid (len = p.Ins.length) := hs.1
  obtain ⟨X, hX⟩ : ∃ X, X = (w.alloc (.cells #[.int .i64 p.Lam, .int .i64 p.In, .int .i64 p.Regs, .slice ao len cap] 29)).alloc (.cells #[] 3) := ⟨_, rfl⟩
  have hXs : X.heap.size = w.heap.size + 2 := by rw [hX]; simp
  have hXb : Below w.heap.size w X := by rw [hX]; exact ((Below.refl _ _).alloc (Nat.le_refl _) _).alloc (by simp) _
  have x0 : X.heap[w.heap.size]? = some (.cells #[.int .i64 p.Lam, .int .i64 p.In, .int .i64 p.Regs, .slice ao len cap] 29 (0, 0)) := by
    rw [hX, Below.heap_alloc _ _ _ (by simp)]; exact heap_new (by simp)
  have hN0 : Nums (w.heap.size + 1) X (.slice (some ⟨w.heap.size + 1, 0, none⟩) 0 0) (ints []) := nums_emp (by rw [hX]; exact heap_new (by simp)) (Nat.le_refl _)
  have hx0 : w.heap.size < X.heap.size := by omega
  have HX : Hid (X = _) := hX
  have HXS : Hid (X.heap.size = w.heap.size + 2) := hXs
  clear hX hXs
  go_enter Try.func27, Try.ntmps27
  go_wp2_with fail
  rw [← HX.out]
  go_loopw [5, 6] (fun v i' wr => ∃ (k m : Nat) (a' : Option Addr) (c' : Nat), k ≤ len ∧ ((k : Int) ≤ n ∨ k = 0) ∧ i' = .int .i64 k ∧ v = .slice a' m c' ∧ Hid ((stN p.Ins k).length = m) ∧ m ≤ k ∧ Nums (w.heap.size + 1) wr (.slice a' m c') (ints (stN p.Ins k)) ∧ Below (w.heap.size + 1) X wr) (fun _ i' _ => len - (intOf i').toNat)
  case atStart => exact ⟨0, 0, _, _, by omega, Or.inr rfl, rfl, rfl, rfl, by omega, hN0, Below.refl _ _⟩
  case round =>
    obtain ⟨k, m, a', c', hk, hkn, rfl, rfl, HM, hm, hN, hbr⟩ := hrel
    have hszr := hbr.size
    have hbwr : Below w.heap.size w wr := hXb.trans (hbr.mono (by omega))
    have xr := (hbr.block w.heap.size (by omega)).trans x0
    obtain ⟨f0, f1, f2, f3⟩ := cells4 xr
    by_cases hin : (k : Int) < n
    · by_cases hlt : k < len
      · have hlt' : k < p.Ins.length := by have := HL.out; omega
        obtain ⟨bl, o, rfl, _, hbB, ao1, len1, cap1, hsev, _⟩ := hs.2.2 k hlt'
        obtain ⟨e0, e1, e2, e3, e4, e5, e6⟩ := hsev.block (hbwr.block bl (by omega))
        have HSU : Hid (stN p.Ins (k + 1) = stS (stN p.Ins k) k p.Ins[k]) := stN_succ _ _ hlt'
        have hb1 : w.heap.size + 1 ≤ wr.heap.size := by have := HXS.out; omega
        obtain ⟨x, hx⟩ : ∃ x, p.Ins[k] = x := ⟨_, rfl⟩
        rw [hx] at e0 HSU
        obtain ⟨s, hse⟩ : ∃ s, stN p.Ins k = s := ⟨_, rfl⟩
        rw [hse] at HM HSU hN
        clear hsev e1 e2 e3 e4 e5 e6 hx hse
        by_cases h17 : x.Op = 17
        · have HNX : Hid (stN p.Ins (k + 1) = s ++ [k]) := by show _ = _; rw [HSU.out]; unfold stS; rw [h17]; rfl
          obtain ⟨g, cp, w2, HR, HN2, hb2⟩ := nums_one hN (by rw [ints_len]; exact HM.out) hb1 (by omega) k
          clear hN
          go_wp2_with (first | (at_builtin; refine list_run HR.out (by rfl) _ _ (by rfl) (by rfl) (by rfl) (by rfl) ?_))
          go_roundw
          case rel => exact ⟨k + 1, m + 1, _, cp, by omega, Or.inl (by omega), by go_num, rfl, (by show _ = _; rw [HNX.out, List.length_append, HM.out]; rfl), by omega, by rw [HNX.out, ints_snoc]; exact HN2.out, hbr.trans hb2⟩
          case measure => simp [intOf]; omega
        · have hb17 : (x.Op == 17) = false := beq_eq_false_iff_ne.2 h17
          by_cases h18 : x.Op = 18
          · by_cases hm0 : m = 0
            · have HNX : Hid (stN p.Ins (k + 1) = s) := by
                show _ = _
                have hs0 : s = [] := List.length_eq_zero_iff.1 (by rw [HM.out]; exact hm0)
                rw [HSU.out, hs0]; unfold stS; rw [h18]; rfl
              subst hm0
              go_wp2_with fail
              go_roundw
              case rel => exact ⟨k + 1, 0, _, _, by omega, Or.inl (by omega), by go_num, rfl, (by show _ = _; rw [HNX.out]; exact HM.out), by omega, by rw [HNX.out]; exact hN, hbr⟩
              case measure => simp [intOf]; omega
            · obtain ⟨m', rfl⟩ : ∃ m', m = m' + 1 := ⟨m - 1, by omega⟩
              have HNX : Hid (stN p.Ins (k + 1) = s.dropLast) := by show _ = _; rw [HSU.out]; unfold stS; rw [h18]; rfl
              have hsne : s ≠ [] := fun e => by have := HM.out; rw [e] at this; simp at this
              have HDL : Hid (s.dropLast.length = m') := by show _ = _; rw [List.length_dropLast, HM.out]; omega
              have hcut : ∃ g, a' = some ⟨g, 0, none⟩ ∧ m' + 1 ≤ c' ∧ Nums (w.heap.size + 1) wr (.slice a' m' c') (ints s.dropLast) := by
                have e : ints s = ints s.dropLast ++ [((s.getLast hsne : Nat) : Int)] := by rw [← ints_snoc, List.dropLast_concat_getLast]
                have hlenI : (ints s).length = m' + 1 := by rw [ints_len]; exact HM.out
                rcases hN.2 with ⟨e1, e2⟩ | ⟨g, cp, cur, e1, _, _, hcp, _⟩
                · omega
                · injection e1 with e11 e12 e13
                  subst e11 e13
                  refine ⟨g, rfl, by omega, ?_⟩
                  rw [e] at hN
                  rcases nums_cut hN with h | ⟨h, _⟩
                  · rw [ints_len, HDL.out] at h
                    exact h
                  · cases h
              obtain ⟨g, rfl, hcc, hcn⟩ := hcut
              clear hN hb17
              go_wp2_with fail
              go_roundw
              case rel => exact ⟨k + 1, m', _, _, by omega, Or.inl (by omega), by go_num, rfl, (by show _ = _; rw [HNX.out]; exact HDL.out), by omega, by rw [HNX.out]; exact hcn, hbr⟩
              case measure => simp [intOf]; omega
          · have hb18 : (x.Op == 18) = false := beq_eq_false_iff_ne.2 h18
            have HNX : Hid (stN p.Ins (k + 1) = s) := by show _ = _; rw [HSU.out]; unfold stS; rw [hb17, hb18]; rfl
            go_wp2_with fail
            go_roundw
            case rel => exact ⟨k + 1, m, _, _, by omega, Or.inl (by omega), by go_num, rfl, (by show _ = _; rw [HNX.out]; exact HM.out), by omega, by rw [HNX.out]; exact hN, hbr⟩
            case measure => simp [intOf]; omega
      · by_cases hm0 : m = 0
        · subst hm0
          have HE : Hid (lgP p n = -1) := lgP_out (by have := HL.out; omega)
          go_wp2_with fail
          go_ret
          exact ⟨ret_int (by rw [HE.out]), hbwr⟩
        · have HE : Hid (lgP p n = -1) := lgP_out (by have := HL.out; omega)
          have HC : Hid ((decide (0 ≤ n) && decide (n ≤ (len : Int) - 1)) = false) := by show _ = _; simp; omega
          go_wp2_with fail
          refine (l1In_all _ _ _ _).mono ?_
          rintro e w2 ⟨rfl, rfl⟩
          rw [HC.out]
          go_wp2_with fail
          go_ret
          exact ⟨ret_int (by rw [HE.out]), hbwr⟩
    · by_cases hm0 : m = 0
      · subst hm0
        have HE : Hid (lgP p n = -1) := by
          show _ = _
          by_cases h : 0 ≤ n ∧ n < p.Ins.length
          · have hnk : n = (k : Int) := by rcases hkn with h | h <;> omega
            refine lgP_nil ?_
            rw [hnk]
            exact List.length_eq_zero_iff.1 HM.out
          · exact lgP_out h
        go_wp2_with fail
        go_ret
        exact ⟨ret_int (by rw [HE.out]), hbwr⟩
      · by_cases hlt : k < len
        · obtain ⟨m', rfl⟩ : ∃ m', m = m' + 1 := ⟨m - 1, by omega⟩
          have hnk : n = (k : Int) := by rcases hkn with h | h <;> omega
          have hsne : stN p.Ins k ≠ [] := fun e => by have := HM.out; rw [e] at this; simp at this
          have HE : Hid (lgP p n = (((stN p.Ins k).getLast hsne : Nat) : Int)) := by
            show _ = _
            unfold lgP
            rw [if_pos (by have := HL.out; omega), show n.toNat = k by omega, List.getLast?_eq_some_getLast hsne]
          have HC : Hid ((decide (0 ≤ n) && decide (n ≤ (len : Int) - 1)) = true) := by show _ = _; simp; omega
          have hlast : ∃ g, a' = some ⟨g, 0, none⟩ ∧ wr.cell? ⟨g, m', none⟩ = some (.int .i64 (((stN p.Ins k).getLast hsne : Nat) : Int)) := by
            obtain ⟨g, cp, e, _, _, hc⟩ := nums_at hN m' (by rw [ints_len, HM.out]; omega)
            injection e with e1
            refine ⟨g, e1, ?_⟩
            rw [Nat.zero_add] at hc
            rw [hc, List.getLast_eq_getElem]
            simp only [ints, List.getElem_map, ik, HM.out, Nat.add_sub_cancel]
          obtain ⟨g, rfl, hcl⟩ := hlast
          have HCL : Hid (n = (k : Int)) := hnk
          generalize (((stN p.Ins k).getLast hsne : Nat) : Int) = z at *
          clear hnk hN
          go_wp2_with fail
          refine (l1In_all _ _ _ _).mono ?_
          rintro e w2 ⟨rfl, rfl⟩
          rw [HC.out]
          go_wp2_with fail
          go_ret
          exact ⟨ret_int (by rw [HE.out]), hbwr⟩
        · have HE : Hid (lgP p n = -1) := lgP_out (by have := HL.out; omega)
          have HC : Hid ((decide (0 ≤ n) && decide (n ≤ (len : Int) - 1)) = false) := by show _ = _; simp; omega
          go_wp2_with fail
          refine (l1In_all _ _ _ _).mono ?_
          rintro e w2 ⟨rfl, rfl⟩
          rw [HC.out]
          go_wp2_with fail
          go_ret
          exact ⟨ret_int (by rw [HE.out]), hbwr⟩

set_option maxRecDepth 100000 in
set_option maxHeartbeats 2000000 in
theorem sGuard_any (L B : Nat) (p : Pc) (ao : Option Addr) (len cap : Nat) (n : Int) (w : World) (hB : B ≤ w.heap.size) (hs : Iss L B w ao len p.Ins) (hl : len ≤ 1048576) :
    Calls Try.prog 8 #[vP p ao len cap, .int .i64 n] w fun e w' => e = .returned (.int .i64 (grdP p n)) ∧ Below w.heap.size w w' := by
  have HL : Hid (len = p.Ins.length) := hs.1
  have hXb : Below w.heap.size w (w.alloc (.cells #[.int .i64 p.Lam, .int .i64 p.In, .int .i64 p.Regs, .slice ao len cap] 29)) := (Below.refl _ _).alloc (Nat.le_refl _) _
  have K := l10Guard_any L B p ao len cap n _ (by simp; omega) (hs.below hXb hB) hl
  have hcase : (lgP p n = -1 ∧ grdP p n = -1) ∨ ∃ (k : Nat) (hk : k < p.Ins.length), lgP p n = (k : Int) ∧ grdP p n = p.Ins[k].To := by
    by_cases h : 0 ≤ n ∧ n < p.Ins.length
    · have hst := try_stack p.Ins n.toNat (by omega) 0
      unfold grdP lgP
      rw [if_pos h, if_pos h, hst]
      by_cases hne : stN p.Ins n.toNat = []
      · left; rw [hne]; exact ⟨rfl, rfl⟩
      · right
        have hlt := (stN_lt p.Ins n.toNat _ (List.getLast_mem hne)).2
        refine ⟨(stN p.Ins n.toNat).getLast hne, hlt, by rw [List.getLast?_eq_some_getLast hne], ?_⟩
        rw [top_zero _ _ hne (fun x hx => (stN_lt p.Ins n.toNat x hx).2), List.getElem?_eq_getElem hlt]
    · left
      unfold grdP
      rw [if_neg h]
      exact ⟨lgP_out h, rfl⟩
  rcases hcase with ⟨h1, h2⟩ | ⟨k, hk, h1, h2⟩
  · have HE : Hid (grdP p n = -1) := h2
    rw [h1] at K
    clear h1 h2
    go_enter Try.func8, Try.ntmps8
    go_wp2_with fail
    refine K.mono ?_
    rintro e w1 ⟨rfl, hb1⟩
    clear K
    go_wp2_with fail
    go_ret
    exact ⟨ret_int (by rw [HE.out]), hXb.trans (hb1.mono (by simp))⟩
  · have HE : Hid (grdP p n = p.Ins[k].To) := h2
    rw [h1] at K
    clear h1 h2
    have hkl : k < len := by have := HL.out; omega
    go_enter Try.func8, Try.ntmps8
    go_wp2_with fail
    refine K.mono ?_
    rintro e w1 ⟨rfl, hb1⟩
    clear K
    have hbw : Below w.heap.size w w1 := hXb.trans (hb1.mono (by simp))
    have hz1 := hb1.size
    simp only [World.size_alloc] at hz1
    obtain ⟨f0, f1, f2, f3⟩ := cells4 ((hb1.block w.heap.size (by simp)).trans (heap_new rfl))
    obtain ⟨bl, o, rfl, _, hbB, ao1, len1, cap1, hsev, _⟩ := hs.2.2 k hk
    obtain ⟨e0, e1, e2, e3, e4, e5, e6⟩ := hsev.block (hbw.block bl (by omega))
    clear hsev
    go_wp2_with fail
    go_ret
    exact ⟨ret_int (by rw [HE.out]), hbw⟩

end Go.Proofs.Ytchdmpipfmedaaa
