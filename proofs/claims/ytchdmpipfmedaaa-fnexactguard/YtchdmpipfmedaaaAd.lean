/-
  The model's 'l10Add': a number put into a list.
-/
import Derived.Test.YtchdmpipfmedaaaAddL
import Derived.Test.YtchdmpipfmedaaaIr2
import Derived.Test.YtchdmpipfmedaaaLwM
namespace Go.Proofs.Ytchdmpipfmedaaa
open Go.RowKit
set_option linter.unusedVariables false
set_option linter.unusedSimpArgs false

theorem nums_emp {w : World} {b base : Nat} (h : w.heap[b]? = some (.cells #[] 3 (0, 0))) (hb : base ≤ b) : Nums base w (.slice (some ⟨b, 0, none⟩) 0 0) [] :=
  ⟨by simp, Or.inr ⟨b, 0, #[], by simp, hb, h, by simp, by simp, by simp, by simp⟩⟩

theorem nums_is {base : Nat} {w : World} {v : Value} {P : List Int} (h : Nums base w v P) (hl : P.length ≤ 9223372036854775807) : ∃ ao cap, v = .slice ao P.length cap ∧ Is base w.heap.size w ao P.length P := by
  obtain ⟨ao, cap, rfl⟩ := nums_form h
  refine ⟨ao, cap, rfl, rfl, hl, fun i hi => ?_⟩
  obtain ⟨g, cp, e, h1, h2, h3⟩ := nums_at h i hi
  injection e with e1 e2 e3
  exact ⟨g, 0, e1, h1, h2, h3⟩

/-- One more number behind a row, its length a letter. -/
theorem nums_one {base : Nat} {wr : World} {ao : Option Addr} {n cap : Nat} {P : List Int} (h : Nums base wr (.slice ao n cap) P) (hP : P.length = n) (hb : base ≤ wr.heap.size) (hl : n ≤ 1048577) (x : Int) :
    ∃ g cap2 w2, Hid ((Builtin.append_ #[33, 33] 33 #[.slice ao n cap, .slice (some ⟨wr.heap.size, 0, none⟩) 1 1]).run Try.prog (wr.alloc (.cells #[.int .i64 x] 3)) = .ok (.slice (some ⟨g, 0, none⟩) (n + 1) cap2) w2) ∧
      Hid (Nums base w2 (.slice (some ⟨g, 0, none⟩) (n + 1) cap2) (P ++ [x])) ∧ Below base wr w2 := by
  subst hP
  obtain ⟨g, cap2, w2, h1, h2, h3⟩ := nums_push h hb hl x
  exact ⟨g, cap2, w2, h1, h2, h3⟩

set_option maxRecDepth 100000 in
set_option maxHeartbeats 2000000 in
theorem l10Add_any (L B : Nat) (ao : Option Addr) (len cap : Nat) (l : List Int) (n : Int) (w : World) (hB : B ≤ w.heap.size) (hs : Is L B w ao len l) (hl : len ≤ 1048576) :
    Calls Try.prog 34 #[.slice ao len cap, .int .i64 n] w fun e w' => ∃ v, e = .returned v ∧ Nums w.heap.size w' v (addL l n) ∧ Below w.heap.size w w' := by
  have HL : Hid (len = l.length) := hs.1
  obtain ⟨X, hX⟩ : ∃ X, X = w.alloc (.cells #[] 3) := ⟨_, rfl⟩
  have hXb : Below w.heap.size w X := by rw [hX]; exact (Below.refl _ _).alloc (Nat.le_refl _) _
  have hX0 : Nums w.heap.size X (.slice (some ⟨w.heap.size, 0, none⟩) 0 0) [] := nums_emp (by rw [hX]; exact heap_new rfl) (Nat.le_refl _)
  have HX : Hid (X = _) := hX
  clear hX
  go_enter Try.func34, Try.ntmps34
  go_wp2_with fail
  rw [← HX.out]
  go_loopw [5, 6, 7] (fun v pb i wr => ∃ (k m : Nat) (P : List Int) (b : Bool) (a' : Option Addr) (c' : Nat), k ≤ len ∧ i = .int .i64 k ∧ pb = .bool b ∧ v = .slice a' m c' ∧ Hid (P.length = m) ∧ m ≤ k + b.toNat ∧ Nums w.heap.size wr (.slice a' m c') P ∧ Hid (addF n P b (l.drop k) = addL l n) ∧ Below w.heap.size w wr) (fun _ _ i _ => len - (intOf i).toNat)
  case atStart => exact ⟨0, 0, [], false, _, _, by omega, rfl, rfl, rfl, rfl, by omega, hX0, (by show _ = _; rw [List.drop_zero]; rfl), hXb⟩
  case round =>
    obtain ⟨k, m, P, b, a', c', hk, rfl, rfl, rfl, HP, hm, hN, HA, hbel⟩ := hrel
    have hsz := hbel.size
    by_cases hlt : k < len
    · have hlt' : k < l.length := by have := HL.out; omega
      obtain ⟨bl, o, rfl, _, hbB, c0⟩ := hs.2.2 k hlt'
      have e0 := (bcell hbel (by omega) _).trans c0
      have HD : Hid (l.drop k = l[k] :: l.drop (k + 1)) := List.drop_eq_getElem_cons hlt'
      rw [HD.out] at HA
      obtain ⟨rest, hrest⟩ : ∃ r, l.drop (k + 1) = r := ⟨_, rfl⟩
      have HRE : Hid (l.drop (k + 1) = rest) := hrest
      rw [hrest] at HA
      clear hrest HD
      have hblt : bl < w.heap.size := by omega
      generalize l[k] = x at *
      have HA2 : Hid (addF n (a2 n (a1 n P b x) x) (b || decide (n ≤ x)) rest = addL l n) := HA
      clear HA c0
      cases b with
      | true =>
        have hm' : m ≤ k + 1 := hm
        have HF1 : Hid (a1 n P true x = P) := by show _ = _; simp [a1]
        rw [HF1.out, Bool.true_or] at HA2
        by_cases hxn : x = n
        · subst hxn
          have HF2 : Hid (a2 x P x = P) := by show _ = _; simp [a2]
          rw [HF2.out] at HA2
          go_wp2_with fail
          go_roundw
          case rel => exact ⟨k + 1, m, P, true, a', c', by omega, by go_num, rfl, rfl, HP, (by show m ≤ k + 1 + 1; omega), hN, (by show _ = _; rw [HRE.out]; exact HA2.out), hbel⟩
          case measure => simp [intOf]; omega
        · have HF2 : Hid (a2 n P x = P ++ [x]) := by show _ = _; simp [a2, hxn]
          rw [HF2.out] at HA2
          obtain ⟨g, cp, w2, HR, HN2, hb2⟩ := nums_one hN HP.out hsz (by omega) x
          have hxb : (x == n) = false := beq_eq_false_iff_ne.2 hxn
          go_wp2_with (first | (at_builtin; refine list_run HR.out (by rfl) _ _ (by rfl) (by rfl) (by rfl) (by rfl) ?_))
          go_roundw
          case rel => exact ⟨k + 1, m + 1, P ++ [x], true, _, cp, by omega, by go_num, rfl, rfl, (by show _ = _; rw [List.length_append, HP.out]; rfl), (by show m + 1 ≤ k + 1 + 1; omega), HN2.out, (by show _ = _; rw [HRE.out]; exact HA2.out), hbel.trans hb2⟩
          case measure => simp [intOf]; omega
      | false =>
        have hm' : m ≤ k := hm
        rw [Bool.false_or] at HA2
        by_cases hnx : n ≤ x
        · have HF1 : Hid (a1 n P false x = P ++ [n]) := by show _ = _; simp [a1, hnx]
          rw [HF1.out, decide_eq_true hnx] at HA2
          obtain ⟨g, cp, w2, HR, HN2, hb2⟩ := nums_one hN HP.out hsz (by omega) n
          have hbel2 := hbel.trans hb2
          have hsz2 := hbel2.size
          have e2 := (World.cell?_of_block (hb2.block bl hblt)).trans e0
          by_cases hxn : x = n
          · subst hxn
            have HF2 : Hid (a2 x (P ++ [x]) x = P ++ [x]) := by show _ = _; simp [a2]
            rw [HF2.out] at HA2
            go_wp2_with (first | (at_builtin; refine list_run HR.out (by rfl) _ _ (by rfl) (by rfl) (by rfl) (by rfl) ?_))
            go_roundw
            case rel => exact ⟨k + 1, m + 1, P ++ [x], true, _, cp, by omega, by go_num, rfl, rfl, (by show _ = _; rw [List.length_append, HP.out]; rfl), (by show m + 1 ≤ k + 1 + 1; omega), HN2.out, (by show _ = _; rw [HRE.out]; exact HA2.out), hbel2⟩
            case measure => simp [intOf]; omega
          · have HF2 : Hid (a2 n (P ++ [n]) x = P ++ [n] ++ [x]) := by show _ = _; simp [a2, hxn]
            rw [HF2.out] at HA2
            obtain ⟨g3, cp3, w3, HR3, HN3, hb3⟩ := nums_one HN2.out (by rw [List.length_append, HP.out]; rfl) hsz2 (by omega) x
            have hxb : (x == n) = false := beq_eq_false_iff_ne.2 hxn
            go_wp2_with (first | (at_builtin; refine list_run HR.out (by rfl) _ _ (by rfl) (by rfl) (by rfl) (by rfl) ?_; clear HR) | (at_builtin; refine list_run HR3.out (by rfl) _ _ (by rfl) (by rfl) (by rfl) (by rfl) ?_))
            go_roundw
            case rel => exact ⟨k + 1, m + 1 + 1, P ++ [n] ++ [x], true, _, cp3, by omega, by go_num, rfl, rfl, (by show _ = _; rw [List.length_append, List.length_append, HP.out]; rfl), (by show m + 1 + 1 ≤ k + 1 + 1; omega), HN3.out, (by show _ = _; rw [HRE.out]; exact HA2.out), hbel2.trans hb3⟩
            case measure => simp [intOf]; omega
        · have HF1 : Hid (a1 n P false x = P) := by show _ = _; simp [a1, hnx]
          rw [HF1.out, decide_eq_false hnx] at HA2
          have hxn : ¬ x = n := by omega
          have HF2 : Hid (a2 n P x = P ++ [x]) := by show _ = _; simp [a2, hxn]
          rw [HF2.out] at HA2
          obtain ⟨g, cp, w2, HR, HN2, hb2⟩ := nums_one hN HP.out hsz (by omega) x
          have hxb : (x == n) = false := beq_eq_false_iff_ne.2 hxn
          go_wp2_with (first | (at_builtin; refine list_run HR.out (by rfl) _ _ (by rfl) (by rfl) (by rfl) (by rfl) ?_))
          go_roundw
          case rel => exact ⟨k + 1, m + 1, P ++ [x], false, _, cp, by omega, by go_num, rfl, rfl, (by show _ = _; rw [List.length_append, HP.out]; rfl), (by show m + 1 ≤ k + 1 + 0; omega), HN2.out, (by show _ = _; rw [HRE.out]; exact HA2.out), hbel.trans hb2⟩
          case measure => simp [intOf]; omega
    · have HD : Hid (l.drop k = []) := by have := HL.out; show _ = _; exact List.drop_eq_nil_of_le (by omega)
      rw [HD.out] at HA
      cases b with
      | true =>
        have HE : Hid (addL l n = P) := HA.out.symm
        go_wp2_with fail
        go_ret
        exact ⟨_, rfl, by rw [HE.out]; exact hN, hbel⟩
      | false =>
        have hm' : m ≤ k := hm
        have HE : Hid (addL l n = P ++ [n]) := HA.out.symm
        obtain ⟨g, cp, w2, HR, HN2, hb2⟩ := nums_one hN HP.out hsz (by omega) n
        go_wp2_with (first | (at_builtin; refine list_run HR.out (by rfl) _ _ (by rfl) (by rfl) (by rfl) (by rfl) ?_))
        go_ret
        exact ⟨_, rfl, by rw [HE.out]; exact HN2.out, hbel.trans hb2⟩

end Go.Proofs.Ytchdmpipfmedaaa
