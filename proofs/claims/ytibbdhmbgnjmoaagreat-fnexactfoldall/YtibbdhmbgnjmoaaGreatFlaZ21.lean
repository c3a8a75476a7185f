/-
  What the program's 'shapeOf' comes to.
-/
import Derived.Test.YtibbdhmbgnjmoaaGreatFlaZ10
namespace Go.Proofs.YtibbdhmbgnjmoaaGreat
open Go.RowKit Go.PlainAid
set_option linter.unusedVariables false
set_option linter.unusedSimpArgs false

set_option maxHeartbeats 1000000 in
theorem shapeOf_any (k : Int) (w : World) : Calls Tryz.prog 97 #[.int .i64 k] w fun e w' => e = .returned (.tuple #[.agg #[.int .i64 (shN k), .int .i64 (shL k), .int .i64 (shM k), .bool (shT k), .int .i64 (shS k), .int .i64 (shP k)], .bool (kOk k)]) ∧ Below w.heap.size w w' := by
  by_cases h1 : k = 1
  · subst h1; go_enter Tryz.func97, Tryz.ntmps97; go_wp2; refine bodyPost_ret (v := .tuple #[.agg #[.int .i64 0, .int .i64 (-1000000), .int .i64 1000000, .bool false, .int .i64 0, .int .i64 0], .bool true]) (by simp [results, Tryz.results97, go_sem]) rfl ⟨rfl, ?_⟩; exact (Below.refl _ _).alloc (Nat.le_refl _) _
  by_cases h2 : k = 2
  · subst h2; go_enter Tryz.func97, Tryz.ntmps97; go_wp2; refine bodyPost_ret (v := .tuple #[.agg #[.int .i64 0, .int .i64 (0), .int .i64 1, .bool false, .int .i64 0, .int .i64 0], .bool true]) (by simp [results, Tryz.results97, go_sem]) rfl ⟨rfl, ?_⟩; exact (Below.refl _ _).alloc (Nat.le_refl _) _
  by_cases h3 : k = 3
  · subst h3; go_enter Tryz.func97, Tryz.ntmps97; go_wp2; refine bodyPost_ret (v := .tuple #[.agg #[.int .i64 1, .int .i64 (0), .int .i64 0, .bool false, .int .i64 2, .int .i64 0], .bool true]) (by simp [results, Tryz.results97, go_sem]) rfl ⟨rfl, ?_⟩; exact (Below.refl _ _).alloc (Nat.le_refl _) _
  by_cases h4 : k = 4
  · subst h4; go_enter Tryz.func97, Tryz.ntmps97; go_wp2; refine bodyPost_ret (v := .tuple #[.agg #[.int .i64 1, .int .i64 (0), .int .i64 0, .bool true, .int .i64 0, .int .i64 1], .bool true]) (by simp [results, Tryz.results97, go_sem]) rfl ⟨rfl, ?_⟩; exact (Below.refl _ _).alloc (Nat.le_refl _) _
  by_cases h5 : k = 5
  · subst h5; go_enter Tryz.func97, Tryz.ntmps97; go_wp2; refine bodyPost_ret (v := .tuple #[.agg #[.int .i64 0, .int .i64 (0), .int .i64 0, .bool false, .int .i64 0, .int .i64 2], .bool true]) (by simp [results, Tryz.results97, go_sem]) rfl ⟨rfl, ?_⟩; exact (Below.refl _ _).alloc (Nat.le_refl _) _
  by_cases h6 : k = 6
  · subst h6; go_enter Tryz.func97, Tryz.ntmps97; go_wp2; refine bodyPost_ret (v := .tuple #[.agg #[.int .i64 1, .int .i64 (0), .int .i64 2, .bool false, .int .i64 0, .int .i64 2], .bool true]) (by simp [results, Tryz.results97, go_sem]) rfl ⟨rfl, ?_⟩; exact (Below.refl _ _).alloc (Nat.le_refl _) _
  by_cases h7 : k = 7
  · subst h7; go_enter Tryz.func97, Tryz.ntmps97; go_wp2; refine bodyPost_ret (v := .tuple #[.agg #[.int .i64 1, .int .i64 (0), .int .i64 2, .bool true, .int .i64 0, .int .i64 2], .bool true]) (by simp [results, Tryz.results97, go_sem]) rfl ⟨rfl, ?_⟩; exact (Below.refl _ _).alloc (Nat.le_refl _) _
  by_cases h8 : k = 8
  · subst h8; go_enter Tryz.func97, Tryz.ntmps97; go_wp2; refine bodyPost_ret (v := .tuple #[.agg #[.int .i64 0, .int .i64 (0), .int .i64 0, .bool false, .int .i64 0, .int .i64 3], .bool true]) (by simp [results, Tryz.results97, go_sem]) rfl ⟨rfl, ?_⟩; exact (Below.refl _ _).alloc (Nat.le_refl _) _
  by_cases h9 : k = 9
  · subst h9; go_enter Tryz.func97, Tryz.ntmps97; go_wp2; refine bodyPost_ret (v := .tuple #[.agg #[.int .i64 0, .int .i64 (0), .int .i64 0, .bool false, .int .i64 0, .int .i64 2], .bool true]) (by simp [results, Tryz.results97, go_sem]) rfl ⟨rfl, ?_⟩; exact (Below.refl _ _).alloc (Nat.le_refl _) _
  by_cases h10 : k = 10
  · subst h10; go_enter Tryz.func97, Tryz.ntmps97; go_wp2; refine bodyPost_ret (v := .tuple #[.agg #[.int .i64 0, .int .i64 (0), .int .i64 0, .bool false, .int .i64 0, .int .i64 1], .bool true]) (by simp [results, Tryz.results97, go_sem]) rfl ⟨rfl, ?_⟩; exact (Below.refl _ _).alloc (Nat.le_refl _) _
  by_cases h11 : k = 11
  · subst h11; go_enter Tryz.func97, Tryz.ntmps97; go_wp2; refine bodyPost_ret (v := .tuple #[.agg #[.int .i64 0, .int .i64 (0), .int .i64 0, .bool false, .int .i64 0, .int .i64 1], .bool true]) (by simp [results, Tryz.results97, go_sem]) rfl ⟨rfl, ?_⟩; exact (Below.refl _ _).alloc (Nat.le_refl _) _
  by_cases h12 : k = 12
  · subst h12; go_enter Tryz.func97, Tryz.ntmps97; go_wp2; refine bodyPost_ret (v := .tuple #[.agg #[.int .i64 0, .int .i64 (0), .int .i64 0, .bool true, .int .i64 0, .int .i64 0], .bool true]) (by simp [results, Tryz.results97, go_sem]) rfl ⟨rfl, ?_⟩; exact (Below.refl _ _).alloc (Nat.le_refl _) _
  by_cases h13 : k = 13
  · subst h13; go_enter Tryz.func97, Tryz.ntmps97; go_wp2; refine bodyPost_ret (v := .tuple #[.agg #[.int .i64 0, .int .i64 (0), .int .i64 0, .bool false, .int .i64 0, .int .i64 2], .bool true]) (by simp [results, Tryz.results97, go_sem]) rfl ⟨rfl, ?_⟩; exact (Below.refl _ _).alloc (Nat.le_refl _) _
  by_cases h14 : k = 14
  · subst h14; go_enter Tryz.func97, Tryz.ntmps97; go_wp2; refine bodyPost_ret (v := .tuple #[.agg #[.int .i64 2, .int .i64 (0), .int .i64 0, .bool false, .int .i64 0, .int .i64 3], .bool true]) (by simp [results, Tryz.results97, go_sem]) rfl ⟨rfl, ?_⟩; exact (Below.refl _ _).alloc (Nat.le_refl _) _
  by_cases h15 : k = 15
  · subst h15; go_enter Tryz.func97, Tryz.ntmps97; go_wp2; refine bodyPost_ret (v := .tuple #[.agg #[.int .i64 0, .int .i64 (1), .int .i64 5, .bool false, .int .i64 0, .int .i64 2], .bool true]) (by simp [results, Tryz.results97, go_sem]) rfl ⟨rfl, ?_⟩; exact (Below.refl _ _).alloc (Nat.le_refl _) _
  by_cases h16 : k = 16
  · subst h16; go_enter Tryz.func97, Tryz.ntmps97; go_wp2; refine bodyPost_ret (v := .tuple #[.agg #[.int .i64 0, .int .i64 (0), .int .i64 0, .bool true, .int .i64 0, .int .i64 1], .bool true]) (by simp [results, Tryz.results97, go_sem]) rfl ⟨rfl, ?_⟩; exact (Below.refl _ _).alloc (Nat.le_refl _) _
  by_cases h17 : k = 17
  · subst h17; go_enter Tryz.func97, Tryz.ntmps97; go_wp2; refine bodyPost_ret (v := .tuple #[.agg #[.int .i64 1, .int .i64 (0), .int .i64 0, .bool false, .int .i64 0, .int .i64 2], .bool true]) (by simp [results, Tryz.results97, go_sem]) rfl ⟨rfl, ?_⟩; exact (Below.refl _ _).alloc (Nat.le_refl _) _
  have e1 : shN k = 0 := by unfold shN; simp [h3, h4, h6, h7, h17, h14]
  have e2 : shL k = 0 := by unfold shL; simp [h1, h15]
  have e3 : shM k = 0 := by unfold shM; simp [h1, h2, h6, h7, h15]
  have e4 : shT k = false := by unfold shT; simp [h4, h7, h12, h16]
  have e5 : shS k = 0 := by unfold shS; simp [h3]
  have e6 : shP k = 0 := by unfold shP; simp [h4, h10, h11, h16, h5, h6, h7, h9, h13, h15, h17, h8, h14]
  have e7 : kOk k = false := by unfold kOk; simp; omega
  rw [e1, e2, e3, e4, e5, e6, e7]
  have b1 : (k == 1) = false := beq_eq_false_iff_ne.2 h1
  have b2 : (k == 2) = false := beq_eq_false_iff_ne.2 h2
  have b3 : (k == 3) = false := beq_eq_false_iff_ne.2 h3
  have b4 : (k == 4) = false := beq_eq_false_iff_ne.2 h4
  have b5 : (k == 5) = false := beq_eq_false_iff_ne.2 h5
  have b6 : (k == 6) = false := beq_eq_false_iff_ne.2 h6
  have b7 : (k == 7) = false := beq_eq_false_iff_ne.2 h7
  have b8 : (k == 8) = false := beq_eq_false_iff_ne.2 h8
  have b9 : (k == 9) = false := beq_eq_false_iff_ne.2 h9
  have b10 : (k == 10) = false := beq_eq_false_iff_ne.2 h10
  have b11 : (k == 11) = false := beq_eq_false_iff_ne.2 h11
  have b12 : (k == 12) = false := beq_eq_false_iff_ne.2 h12
  have b13 : (k == 13) = false := beq_eq_false_iff_ne.2 h13
  have b14 : (k == 14) = false := beq_eq_false_iff_ne.2 h14
  have b15 : (k == 15) = false := beq_eq_false_iff_ne.2 h15
  have b16 : (k == 16) = false := beq_eq_false_iff_ne.2 h16
  have b17 : (k == 17) = false := beq_eq_false_iff_ne.2 h17
  clear e1 e2 e3 e4 e5 e6 e7 h1 h2 h3 h4 h5 h6 h7 h8 h9 h10 h11 h12 h13 h14 h15 h16 h17
  go_enter Tryz.func97, Tryz.ntmps97; go_wp2; refine bodyPost_ret (v := .tuple #[.agg #[.int .i64 0, .int .i64 0, .int .i64 0, .bool false, .int .i64 0, .int .i64 0], .bool false]) (by simp [results, Tryz.results97, go_sem]) rfl ⟨rfl, ?_⟩; exact (Below.refl _ _).alloc (Nat.le_refl _) _

end Go.Proofs.YtibbdhmbgnjmoaaGreat

/-
  What the program's 'isName', 'namesOk', 'sameTyNode' (against the zero type), 'typesOk' come to.
-/
namespace Go.Proofs.YtibbdhmbgnjmoaaGreat
open Go.RowKit Go.PlainAid
set_option linter.unusedVariables false
set_option linter.unusedSimpArgs false

theorem nameW_size {s : ByteArray} (h : ¬ (1 ≤ s.size ∧ s.size ≤ 8)) : nameW s = false := by
  unfold nameW; rw [Bool.eq_false_iff]; intro h1; simp only [Bool.and_eq_true, decide_eq_true_eq] at h1; omega
theorem nameW_first {s : ByteArray} (h : isLow (bt s 0) = false) : nameW s = false := by simp [nameW, h]
theorem nameW_all {s : ByteArray} (h1 : 1 ≤ s.size) (h8 : s.size ≤ 8) (h : isLow (bt s 0) = true) : nameW s = allB s s.size chOk := by simp [nameW, h1, h8, h]
theorem isLow_yes {x : Int} (h : 97 ≤ x) (h' : x ≤ 122) : isLow x = true := by simp [isLow]; omega
theorem isLow_no {x : Int} (h : ¬ (97 ≤ x ∧ x ≤ 122)) : isLow x = false := by simp only [isLow, decide_eq_false_iff_not]; exact h

set_option maxHeartbeats 1000000 in
theorem isName_any (s : ByteArray) (w : World) (hs : s.size ≤ 9223372036854775807) : Calls Tryz.prog 106 #[.string s] w fun e w' => e = .returned (.bool (nameW s)) ∧ w' = w := by
  have hb := get_bt s
  have hb0 := bt_nonneg s 0
  by_cases h0 : s.size = 0
  · have HN : Hid (nameW s = false) := nameW_size (by omega)
    have hz : ((s.size : Int) == 0) = true := by simp [h0]
    clear h0
    go_enter Tryz.func106, Tryz.ntmps106
    go_wp2_with fail
    go_ret
    exact ⟨ret_bool HN.out.symm, rfl⟩
  have hz : ((s.size : Int) == 0) = false := by rw [beq_eq_false_iff_ne]; omega
  by_cases h8 : 8 < s.size
  · have HN : Hid (nameW s = false) := nameW_size (by omega)
    go_enter Tryz.func106, Tryz.ntmps106
    go_wp2_with fail
    go_ret
    exact ⟨ret_bool HN.out.symm, rfl⟩
  by_cases hlo : bt s 0 < 97
  · have HN : Hid (nameW s = false) := nameW_first (isLow_no (by omega))
    go_enter Tryz.func106, Tryz.ntmps106
    go_wp2_with fail
    go_ret
    exact ⟨ret_bool HN.out.symm, rfl⟩
  by_cases hhi : 122 < bt s 0
  · have HN : Hid (nameW s = false) := nameW_first (isLow_no (by omega))
    go_enter Tryz.func106, Tryz.ntmps106
    go_wp2_with fail
    go_ret
    exact ⟨ret_bool HN.out.symm, rfl⟩
  have HN : Hid (nameW s = allB s s.size chOk) := nameW_all (by omega) (by omega) (isLow_yes (by omega) (by omega))
  go_enter Tryz.func106, Tryz.ntmps106
  go_wp2_with fail
  go_loopw [26] (fun i wr => ∃ k : Nat, k ≤ s.size ∧ i = .int .i64 k ∧ Hid (allB s k chOk = true) ∧ wr = w) (fun i _ => s.size - (intOf i).toNat)
  case atStart => exact ⟨0, by omega, rfl, rfl, rfl⟩
  case round =>
    obtain ⟨k, hk, rfl, HA, rfl⟩ := hrel
    by_cases hlt : k < s.size
    · have HS : Hid (allB s (k + 1) chOk = (allB s k chOk && chOk (bt s k))) := allB_succ s k chOk
      have HF : Hid (chOk (bt s k) = false → allB s s.size chOk = false) := fun hf => allB_false k hlt hf
      have hbk := bt_nonneg s k
      obtain ⟨x, hx⟩ : ∃ x, x = bt s k := ⟨_, rfl⟩
      have hbk' : ((s[k]'hlt).toNat : Int) = x := by rw [hx]; exact hb k hlt
      have HX : Hid (x = bt s k) := hx
      rw [← hx] at HS HF hbk
      clear hx hb
      by_cases c1 : 97 ≤ x
      all_goals by_cases c2 : x ≤ 122
      all_goals by_cases c3 : 48 ≤ x
      all_goals by_cases c4 : x ≤ 57
      all_goals by_cases c5 : x = 46
      all_goals try omega
      all_goals
        first
          | (have hyes : Hid (chOk x = true) := (by show chOk x = true; simp only [chOk, isLow, isDig, Bool.or_eq_true, decide_eq_true_eq]; omega)
             go_wp2_with fail
             go_roundw
             case rel => exact ⟨k + 1, by omega, by go_num, (by show _ = _; rw [HS.out, HA.out, hyes.out]; rfl), (by trivial)⟩
             case measure => simp [intOf]; omega)
          | (have hno : Hid (chOk x = false) := (by show chOk x = false; rw [Bool.eq_false_iff]; intro hc; simp only [chOk, isLow, isDig, Bool.or_eq_true, decide_eq_true_eq] at hc; omega)
             go_wp2_with fail
             go_ret
             exact ⟨ret_bool (by rw [HN.out, HF.out hno.out]), rfl⟩)
    · have hke : k = s.size := by omega
      have HK : Hid (allB s s.size chOk = true) := by have := HA.out; rw [hke] at this; exact this
      clear hke
      go_wp2_with fail
      go_ret
      exact ⟨ret_bool (by rw [HN.out, HK.out]), rfl⟩

theorem isNil_size (s : ByteArray) : isNil s = decide (s.size = 0) := by
  unfold isNil
  rw [ByteArray.toList_eq, Bool.eq_iff_iff, List.isEmpty_iff, decide_eq_true_eq]
  have hl : s.data.toList.length = s.size := by cases s; rfl
  rw [← hl]
  exact List.length_eq_zero_iff.symm

set_option maxHeartbeats 1000000 in
theorem namesOk_any (n : Int) (k m : Int) (s z : ByteArray) (v4 v5 v6 v7 v8 : Value) (w : World) (hs : s.size ≤ 9223372036854775807) (hz : z.size ≤ 9223372036854775807) :
    Calls Tryz.prog 98 #[.agg #[.int .i64 k, .int .i64 m, .string s, .string z, v4, v5, v6, v7, v8], .int .i64 n] w fun e w' => e = .returned (.bool (namesB n s z)) ∧ Below w.heap.size w w' := by
  have hbel : Below w.heap.size w (w.alloc (.cells #[.int .i64 k, .int .i64 m, .string s, .string z, v4, v5, v6, v7, v8] 34)) := (Below.refl _ _).alloc (Nat.le_refl _) _
  by_cases h0 : n = 0
  · subst h0
    go_enter Tryz.func98, Tryz.ntmps98
    go_wp2_with fail
    all_goals
      go_ret
      exact ⟨ret_bool (by simp_all [namesB, isNil]), hbel⟩
  by_cases h1 : n = 1
  · subst h1
    clear h0
    cases h2 : nameW s
    all_goals
      have HN : Hid (nameW s = _) := h2
      clear h2
      go_enter Tryz.func98, Tryz.ntmps98
      go_wp2_with (go_at_call 106; refine (isName_any _ _ hs).mono ?_; rintro e w' ⟨rfl, rfl⟩; rw [HN.out])
      all_goals
        go_ret
        exact ⟨ret_bool (by have := HN.out; simp_all [namesB, isNil]), hbel⟩
  · have b0 : (n == 0) = false := beq_eq_false_iff_ne.2 h0
    have b1 : (n == 1) = false := beq_eq_false_iff_ne.2 h1
    have HB : Hid (namesB n s z = (nameW s && nameW z && !(s.toList == z.toList))) := by show _ = _; simp [namesB, h0, h1]
    clear h0 h1
    cases h2 : nameW s
    all_goals cases h3 : nameW z
    all_goals cases h4 : (s.toList == z.toList)
    all_goals
      have HN : Hid (nameW s = _) := h2
      have HN2 : Hid (nameW z = _) := h3
      have HN3 : Hid ((s.toList == z.toList) = _) := h4
      rw [h2, h3, h4] at HB
      clear h2 h3
      go_enter Tryz.func98, Tryz.ntmps98
      go_wp2_with fail
      refine (isName_any _ _ hs).mono ?_
      rintro e w' ⟨rfl, rfl⟩
      rw [HN.out]
      go_wp2_with fail
      try (refine (isName_any _ _ hz).mono ?_; rintro e w' ⟨rfl, rfl⟩; rw [HN2.out]; go_wp2_with fail)
      go_ret
      exact ⟨ret_bool (by rw [HB.out]; rfl), hbel⟩

set_option maxHeartbeats 1000000 in
theorem sameTyNode_zero (k n : Int) (ao : Option Addr) (len cap : Nat) (w : World) (hl : len ≤ 9223372036854775807) :
    Calls Tryz.prog 95 #[.agg #[.int .i64 k, .int .i64 n, .slice ao len cap], .agg #[.int .i64 0, .int .i64 0, .slice none 0 0]] w fun e w' => e = .returned (.bool ((k == 0) && (n == 0) && ((len : Int) == 0))) ∧ Below w.heap.size w w' := by
  have hbel : Below w.heap.size w ((w.alloc (.cells #[.int .i64 k, .int .i64 n, .slice ao len cap] 31)).alloc (.cells #[.int .i64 0, .int .i64 0, .slice none 0 0] 31)) := ((Below.refl _ _).alloc (Nat.le_refl _) _).alloc (by simp) _
  cases h1 : (k == 0)
  all_goals cases h2 : (n == 0)
  all_goals cases h3 : ((len : Int) == 0)
  all_goals
    go_enter Tryz.func95, Tryz.ntmps95
    go_wp2_with fail
    go_ret
    exact ⟨rfl, hbel⟩

/-- What 'typesOk' asks, but for the list Ts' own types. -/
def typesHead (typed : Bool) (ts : Int) (t : Tr) (n : Nat) : Bool := (if typed then okT t else zeroT t) && decide ((n : Int) ≤ ts)

theorem all_take {l : List Tr} {f : Tr → Bool} {k : Nat} (h : k < l.length) : (l.take (k + 1)).all f = ((l.take k).all f && f l[k]) := by
  rw [List.take_succ_eq_append_getElem h]; simp only [List.all_append, List.all_cons, List.all_nil, Bool.and_true]
theorem all_not {l : List Tr} {f : Tr → Bool} {k : Nat} (h : k < l.length) (hf : f l[k] = false) : l.all f = false := by
  rw [Bool.eq_false_iff]; intro h1
  have := List.all_eq_true.1 h1 l[k] (List.getElem_mem h)
  rw [hf] at this; cases this

set_option maxHeartbeats 1000000 in
theorem typesOk_any (D L B : Nat) (k m : Int) (s z : ByteArray) (tk tn : Int) (a1 : Option Addr) (l1 c1 : Nat) (a2 : Option Addr) (l2 c2 : Nat) (v8 : Value) (tA tS : List Tr) (n1 n2 n3 : Int) (typed : Bool) (ts n5 : Int) (w : World) (hts : 0 ≤ ts) (hts2 : ts ≤ 2)
    (hB : B ≤ w.heap.size) (h1 : Hs L B w D a1 l1 tA) (h2 : Hs L B w D a2 l2 tS) :
    Calls Tryz.prog 99 #[.agg #[.int .i64 k, .int .i64 m, .string s, .string z, .int .i64 tk, .int .i64 tn, .slice a1 l1 c1, .slice a2 l2 c2, v8], .agg #[.int .i64 n1, .int .i64 n2, .int .i64 n3, .bool typed, .int .i64 ts, .int .i64 n5]] w fun e w' => e = .returned (.bool (typesHead typed ts ⟨tk, tn, tA⟩ l2 && tS.all okT)) ∧ Below w.heap.size w w' := by
  have hl1 := h1.len.2
  have hl2 := h2.len.2
  have HL : Hid (l2 = tS.length) := h2.len.1
  have HL1 : Hid (l1 = tA.length) := h1.len.1
  obtain ⟨X, hX⟩ : ∃ X, X = ((w.alloc (.cells #[.int .i64 k, .int .i64 m, .string s, .string z, .int .i64 tk, .int .i64 tn, .slice a1 l1 c1, .slice a2 l2 c2, v8] 34)).alloc (.cells #[.int .i64 n1, .int .i64 n2, .int .i64 n3, .bool typed, .int .i64 ts, .int .i64 n5] 147)) := ⟨_, rfl⟩
  have hbel : Below w.heap.size w X := by rw [hX]; exact ((Below.refl _ _).alloc (Nat.le_refl _) _).alloc (by simp) _
  have hXs : X.heap.size = w.heap.size + 2 := by rw [hX]; simp
  have hX0 : X.heap[w.heap.size]? = some (.cells #[.int .i64 k, .int .i64 m, .string s, .string z, .int .i64 tk, .int .i64 tn, .slice a1 l1 c1, .slice a2 l2 c2, v8] 34 (0, 0)) := by
    rw [hX, Below.heap_alloc _ _ _ (by simp)]; exact heap_new rfl
  have hX1 : X.heap[w.heap.size + 1]? = some (.cells #[.int .i64 n1, .int .i64 n2, .int .i64 n3, .bool typed, .int .i64 ts, .int .i64 n5] 147 (0, 0)) := by
    rw [hX]; exact heap_new (by simp)
  have g1 := h1.below hbel hB
  have HX : Hid (X = _) := hX
  clear hX
  cases typed
  case' false =>
    have HT : Hid (∃ hd, typesHead false ts ⟨tk, tn, tA⟩ l2 = (hd && decide ((l2 : Int) ≤ ts)) ∧ ((tk == 0) && (tn == 0) && ((l1 : Int) == 0)) = hd) := ⟨zeroT ⟨tk, tn, tA⟩, rfl, by rw [HL1.out]; rfl⟩
    obtain ⟨hd, HT1, HT2⟩ := HT.out
    replace HT1 : Hid (_ = _) := HT1
    replace HT2 : Hid (_ = _) := HT2
    go_enter Tryz.func99, Tryz.ntmps99
    go_wp2_with fail
    rw [← HX.out]
    refine (sameTyNode_zero _ _ _ _ _ _ hl1).mono ?_
    rintro e w1 ⟨rfl, hb1⟩
    rw [HT2.out]
  case' true =>
    have HT : Hid (∃ hd, typesHead true ts ⟨tk, tn, tA⟩ l2 = (hd && decide ((l2 : Int) ≤ ts)) ∧ okT ⟨tk, tn, tA⟩ = hd) := ⟨okT ⟨tk, tn, tA⟩, rfl, rfl⟩
    obtain ⟨hd, HT1, HT2⟩ := HT.out
    replace HT1 : Hid (_ = _) := HT1
    replace HT2 : Hid (_ = _) := HT2
    go_enter Tryz.func99, Tryz.ntmps99
    go_wp2_with fail
    rw [← HX.out]
    refine (tyOk_any D L B _ _ _ _ _ tA _ (by omega) g1).mono ?_
    rintro e w1 ⟨rfl, hb1⟩
    rw [HT2.out]
  all_goals
    clear HT HT2
    have hz1 := hb1.size
    have hbw1 : Below w.heap.size w w1 := hbel.trans (hb1.mono (by omega))
    have y0 := (hb1.block _ (by omega)).trans hX0
    have y1 := (hb1.block _ (by omega)).trans hX1
    obtain ⟨f0, f1, f2, f3, f4, f5, f6, f7, f8⟩ := Nine.box y0
    have q3 := row_cell y1 3
    have q4 := row_cell y1 4
    simp only [List.getElem?_toArray, List.getElem?_cons_zero, List.getElem?_cons_succ] at q3 q4
    cases hd
    · go_wp2_with fail
      go_ret
      exact ⟨ret_bool (by rw [HT1.out]; rfl), hbw1⟩
    by_cases hgt : ts < l2
    · go_wp2_with fail
      go_ret
      exact ⟨ret_bool (by rw [HT1.out, decide_eq_false (by omega)]; rfl), hbw1⟩
    replace HT1 : Hid (_ = true) := HT1.out.trans (by rw [decide_eq_true (by omega)]; rfl)
    go_wp2_with fail
    go_loopw [38] (fun i wr => ∃ j : Nat, j ≤ l2 ∧ i = .int .i64 j ∧ Hid ((tS.take j).all okT = true) ∧ Below w1.heap.size w1 wr) (fun i _ => l2 - (intOf i).toNat)
    case atStart => exact ⟨0, by omega, rfl, rfl, Below.refl _ _⟩
    case round =>
      obtain ⟨j, hj, rfl, HA, hbr⟩ := hrel
      have hszr := hbr.size
      by_cases hlt : j < l2
      · have hlt' : j < tS.length := by have := HL.out; omega
        obtain ⟨b, o, rfl, _, hbB, ao1, len1, cap1, x0, x1, x2, hs1⟩ := h2.get j hlt'
        have hbw : Below w.heap.size w wr := hbw1.trans (hbr.mono (by omega))
        have e0 := (bcell hbw (by omega) _).trans x0
        have e1 := (bcell hbw (by omega) _).trans x1
        have e2 := (bcell hbw (by omega) _).trans x2
        have hba : Below w.heap.size w (wr.alloc (.cells #[.int .i64 tS[j].K, .int .i64 tS[j].N, .slice ao1 len1 cap1] 31)) := hbw.alloc (by omega) _
        have hs2 := hs1.below hba hB
        have HT : Hid ((tS.take (j + 1)).all okT = ((tS.take j).all okT && okT tS[j])) := all_take hlt'
        have HF : Hid (okT tS[j] = false → tS.all okT = false) := fun h => all_not hlt' h
        have HE : Hid (okT ⟨tS[j].K, tS[j].N, tS[j].A⟩ = okT tS[j]) := by show _ = _; rw [tr_eta]
        cases hok : okT tS[j]
        · rw [hok] at HE
          replace HF : Hid (_ = _) := HF.out hok
          clear hok
          go_wp2_with fail
          refine (tyOk_any _ _ _ _ _ _ _ _ _ _ (by simp; omega) hs2).mono ?_
          rintro e w2 ⟨rfl, hb2⟩
          rw [HE.out]
          go_wp2_with fail
          go_ret
          exact ⟨ret_bool (by rw [HF.out, Bool.and_false]), hba.trans (hb2.mono (by simp; omega))⟩
        · rw [hok] at HE HT
          clear hok
          go_wp2_with fail
          refine (tyOk_any _ _ _ _ _ _ _ _ _ _ (by simp; omega) hs2).mono ?_
          rintro e w2 ⟨rfl, hb2⟩
          rw [HE.out]
          have hbr2 : Below w1.heap.size w1 w2 := (hbr.alloc (by omega) _).trans (hb2.mono (by simp; omega))
          go_wp2_with fail
          go_roundw
          case rel => exact ⟨j + 1, by omega, by go_num, (by show _ = _; rw [HT.out, HA.out]; rfl), hbr2⟩
          case measure => simp [intOf]; omega
      · have HK : Hid (tS.all okT = true) := by have h1 := HL.out; have h2 := HA.out; rw [List.take_of_length_le (by omega)] at h2; exact h2
        go_wp2_with fail
        go_ret
        exact ⟨ret_bool (by rw [HT1.out, HK.out]; rfl), hbw1.trans (hbr.mono (by omega))⟩

end Go.Proofs.YtibbdhmbgnjmoaaGreat

/-
  What the program's 'termNodeOk' comes to.
-/
namespace Go.Proofs.YtibbdhmbgnjmoaaGreat
open Go.RowKit Go.PlainAid
set_option linter.unusedVariables false
set_option linter.unusedSimpArgs false

theorem nodeM_k {t : Tm} (h : kOk t.K = false) : nodeM t = false := by simp [nodeM, h]
theorem nodeM_n {t : Tm} (h : ¬ (shL t.K ≤ t.N ∧ t.N ≤ shM t.K)) : nodeM t = false := by unfold nodeM; rw [decide_eq_false h]; simp
theorem nodeM_p {t : Tm} (h : ¬ (t.A.length : Int) = shP t.K) : nodeM t = false := by unfold nodeM; rw [decide_eq_false h]; simp
theorem nodeM_f {t : Tm} (h : fixB t.K t.A = false) : nodeM t = false := by unfold nodeM; rw [h]; simp
theorem nodeM_s {t : Tm} (h : namesB (shN t.K) t.S t.Z = false) : nodeM t = false := by unfold nodeM; rw [h]; simp
theorem nodeM_all {t : Tm} (h1 : kOk t.K = true) (h2 : shL t.K ≤ t.N ∧ t.N ≤ shM t.K) (h3 : (t.A.length : Int) = shP t.K) (h4 : fixB t.K t.A = true) (h5 : namesB (shN t.K) t.S t.Z = true) : nodeM t = typesB t.K t.T t.Ts := by
  unfold nodeM; rw [h1, decide_eq_true h2, decide_eq_true h3, h4, h5]; simp

theorem fixB_seven {k : Int} {l : List Tm} (h : k = 7) (hl : 0 < l.length) : fixB k l = decide (l[0].K = 4) := by
  unfold fixB; rw [if_pos h]
  cases l with
  | nil => simp at hl
  | cons x l => rfl

theorem typesB_eq (t : Tm) : typesB t.K t.T t.Ts = (typesHead (shT t.K) (shS t.K) ⟨t.T.K, t.T.N, t.T.A⟩ t.Ts.length && t.Ts.all okT) := by
  rw [tr_eta]; rfl

set_option maxHeartbeats 2000000 in
theorem termNodeOk_any (D d L B : Nat) (t : Tm) (a1 : Option Addr) (l1 c1 : Nat) (a2 : Option Addr) (l2 c2 : Nat) (a3 : Option Addr) (l3 c3 : Nat) (w : World) (hB : B ≤ w.heap.size) (hf : Fm L B w D d t a1 l1 a2 l2 a3 l3) :
    Calls Tryz.prog 89 #[.agg #[.int .i64 t.K, .int .i64 t.N, .string t.S, .string t.Z, .int .i64 t.T.K, .int .i64 t.T.N, .slice a1 l1 c1, .slice a2 l2 c2, .slice a3 l3 c3]] w fun e w' => e = .returned (.bool (nodeM t)) ∧ Below w.heap.size w w' := by
  have hl3 := hf.m.len.2
  have HL3 : Hid (l3 = t.A.length) := hf.m.len.1
  have HL2 : Hid (l2 = t.Ts.length) := hf.t2.len.1
  have bN := shN_bd t.K
  have bL := shL_bd t.K
  have bM := shM_bd t.K
  have bS := shS_bd t.K
  have bP := shP_bd t.K
  have hb0 : Below w.heap.size w (w.alloc (.cells #[.int .i64 t.K, .int .i64 t.N, .string t.S, .string t.Z, .int .i64 t.T.K, .int .i64 t.T.N, .slice a1 l1 c1, .slice a2 l2 c2, .slice a3 l3 c3] 34)) := (Below.refl _ _).alloc (Nat.le_refl _) _
  cases hk : kOk t.K
  · have HN : Hid (nodeM t = false) := nodeM_k hk
    have HK : Hid (kOk t.K = false) := hk
    clear hk
    go_enter Tryz.func89, Tryz.ntmps89
    go_wp2_with fail
    refine (shapeOf_any _ _).mono ?_
    rintro e w1 ⟨rfl, hb1⟩
    rw [HK.out]
    go_wp2_with fail
    go_ret
    exact ⟨ret_bool HN.out.symm, (hb0.trans (hb1.mono (by simp))).alloc (by have := hb1.size; simp at this; omega) _⟩
  have HK : Hid (kOk t.K = true) := hk
  clear hk
  go_enter Tryz.func89, Tryz.ntmps89
  go_wp2_with fail
  refine (shapeOf_any _ _).mono ?_
  rintro e w1 ⟨rfl, hb1⟩
  rw [HK.out]
  have hz1 := hb1.size
  simp only [World.size_alloc] at hz1
  have hbw1 : Below w.heap.size w w1 := hb0.trans (hb1.mono (by simp))
  have y0 := (hb1.block w.heap.size (by simp)).trans (heap_new rfl)
  obtain ⟨f0, f1, f2, f3, f4, f5, f6, f7, f8⟩ := Nine.box y0
  simp only [Nat.zero_add] at f1 f2 f3 f4 f5 f6 f7 f8
  obtain ⟨X, hX⟩ : ∃ X, X = w1.alloc (.cells #[.int .i64 (shN t.K), .int .i64 (shL t.K), .int .i64 (shM t.K), .bool (shT t.K), .int .i64 (shS t.K), .int .i64 (shP t.K)] 147) := ⟨_, rfl⟩
  have hXb : Below w.heap.size w X := by rw [hX]; exact hbw1.alloc (by omega) _
  have hXs : X.heap.size = w1.heap.size + 1 := by rw [hX]; simp
  have HX : Hid (X = _) := hX
  clear hX
  have hne : ¬ w.heap.size = w1.heap.size := by omega
  have hlt1 : w.heap.size < w1.heap.size := by omega
  have hX1 : X.heap[w1.heap.size]? = some (.cells #[.int .i64 (shN t.K), .int .i64 (shL t.K), .int .i64 (shM t.K), .bool (shT t.K), .int .i64 (shS t.K), .int .i64 (shP t.K)] 147 (0, 0)) := by rw [HX.out]; exact heap_new rfl
  have hX0 : X.heap[w.heap.size]? = some (.cells #[.int .i64 t.K, .int .i64 t.N, .string t.S, .string t.Z, .int .i64 t.T.K, .int .i64 t.T.N, .slice a1 l1 c1, .slice a2 l2 c2, .slice a3 l3 c3] 34 (0, 0)) := by rw [HX.out, Below.heap_alloc _ _ _ hlt1]; exact y0
  by_cases d1 : t.N < shL t.K
  · have HN : Hid (nodeM t = false) := nodeM_n (by omega)
    go_wp2_with fail
    go_ret
    rw [← HX.out]
    exact ⟨ret_bool HN.out.symm, hXb⟩
  by_cases d2 : shM t.K < t.N
  · have HN : Hid (nodeM t = false) := nodeM_n (by omega)
    go_wp2_with fail
    go_ret
    rw [← HX.out]
    exact ⟨ret_bool HN.out.symm, hXb⟩
  have c12 : Hid (shL t.K ≤ t.N ∧ t.N ≤ shM t.K) := ⟨by omega, by omega⟩
  by_cases c3 : (l3 : Int) = shP t.K
  case' neg =>
    have HN : Hid (nodeM t = false) := nodeM_p (by rw [← HL3.out]; exact c3)
    have c3b : ((l3 : Int) != shP t.K) = true := by simp [c3]
    clear c3
    go_wp2_with fail
    go_ret
    rw [← HX.out]
    exact ⟨ret_bool HN.out.symm, hXb⟩
  have HP : Hid ((l3 : Int) = shP t.K) := c3
  have c3b : ((l3 : Int) != shP t.K) = false := by simp [c3]
  have c4 : ∃ b : Bool, fixB t.K t.A = b ∧ (t.K = 7 → ∃ x o, a3 = some ⟨x, o, none⟩ ∧ 0 < l3 ∧ x < B ∧ ∃ q, w.cell? ⟨x, o, none⟩ = some (.int .i64 q) ∧ b = decide (q = 4)) ∧ (¬ t.K = 7 → b = true) := by
    refine ⟨_, rfl, fun h7 => ?_, fun h7 => by simp [fixB, h7]⟩
    have hp2 : shP t.K = 2 := by rw [h7]; rfl
    have h2 : t.A.length = 2 := by have := HL3.out; omega
    obtain ⟨x, o, e, _, hx, q1, q2, q3, q4, q5, q6, q7, q8, q9, h9, _⟩ := hf.m.get 0 (by omega)
    refine ⟨x, o, e, by omega, hx, t.A[0].K, by simpa using h9.c0, ?_⟩
    exact fixB_seven h7 (by omega)
  clear c3
  obtain ⟨fx, HF, c7, c7n⟩ := c4
  replace HF : Hid (_ = _) := HF
  have HT : Hid (fx = true → namesB (shN t.K) t.S t.Z = true → nodeM t = (typesHead (shT t.K) (shS t.K) ⟨t.T.K, t.T.N, t.T.A⟩ l2 && t.Ts.all okT)) := fun h h' => by
    rw [nodeM_all HK.out c12.out (by rw [← HL3.out]; exact HP.out) (HF.out.trans h) h', typesB_eq, HL2.out]
  have HN0 : Hid (fx = false → nodeM t = false) := fun h => nodeM_f (HF.out.trans h)
  have HNs : Hid (namesB (shN t.K) t.S t.Z = false → nodeM t = false) := nodeM_s
  have hfX := Fm.below hXb hB hf
  by_cases h7 : t.K = 7
  case' pos =>
    obtain ⟨x, o, rfl, hpos, hxB, q, hq, rfl⟩ := c7 h7
    clear c7 c7n HF
    have hq1 : w1.cell? ⟨x, o, none⟩ = some (.int .i64 q) := (bcell hbw1 (by omega) _).trans hq
    have hx1 : x < w1.heap.size := by omega
    have h7b : (t.K == 7) = true := by simp [h7]
    clear h7 hq
    cases h4 : (q != 4)
    case' true =>
      have HN : Hid (nodeM t = false) := HN0.out (by simpa using h4)
      go_wp2_with fail
      go_ret
      rw [← HX.out]
      exact ⟨ret_bool HN.out.symm, hXb⟩
    replace HT : Hid (_ → _) := HT.out (by simpa using h4)
  case' neg =>
    replace HT : Hid (_ → _) := HT.out (c7n h7)
    have h7b : (t.K == 7) = false := by simp [h7]
    clear c7 c7n HF h7
  all_goals
    cases hn : namesB (shN t.K) t.S t.Z
    case' false =>
      replace HNs : Hid (_ = _) := HNs.out hn
      have HB : Hid (namesB (shN t.K) t.S t.Z = false) := hn
      clear hn
      go_wp2_with fail
      rw [← HX.out]
      refine (namesOk_any _ _ _ _ _ _ _ _ _ _ _ hf.s hf.z).mono ?_
      rintro e w2 ⟨rfl, hb2⟩
      rw [HB.out]
      go_wp2_with fail
      go_ret
      exact ⟨ret_bool HNs.out.symm, hXb.trans (hb2.mono (by omega))⟩
    case' true =>
      replace HT : Hid (_ = _) := HT.out hn
      have HB : Hid (namesB (shN t.K) t.S t.Z = true) := hn
      clear hn
      go_wp2_with fail
      rw [← HX.out]
      refine (namesOk_any _ _ _ _ _ _ _ _ _ _ _ hf.s hf.z).mono ?_
      rintro e w2 ⟨rfl, hb2⟩
      rw [HB.out]
      have hz2 := hb2.size
      have z1 := (hb2.block _ (by omega)).trans hX1
      have z0 := (hb2.block _ (by omega)).trans hX0
      clear f0 f1 f2 f3 f4 f5 f6 f7 f8
      obtain ⟨f0, f1, f2, f3, f4, f5, f6, f7, f8⟩ := Nine.box z0
      have p0 := row_cell z1 0
      have p1 := row_cell z1 1
      have p2 := row_cell z1 2
      have p3 := row_cell z1 3
      have p4 := row_cell z1 4
      have p5 := row_cell z1 5
      simp only [List.getElem?_toArray, List.getElem?_cons_zero, List.getElem?_cons_succ] at p0 p1 p2 p3 p4 p5
      have hbw2 : Below w.heap.size w w2 := hXb.trans (hb2.mono (by omega))
      have hf2 := Fm.below hbw2 hB hf
      go_wp2_with fail
      refine (typesOk_any D L B _ _ _ _ _ _ _ _ _ _ _ _ _ t.T.A t.Ts _ _ _ _ _ _ _ (by omega) (by omega) (by omega) hf2.t1 hf2.t2).mono ?_
      rintro e w3 ⟨rfl, hb3⟩
      rw [← HT.out]
      go_wp2_with fail
      go_ret
      exact ⟨rfl, hbw2.trans (hb3.mono (by omega))⟩

end Go.Proofs.YtibbdhmbgnjmoaaGreat
