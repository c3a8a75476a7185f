/-
  What the model's 'l1In', 'l2Name' come to.
-/
import Derived.Test.YtjikcckggifinaaDoorTtTi
import Derived.Test.YtjikcckggifinaaDoorTtZ8
namespace Go.Proofs.YtjikcckggifinaaDoor
open Go.RowKit Go.PlainAid
set_option linter.unusedVariables false
set_option linter.unusedSimpArgs false

def inB (x a b : Int) : Bool := decide (a ≤ x ∧ x ≤ b)
set_option maxHeartbeats 400000 in
theorem l1In_gen (x a b : Int) (w : World) : Calls Tryd.prog 52 #[.int .i64 x, .int .i64 a, .int .i64 b] w fun e w' => e = .returned (.bool (inB x a b)) ∧ w' = w := by
  by_cases h : a ≤ x
  all_goals
    go_enter Tryd.func52, Tryd.ntmps52
    go_wp2
    go_ret
    exact ⟨ret_bool (by unfold inB; rw [Bool.eq_iff_iff]; simp; try omega), rfl⟩

/-- A plain name: one without a dot. -/
def chPl (x : Int) : Bool := isLow x || isDig x
def chF (plain : Bool) (x : Int) : Bool := if plain then chPl x else chOk x
def nameP (plain : Bool) (s : ByteArray) : Bool := decide (1 ≤ s.size) && decide (s.size ≤ 8) && isLow (bt s 0) && allB s s.size (chF plain)
theorem nameP_false (s : ByteArray) : nameP false s = nameW s := rfl

theorem chF_eq (p : Bool) (x : Int) : chF p x = (inB x 97 122 || inB x 48 57 || (!p && !(x != 46))) := by
  cases p
  · show chOk x = _
    have e : (x != 46) = !decide (x = 46) := by rw [Bool.eq_iff_iff]; simp
    rw [e, Bool.not_not, Bool.not_false, Bool.true_and]; rfl
  · show chPl x = _
    rw [Bool.not_true, Bool.false_and, Bool.or_false]; rfl

theorem nameP_size {p : Bool} {s : ByteArray} (h : ¬ (1 ≤ s.size ∧ s.size ≤ 8)) : nameP p s = false := by
  unfold nameP; rw [Bool.eq_false_iff]; intro h1; simp only [Bool.and_eq_true, decide_eq_true_eq] at h1; omega
theorem nameP_first {p : Bool} {s : ByteArray} (h : isLow (bt s 0) = false) : nameP p s = false := by simp [nameP, h]
theorem nameP_all {p : Bool} {s : ByteArray} (h1 : 1 ≤ s.size) (h8 : s.size ≤ 8) (h : isLow (bt s 0) = true) : nameP p s = allB s s.size (chF p) := by simp [nameP, h1, h8, h]

set_option maxHeartbeats 1000000 in
theorem l2Name_any (p : Bool) (s : ByteArray) (w : World) (hs : s.size ≤ 9223372036854775807) : Calls Tryd.prog 45 #[.string s, .bool p] w fun e w' => e = .returned (.bool (nameP p s)) ∧ w' = w := by
  have hb := get_bt s
  have hb0 := bt_nonneg s 0
  have hb1 := bt_le s 0
  by_cases h18 : 1 ≤ s.size ∧ s.size ≤ 8
  case' neg =>
    have HN : Hid (nameP p s = false) := nameP_size h18
    have HI : Hid (inB s.size 1 8 = false) := by show _ = _; unfold inB; rw [decide_eq_false]; omega
    go_enter Tryd.func45, Tryd.ntmps45
    go_wp2_with (go_at_call 52; refine (l1In_gen _ _ _ _).mono ?_; rintro e w' ⟨rfl, rfl⟩; rw [HI.out])
    go_ret
    exact ⟨ret_bool HN.out.symm, rfl⟩
  have HI : Hid (inB s.size 1 8 = true) := by show _ = _; unfold inB; rw [decide_eq_true]; omega
  obtain ⟨h1, h8⟩ := h18
  cases hlo : isLow (bt s 0)
  · have HN : Hid (nameP p s = false) := nameP_first hlo
    have HI2 : Hid (inB (bt s 0) 97 122 = false) := hlo
    clear hlo
    go_enter Tryd.func45, Tryd.ntmps45
    go_wp2_with (go_at_call 52; refine (l1In_gen _ _ _ _).mono ?_; rintro e w' ⟨rfl, rfl⟩; first | rw [HI.out] | rw [HI2.out])
    go_ret
    exact ⟨ret_bool HN.out.symm, rfl⟩
  have HN : Hid (nameP p s = allB s s.size (chF p)) := nameP_all h1 h8 hlo
  have HI2 : Hid (inB (bt s 0) 97 122 = true) := hlo
  clear hlo
  go_enter Tryd.func45, Tryd.ntmps45
  go_wp2_with (go_at_call 52; refine (l1In_gen _ _ _ _).mono ?_; rintro e w2 ⟨rfl, hw2⟩; rw [hw2]; clear hw2 w2; first | rw [HI.out] | rw [HI2.out])
  go_loopw [5] (fun i wr => ∃ k : Nat, k ≤ s.size ∧ i = .int .i64 k ∧ Hid (allB s k (chF p) = true) ∧ wr = w) (fun i _ => s.size - (intOf i).toNat)
  case atStart => exact ⟨0, by omega, rfl, rfl, rfl⟩
  case round =>
    obtain ⟨k, hk, rfl, HA, rfl⟩ := hrel
    by_cases hlt : k < s.size
    · have HS : Hid (allB s (k + 1) (chF p) = (allB s k (chF p) && (chF p) (bt s k))) := allB_succ s k _
      have HF : Hid ((chF p) (bt s k) = false → allB s s.size (chF p) = false) := fun hf => allB_false k hlt hf
      have hbk := bt_nonneg s k
      have hbk2 := bt_le s k
      obtain ⟨x, hx⟩ : ∃ x, x = bt s k := ⟨_, rfl⟩
      have hbk' : ((s[k]'hlt).toNat : Int) = x := by rw [hx]; exact hb k hlt
      rw [← hx] at HS HF hbk hbk2
      clear hx hb
      have HC : Hid (chF p x = (inB x 97 122 || inB x 48 57 || (!p && !(x != 46)))) := chF_eq p x
      cases hl : inB x 97 122
      all_goals cases hd : inB x 48 57
      all_goals cases hq : (x != 46)
      all_goals cases p
      all_goals
        have HL : Hid (inB x 97 122 = _) := hl
        have HD : Hid (inB x 48 57 = _) := hd
        rw [hl, hd, hq] at HC
        clear hl hd
        go_wp2_with (go_at_call 52; refine (l1In_gen _ _ _ _).mono ?_; rintro e w' ⟨rfl, rfl⟩; first | rw [HL.out] | rw [HD.out])
        first
          | (go_roundw
             case rel => exact ⟨k + 1, by omega, by go_num, (by have := HC.out; show _ = _; rw [HS.out, HA.out, this]; rfl), (by trivial)⟩
             case measure => simp [intOf]; omega)
          | (go_ret
             exact ⟨ret_bool (by rw [HN.out, HF.out (HC.out.trans rfl)]), rfl⟩)
    · have hke : k = s.size := by omega
      have HK : Hid (allB s s.size (chF p) = true) := by have := HA.out; rw [hke] at this; exact this
      clear hke
      go_wp2_with fail
      go_ret
      exact ⟨ret_bool (by rw [HN.out, HK.out]), rfl⟩

end Go.Proofs.YtjikcckggifinaaDoor

/-
  What the model's 'l2Of', 'l2Number' come to.
-/
namespace Go.Proofs.YtjikcckggifinaaDoor
open Go.RowKit Go.PlainAid
set_option linter.unusedVariables false
set_option linter.unusedSimpArgs false

def ofP (k : Int) : Int := if kOk k then shP k else -1
def ofN (k : Int) : Int := if k = 1 ∨ k = 2 ∨ k = 6 ∨ k = 7 ∨ k = 15 then 1 else 0
def ofS (k : Int) : Bool := decide (k = 3 ∨ k = 4 ∨ k = 6 ∨ k = 7 ∨ k = 14 ∨ k = 17)
def ofZ (k : Int) : Bool := decide (k = 14)

set_option maxHeartbeats 1000000 in
theorem l2Of_any (k : Int) (w : World) : Calls Tryd.prog 43 #[.int .i64 k] w fun e w' => e = .returned (.agg #[.int .i64 (ofP k), .int .i64 (ofN k), .bool (ofS k), .bool (ofZ k), .bool (shT k)]) ∧ Below w.heap.size w w' := by
  by_cases h1 : k = 1
  · subst h1; go_enter Tryd.func43, Tryd.ntmps43; go_wp2; refine bodyPost_ret (v := .agg #[.int .i64 0, .int .i64 1, .bool false, .bool false, .bool false]) (by simp [results, Tryd.results43, go_sem]) rfl ⟨rfl, ?_⟩; exact (Below.refl _ _).alloc (Nat.le_refl _) _
  by_cases h2 : k = 2
  · subst h2; go_enter Tryd.func43, Tryd.ntmps43; go_wp2; refine bodyPost_ret (v := .agg #[.int .i64 0, .int .i64 1, .bool false, .bool false, .bool false]) (by simp [results, Tryd.results43, go_sem]) rfl ⟨rfl, ?_⟩; exact (Below.refl _ _).alloc (Nat.le_refl _) _
  by_cases h3 : k = 3
  · subst h3; go_enter Tryd.func43, Tryd.ntmps43; go_wp2; refine bodyPost_ret (v := .agg #[.int .i64 0, .int .i64 0, .bool true, .bool false, .bool false]) (by simp [results, Tryd.results43, go_sem]) rfl ⟨rfl, ?_⟩; exact (Below.refl _ _).alloc (Nat.le_refl _) _
  by_cases h4 : k = 4
  · subst h4; go_enter Tryd.func43, Tryd.ntmps43; go_wp2; refine bodyPost_ret (v := .agg #[.int .i64 1, .int .i64 0, .bool true, .bool false, .bool true]) (by simp [results, Tryd.results43, go_sem]) rfl ⟨rfl, ?_⟩; exact (Below.refl _ _).alloc (Nat.le_refl _) _
  by_cases h5 : k = 5
  · subst h5; go_enter Tryd.func43, Tryd.ntmps43; go_wp2; refine bodyPost_ret (v := .agg #[.int .i64 2, .int .i64 0, .bool false, .bool false, .bool false]) (by simp [results, Tryd.results43, go_sem]) rfl ⟨rfl, ?_⟩; exact (Below.refl _ _).alloc (Nat.le_refl _) _
  by_cases h6 : k = 6
  · subst h6; go_enter Tryd.func43, Tryd.ntmps43; go_wp2; refine bodyPost_ret (v := .agg #[.int .i64 2, .int .i64 1, .bool true, .bool false, .bool false]) (by simp [results, Tryd.results43, go_sem]) rfl ⟨rfl, ?_⟩; exact (Below.refl _ _).alloc (Nat.le_refl _) _
  by_cases h7 : k = 7
  · subst h7; go_enter Tryd.func43, Tryd.ntmps43; go_wp2; refine bodyPost_ret (v := .agg #[.int .i64 2, .int .i64 1, .bool true, .bool false, .bool true]) (by simp [results, Tryd.results43, go_sem]) rfl ⟨rfl, ?_⟩; exact (Below.refl _ _).alloc (Nat.le_refl _) _
  by_cases h8 : k = 8
  · subst h8; go_enter Tryd.func43, Tryd.ntmps43; go_wp2; refine bodyPost_ret (v := .agg #[.int .i64 3, .int .i64 0, .bool false, .bool false, .bool false]) (by simp [results, Tryd.results43, go_sem]) rfl ⟨rfl, ?_⟩; exact (Below.refl _ _).alloc (Nat.le_refl _) _
  by_cases h9 : k = 9
  · subst h9; go_enter Tryd.func43, Tryd.ntmps43; go_wp2; refine bodyPost_ret (v := .agg #[.int .i64 2, .int .i64 0, .bool false, .bool false, .bool false]) (by simp [results, Tryd.results43, go_sem]) rfl ⟨rfl, ?_⟩; exact (Below.refl _ _).alloc (Nat.le_refl _) _
  by_cases h10 : k = 10
  · subst h10; go_enter Tryd.func43, Tryd.ntmps43; go_wp2; refine bodyPost_ret (v := .agg #[.int .i64 1, .int .i64 0, .bool false, .bool false, .bool false]) (by simp [results, Tryd.results43, go_sem]) rfl ⟨rfl, ?_⟩; exact (Below.refl _ _).alloc (Nat.le_refl _) _
  by_cases h11 : k = 11
  · subst h11; go_enter Tryd.func43, Tryd.ntmps43; go_wp2; refine bodyPost_ret (v := .agg #[.int .i64 1, .int .i64 0, .bool false, .bool false, .bool false]) (by simp [results, Tryd.results43, go_sem]) rfl ⟨rfl, ?_⟩; exact (Below.refl _ _).alloc (Nat.le_refl _) _
  by_cases h12 : k = 12
  · subst h12; go_enter Tryd.func43, Tryd.ntmps43; go_wp2; refine bodyPost_ret (v := .agg #[.int .i64 0, .int .i64 0, .bool false, .bool false, .bool true]) (by simp [results, Tryd.results43, go_sem]) rfl ⟨rfl, ?_⟩; exact (Below.refl _ _).alloc (Nat.le_refl _) _
  by_cases h13 : k = 13
  · subst h13; go_enter Tryd.func43, Tryd.ntmps43; go_wp2; refine bodyPost_ret (v := .agg #[.int .i64 2, .int .i64 0, .bool false, .bool false, .bool false]) (by simp [results, Tryd.results43, go_sem]) rfl ⟨rfl, ?_⟩; exact (Below.refl _ _).alloc (Nat.le_refl _) _
  by_cases h14 : k = 14
  · subst h14; go_enter Tryd.func43, Tryd.ntmps43; go_wp2; refine bodyPost_ret (v := .agg #[.int .i64 3, .int .i64 0, .bool true, .bool true, .bool false]) (by simp [results, Tryd.results43, go_sem]) rfl ⟨rfl, ?_⟩; exact (Below.refl _ _).alloc (Nat.le_refl _) _
  by_cases h15 : k = 15
  · subst h15; go_enter Tryd.func43, Tryd.ntmps43; go_wp2; refine bodyPost_ret (v := .agg #[.int .i64 2, .int .i64 1, .bool false, .bool false, .bool false]) (by simp [results, Tryd.results43, go_sem]) rfl ⟨rfl, ?_⟩; exact (Below.refl _ _).alloc (Nat.le_refl _) _
  by_cases h16 : k = 16
  · subst h16; go_enter Tryd.func43, Tryd.ntmps43; go_wp2; refine bodyPost_ret (v := .agg #[.int .i64 1, .int .i64 0, .bool false, .bool false, .bool true]) (by simp [results, Tryd.results43, go_sem]) rfl ⟨rfl, ?_⟩; exact (Below.refl _ _).alloc (Nat.le_refl _) _
  by_cases h17 : k = 17
  · subst h17; go_enter Tryd.func43, Tryd.ntmps43; go_wp2; refine bodyPost_ret (v := .agg #[.int .i64 2, .int .i64 0, .bool true, .bool false, .bool false]) (by simp [results, Tryd.results43, go_sem]) rfl ⟨rfl, ?_⟩; exact (Below.refl _ _).alloc (Nat.le_refl _) _
  have e1 : ofP k = -1 := by unfold ofP kOk; rw [decide_eq_false (by omega)]; rfl
  have e2 : ofN k = 0 := by unfold ofN; rw [if_neg (by omega)]
  have e3 : ofS k = false := by unfold ofS; rw [decide_eq_false (by omega)]
  have e4 : ofZ k = false := by unfold ofZ; rw [decide_eq_false (by omega)]
  have e5 : shT k = false := by unfold shT; rw [decide_eq_false (by omega)]
  rw [e1, e2, e3, e4, e5]
  have b1 : (k == 1) = false := beq_eq_false_iff_ne.2 h1
  have b2 : (k == 2) = false := beq_eq_false_iff_ne.2 h2
  have b3 : (k == 3) = false := beq_eq_false_iff_ne.2 h3
  have b4 : (k == 4) = false := beq_eq_false_iff_ne.2 h4
  have b5 : (k == 5) = false := beq_eq_false_iff_ne.2 h5
  have b6 : (k == 6) = false := beq_eq_false_iff_ne.2 h6
  have b7 : (k == 7) = false := beq_eq_false_iff_ne.2 h7
  have b8 : (k == 8) = false := beq_eq_false_iff_ne.2 h8
  have b9 : (k == 9) = false := beq_eq_false_iff_ne.2 h9
  have b10 : (k == 10) = false := beq_eq_false_iff_ne.2 h10
  have b11 : (k == 11) = false := beq_eq_false_iff_ne.2 h11
  have b12 : (k == 12) = false := beq_eq_false_iff_ne.2 h12
  have b13 : (k == 13) = false := beq_eq_false_iff_ne.2 h13
  have b14 : (k == 14) = false := beq_eq_false_iff_ne.2 h14
  have b15 : (k == 15) = false := beq_eq_false_iff_ne.2 h15
  have b16 : (k == 16) = false := beq_eq_false_iff_ne.2 h16
  have b17 : (k == 17) = false := beq_eq_false_iff_ne.2 h17
  clear e1 e2 e3 e4 e5 h1 h2 h3 h4 h5 h6 h7 h8 h9 h10 h11 h12 h13 h14 h15 h16 h17
  go_enter Tryd.func43, Tryd.ntmps43; go_wp2; refine bodyPost_ret (v := .agg #[.int .i64 (-1), .int .i64 0, .bool false, .bool false, .bool false]) (by simp [results, Tryd.results43, go_sem]) rfl ⟨rfl, ?_⟩; exact (Below.refl _ _).alloc (Nat.le_refl _) _

def numL (k : Int) : Int := if k = 1 then -1000000 else if k = 15 then 1 else 0
def numB (k n : Int) : Bool := inB n (shL k) (shM k)
set_option maxHeartbeats 1000000 in
theorem l2Number_any (k n : Int) (v2 v3 v4 v5 v6 v7 v8 : Value) (w : World) : Calls Tryd.prog 44 #[.agg #[.int .i64 k, .int .i64 n, v2, v3, v4, v5, v6, v7, v8]] w fun e w' => e = .returned (.bool (numB k n)) ∧ Below w.heap.size w w' := by
  have hb0 : Below w.heap.size w (w.alloc (.cells #[.int .i64 k, .int .i64 n, v2, v3, v4, v5, v6, v7, v8] 35)) := (Below.refl _ _).alloc (Nat.le_refl _) _
  by_cases h1 : k = 1
  · subst h1
    go_enter Tryd.func44, Tryd.ntmps44
    go_wp2_with fail
    refine (l1In_gen _ _ _ _).mono ?_
    rintro e w' ⟨rfl, rfl⟩
    go_wp2_with fail
    go_ret
    exact ⟨rfl, hb0⟩
  by_cases h2 : k = 2
  · subst h2
    go_enter Tryd.func44, Tryd.ntmps44
    go_wp2_with fail
    refine (l1In_gen _ _ _ _).mono ?_
    rintro e w' ⟨rfl, rfl⟩
    go_wp2_with fail
    go_ret
    exact ⟨rfl, hb0⟩
  by_cases h6 : k = 6
  · subst h6
    go_enter Tryd.func44, Tryd.ntmps44
    go_wp2_with fail
    refine (l1In_gen _ _ _ _).mono ?_
    rintro e w' ⟨rfl, rfl⟩
    go_wp2_with fail
    go_ret
    exact ⟨rfl, hb0⟩
  by_cases h7 : k = 7
  · subst h7
    go_enter Tryd.func44, Tryd.ntmps44
    go_wp2_with fail
    refine (l1In_gen _ _ _ _).mono ?_
    rintro e w' ⟨rfl, rfl⟩
    go_wp2_with fail
    go_ret
    exact ⟨rfl, hb0⟩
  by_cases h15 : k = 15
  · subst h15
    go_enter Tryd.func44, Tryd.ntmps44
    go_wp2_with fail
    refine (l1In_gen _ _ _ _).mono ?_
    rintro e w' ⟨rfl, rfl⟩
    go_wp2_with fail
    go_ret
    exact ⟨rfl, hb0⟩
  have HE : Hid (numB k n = (n == 0)) := by
    show _ = _
    have e1 : shL k = 0 := by unfold shL; rw [if_neg h1, if_neg h15]
    have e2 : shM k = 0 := by unfold shM; rw [if_neg h1, if_neg h2, if_neg (by omega), if_neg h15]
    unfold numB inB; rw [e1, e2, Bool.eq_iff_iff]; simp; omega
  have b1 : (k == 1) = false := beq_eq_false_iff_ne.2 h1
  have b2 : (k == 2) = false := beq_eq_false_iff_ne.2 h2
  have b6 : (k == 6) = false := beq_eq_false_iff_ne.2 h6
  have b7 : (k == 7) = false := beq_eq_false_iff_ne.2 h7
  have b15 : (k == 15) = false := beq_eq_false_iff_ne.2 h15
  clear h1 h2 h6 h7 h15
  go_enter Tryd.func44, Tryd.ntmps44
  go_wp2_with fail
  go_ret
  exact ⟨ret_bool HE.out.symm, hb0⟩

end Go.Proofs.YtjikcckggifinaaDoor
