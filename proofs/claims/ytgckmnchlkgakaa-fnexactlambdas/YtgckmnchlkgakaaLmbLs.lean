/-
  What the model's 'l1In', 'l2Name' come to.
-/
import Derived.Test.YtgckmnchlkgakaaLmbTi
import Derived.Test.YtgckmnchlkgakaaLmbSp0
namespace Go.Proofs.Ytgckmnchlkgakaa
open Go.RowKit Go.PlainAid
set_option linter.unusedVariables false
set_option linter.unusedSimpArgs false

def inB (x a b : Int) : Bool := decide (a ≤ x ∧ x ≤ b)
set_option maxHeartbeats 400000 in
theorem l1In_gen (x a b : Int) (w : World) : Calls Try.prog 50 #[.int .i64 x, .int .i64 a, .int .i64 b] w fun e w' => e = .returned (.bool (inB x a b)) ∧ w' = w := by
  by_cases h : a ≤ x
  all_goals
    go_enter Try.func50, Try.ntmps50
    go_wp2
    go_ret
    exact ⟨ret_bool (by unfold inB; rw [Bool.eq_iff_iff]; simp; try omega), rfl⟩

/-- A plain name: one without a dot. -/
def chPl (x : Int) : Bool := isLow x || isDig x
def chF (plain : Bool) (x : Int) : Bool := if plain then chPl x else chOk x
def nameP (plain : Bool) (s : ByteArray) : Bool := decide (1 ≤ s.size) && decide (s.size ≤ 8) && isLow (bt s 0) && allB s s.size (chF plain)
theorem nameP_false (s : ByteArray) : nameP false s = nameW s := rfl

theorem chF_eq (p : Bool) (x : Int) : chF p x = (inB x 97 122 || inB x 48 57 || (!p && !(x != 46))) := by
  cases p
  · show chOk x = _
    have e : (x != 46) = !decide (x = 46) := by rw [Bool.eq_iff_iff]; simp
    rw [e, Bool.not_not, Bool.not_false, Bool.true_and]; rfl
  · show chPl x = _
    rw [Bool.not_true, Bool.false_and, Bool.or_false]; rfl

theorem nameP_size {p : Bool} {s : ByteArray} (h : ¬ (1 ≤ s.size ∧ s.size ≤ 8)) : nameP p s = false := by
  unfold nameP; rw [Bool.eq_false_iff]; intro h1; simp only [Bool.and_eq_true, decide_eq_true_eq] at h1; omega
theorem nameP_first {p : Bool} {s : ByteArray} (h : isLow (bt s 0) = false) : nameP p s = false := by simp [nameP, h]
theorem nameP_all {p : Bool} {s : ByteArray} (h1 : 1 ≤ s.size) (h8 : s.size ≤ 8) (h : isLow (bt s 0) = true) : nameP p s = allB s s.size (chF p) := by simp [nameP, h1, h8, h]

set_option maxHeartbeats 1000000 in
theorem l2Name_any (p : Bool) (s : ByteArray) (w : World) (hs : s.size ≤ 9223372036854775807) : Calls Try.prog 84 #[.string s, .bool p] w fun e w' => e = .returned (.bool (nameP p s)) ∧ w' = w := by
  have hb := get_bt s
  have hb0 := bt_nonneg s 0
  have hb1 := bt_le s 0
  by_cases h18 : 1 ≤ s.size ∧ s.size ≤ 8
  case' neg =>
    have HN : Hid (nameP p s = false) := nameP_size h18
    have HI : Hid (inB s.size 1 8 = false) := by show _ = _; unfold inB; rw [decide_eq_false]; omega
    go_enter Try.func84, Try.ntmps84
    go_wp2_with (go_at_call 50; refine (l1In_gen _ _ _ _).mono ?_; rintro e w' ⟨rfl, rfl⟩; rw [HI.out])
    go_ret
    exact ⟨ret_bool HN.out.symm, rfl⟩
  have HI : Hid (inB s.size 1 8 = true) := by show _ = _; unfold inB; rw [decide_eq_true]; omega
  obtain ⟨h1, h8⟩ := h18
  cases hlo : isLow (bt s 0)
  · have HN : Hid (nameP p s = false) := nameP_first hlo
    have HI2 : Hid (inB (bt s 0) 97 122 = false) := hlo
    clear hlo
    go_enter Try.func84, Try.ntmps84
    go_wp2_with (go_at_call 50; refine (l1In_gen _ _ _ _).mono ?_; rintro e w' ⟨rfl, rfl⟩; first | rw [HI.out] | rw [HI2.out])
    go_ret
    exact ⟨ret_bool HN.out.symm, rfl⟩
  have HN : Hid (nameP p s = allB s s.size (chF p)) := nameP_all h1 h8 hlo
  have HI2 : Hid (inB (bt s 0) 97 122 = true) := hlo
  clear hlo
  go_enter Try.func84, Try.ntmps84
  go_wp2_with (go_at_call 50; refine (l1In_gen _ _ _ _).mono ?_; rintro e w2 ⟨rfl, hw2⟩; rw [hw2]; clear hw2 w2; first | rw [HI.out] | rw [HI2.out])
  go_loopw [5] (fun i wr => ∃ k : Nat, k ≤ s.size ∧ i = .int .i64 k ∧ Hid (allB s k (chF p) = true) ∧ wr = w) (fun i _ => s.size - (intOf i).toNat)
  case atStart => exact ⟨0, by omega, rfl, rfl, rfl⟩
  case round =>
    obtain ⟨k, hk, rfl, HA, rfl⟩ := hrel
    by_cases hlt : k < s.size
    · have HS : Hid (allB s (k + 1) (chF p) = (allB s k (chF p) && (chF p) (bt s k))) := allB_succ s k _
      have HF : Hid ((chF p) (bt s k) = false → allB s s.size (chF p) = false) := fun hf => allB_false k hlt hf
      have hbk := bt_nonneg s k
      have hbk2 := bt_le s k
      obtain ⟨x, hx⟩ : ∃ x, x = bt s k := ⟨_, rfl⟩
      have hbk' : ((s[k]'hlt).toNat : Int) = x := by rw [hx]; exact hb k hlt
      rw [← hx] at HS HF hbk hbk2
      clear hx hb
      have HC : Hid (chF p x = (inB x 97 122 || inB x 48 57 || (!p && !(x != 46)))) := chF_eq p x
      cases hl : inB x 97 122
      all_goals cases hd : inB x 48 57
      all_goals cases hq : (x != 46)
      all_goals cases p
      all_goals
        have HL : Hid (inB x 97 122 = _) := hl
        have HD : Hid (inB x 48 57 = _) := hd
        rw [hl, hd, hq] at HC
        clear hl hd
        go_wp2_with (go_at_call 50; refine (l1In_gen _ _ _ _).mono ?_; rintro e w' ⟨rfl, rfl⟩; first | rw [HL.out] | rw [HD.out])
        first
          | (go_roundw
             case rel => exact ⟨k + 1, by omega, by go_num, (by have := HC.out; show _ = _; rw [HS.out, HA.out, this]; rfl), (by trivial)⟩
             case measure => simp [intOf]; omega)
          | (go_ret
             exact ⟨ret_bool (by rw [HN.out, HF.out (HC.out.trans rfl)]), rfl⟩)
    · have hke : k = s.size := by omega
      have HK : Hid (allB s s.size (chF p) = true) := by have := HA.out; rw [hke] at this; exact this
      clear hke
      go_wp2_with fail
      go_ret
      exact ⟨ret_bool (by rw [HN.out, HK.out]), rfl⟩

end Go.Proofs.Ytgckmnchlkgakaa
