/-
  The model's reader of terms: signs of ops, digits.
-/
import Derived.Test.YthmmapahobkhnaaPmZ14
import Derived.Deep.Cut
import Derived.Deep.CutRange
namespace Go.Proofs.Ythmmapahobkhnaa
open Go.RowKit Go.PlainAid
set_option linter.unusedVariables false
set_option linter.unusedSimpArgs false

theorem opI_signM (k : Nat) (h1 : 1 ≤ k) (h2 : k ≤ 5) : opI (signM k) = k := by
  have : k = 1 ∨ k = 2 ∨ k = 3 ∨ k = 4 ∨ k = 5 := by omega
  rcases this with rfl | rfl | rfl | rfl | rfl <;> rfl
theorem opI_none {x : List UInt8} (h : ∀ q : Nat, 1 ≤ q → q ≤ 5 → signM q ≠ x) : opI x = 0 := by
  by_cases hx : 1 ≤ opI x
  · have h5 : opI x ≤ 5 := by unfold opI; (repeat' split) <;> decide
    refine (h (opI x).toNat (by omega) (by omega) ?_).elim
    rw [show (((opI x).toNat : Nat) : Int) = opI x by omega]
    exact (opI_sign hx).symm
  · have : 0 ≤ opI x := by unfold opI; (repeat' split) <;> decide
    omega

set_option maxRecDepth 100000 in
set_option maxHeartbeats 2000000 in
theorem l2Sign_any (x : List UInt8) (w : World) : Calls Try.prog 29 #[.string ⟨x.toArray⟩] w fun e w' => e = .returned (.int .i64 (opI x)) ∧ Below w.heap.size w w' := by
  go_enter Try.func29, Try.ntmps29
  go_wp2_with fail
  go_loopw [3] (fun i wr => ∃ k : Nat, 1 ≤ k ∧ k ≤ 6 ∧ i = .int .i64 k ∧ Hid (∀ q : Nat, 1 ≤ q → q < k → signM q ≠ x) ∧ Below w.heap.size w wr) (fun i _ => 6 - (intOf i).toNat)
  case atStart => exact ⟨1, by omega, by omega, rfl, fun q h1 h2 => by omega, Below.refl _ _⟩
  case round =>
    obtain ⟨k, hk1, hk2, rfl, HQ, hb⟩ := hrel
    have hbA : ∀ o, Below w.heap.size w (wr.alloc o) := fun o => hb.alloc hb.size _
    by_cases hlt : k ≤ 5
    · by_cases he : signM k = x
      · have HK : Hid (opI x = k) := by show _ = _; rw [← he]; exact opI_signM k hk1 hlt
        have : k = 1 ∨ k = 2 ∨ k = 3 ∨ k = 4 ∨ k = 5 := by omega
        subst he
        rcases this with rfl | rfl | rfl | rfl | rfl
        all_goals
          simp only [signM] at *
          go_wp2_with fail
          go_ret
          exact ⟨ret_int HK.out.symm, hbA _⟩
      · have HQ2 : Hid (∀ q : Nat, 1 ≤ q → q < k + 1 → signM q ≠ x) := fun q h1 h2 => by
          by_cases e : q = k
          · subst e; exact he
          · exact HQ.out q h1 (by omega)
        have : k = 1 ∨ k = 2 ∨ k = 3 ∨ k = 4 ∨ k = 5 := by omega
        have heb : (signM k == x) = false := by rw [beq_eq_false_iff_ne]; exact he
        clear he HQ
        rcases this with rfl | rfl | rfl | rfl | rfl
        · have heb : (([43] : List UInt8) == x) = false := heb
          go_wp2_with fail
          go_roundw
          case rel => exact ⟨2, by omega, by omega, by go_num, HQ2, hbA _⟩
          case measure => simp [intOf]
        · have heb : (([45] : List UInt8) == x) = false := heb
          go_wp2_with fail
          go_roundw
          case rel => exact ⟨3, by omega, by omega, by go_num, HQ2, hbA _⟩
          case measure => simp [intOf]
        · have heb : (([42] : List UInt8) == x) = false := heb
          go_wp2_with fail
          go_roundw
          case rel => exact ⟨4, by omega, by omega, by go_num, HQ2, hbA _⟩
          case measure => simp [intOf]
        · have heb : (([60] : List UInt8) == x) = false := heb
          go_wp2_with fail
          go_roundw
          case rel => exact ⟨5, by omega, by omega, by go_num, HQ2, hbA _⟩
          case measure => simp [intOf]
        · have heb : (([61] : List UInt8) == x) = false := heb
          go_wp2_with fail
          go_roundw
          case rel => exact ⟨6, by omega, by omega, by go_num, HQ2, hbA _⟩
          case measure => simp [intOf]
    · have HK : Hid (opI x = 0) := opI_none fun q h1 h2 => HQ.out q h1 (by omega)
      go_wp2_with fail
      go_ret
      exact ⟨ret_int HK.out.symm, hb⟩

/-- The number that the model reads off a token. -/
def digS (l : List UInt8) : Int := if 1 ≤ (cutM l).1.length ∧ (cutM l).1.length ≤ 7 ∧ (cutM l).1.all dgB = true then (if (cutM l).2 = true then -((valD (cutM l).1 : Nat) : Int) else ((valD (cutM l).1 : Nat) : Int)) else 9999999

theorem digS_cut {l r : List UInt8} {m : Bool} (h : cutM l = (r, m)) : digS l = if 1 ≤ r.length ∧ r.length ≤ 7 ∧ r.all dgB = true then (if m = true then -((valD r : Nat) : Int) else ((valD r : Nat) : Int)) else 9999999 := by
  unfold digS; rw [h]

theorem digS_itoa (n : Int) (h1 : -1000000 ≤ n) (h2 : n ≤ 1000000) : digS (Lib.itoa n) = n := by
  unfold Lib.itoa
  by_cases h : n < 0
  · have hp : 1 ≤ (Lib.decDigits n.natAbs).length := by
      have := dec_ne n.natAbs
      cases hd : Lib.decDigits n.natAbs with
      | nil => exact (this hd).elim
      | cons b r => simp
    have e := digS_cut (l := 45 :: Lib.decDigits n.natAbs) (r := Lib.decDigits n.natAbs) (m := true) rfl
    rw [if_pos ⟨hp, dec_len (by omega), dec_all _⟩, if_pos rfl, dec_val] at e
    rw [if_pos h, e]
    omega
  · rw [if_neg h]
    obtain ⟨b, r, hb, hb48⟩ := dec_first n.toNat
    have hne : b ≠ 45 := fun e => by rw [e] at hb48; revert hb48; decide
    have hc : cutM (Lib.decDigits n.toNat) = (Lib.decDigits n.toNat, false) := by
      rcases first45 (Lib.decDigits n.toNat) with ⟨r', e⟩ | ⟨e, _⟩
      · rw [hb] at e
        exact (hne (List.cons.inj e).1).elim
      · exact e
    rw [digS_cut hc, if_pos ⟨by rw [hb]; simp, dec_len (by omega), dec_all _⟩, if_neg (by decide), dec_val]
    omega

theorem digS_bd (l : List UInt8) : -10000000 < digS l ∧ digS l < 10000000 := by
  unfold digS
  split
  · rename_i h
    have := val_lt _ h.2.2
    have h10 : 10 ^ (cutM l).1.length ≤ 10 ^ 7 := Nat.pow_le_pow_right (by omega) h.2.1
    split <;> omega
  · omega

theorem cut_yes {s : ByteArray} (h0 : 0 < s.size) (h : bt s 0 = 45) : cutM (sb s) = ((sb s).drop 1, true) := by
  have h1 : 0 < (sb s).length := by rw [sb_len]; exact h0
  have e := bt_sb s 0 h1
  cases hs : sb s with
  | nil => rw [hs] at h1; simp at h1
  | cons b r =>
    have hb : b = 45 := by
      have e2 : (sb s)[0] = b := by simp [hs]
      rw [h, e2] at e
      apply UInt8.toNat_inj.1
      have h45 : (45 : UInt8).toNat = 45 := rfl
      omega
    subst hb
    rfl
theorem cut_no {s : ByteArray} (h : s.size = 0 ∨ bt s 0 ≠ 45) : cutM (sb s) = (sb s, false) := by
  rcases first45 (sb s) with ⟨r, e⟩ | ⟨e, _⟩
  · have h1 : 0 < (sb s).length := by rw [e]; simp
    have e1 := bt_sb s 0 h1
    have e2 : (sb s)[0] = 45 := by simp [e]
    rw [e2] at e1
    rcases h with h | h
    · rw [sb_len] at h1; omega
    · exact (h e1).elim
  · exact e

/-- The digits of a text, counted on. -/
def Dgn (r : ByteArray) (m : Bool) : Int := if 1 ≤ (sb r).length ∧ (sb r).length ≤ 7 ∧ (sb r).all dgB = true then (if m = true then -((valD (sb r) : Nat) : Int) else ((valD (sb r) : Nat) : Int)) else 9999999

set_option maxRecDepth 100000 in
set_option maxHeartbeats 1500000 in
theorem l2Digits_any (s : ByteArray) (w : World) (hl : s.size ≤ 1048577) : Calls Try.prog 28 #[.string s] w fun e w' => e = .returned (.int .i64 (digS (sb s))) ∧ w' = w := by
  have hb := get_bt s
  have hb0 := bt_nonneg s 0
  by_cases h0 : s.size = 0
  · have HD : Hid (digS (sb s) = 9999999) := by
      show _ = _
      rw [digS_cut (cut_no (Or.inl h0)), if_neg]
      rw [sb_len]
      omega
    have hgt : ¬ (0 : Int) < (s.size : Int) := by omega
    have KI := fun w => l1In3_any (s.size : Int) 1 7 false (by simp [h0]) w
    clear h0
    go_enter Try.func28, Try.ntmps28
    go_wp2_with fail
    refine (KI _).mono ?_
    rintro e w1 ⟨rfl, rfl⟩
    go_wp2_with fail
    go_ret
    exact ⟨ret_int HD.out.symm, rfl⟩
  have hgt : (0 : Int) < (s.size : Int) := by omega
  have hor : (∃ r : ByteArray, r = s.extract 1 s.size ∧ (bt s 0 == 45) = true ∧ Hid (digS (sb s) = Dgn r true) ∧ r.size ≤ 1048577) ∨ (∃ r : ByteArray, r = s ∧ (bt s 0 == 45) = false ∧ Hid (digS (sb s) = Dgn r false) ∧ r.size ≤ 1048577) := by
    by_cases hm : bt s 0 = 45
    · left
      have e := ext_rest s
      refine ⟨_, rfl, by simp [hm], ?_, ?_⟩
      · show _ = _
        rw [digS_cut (cut_yes (by omega) hm), ← e]
        rfl
      · have h2 := congrArg List.length e
        rw [sb_len, List.length_drop, sb_len] at h2
        omega
    · right
      refine ⟨_, rfl, by rw [beq_eq_false_iff_ne]; exact hm, ?_, hl⟩
      show _ = _
      rw [digS_cut (cut_no (Or.inr hm))]
      rfl
  rcases hor with ⟨r, hr, hm, HD, hrl⟩ | ⟨r, hr, hm, HD, hrl⟩
  · have HR : Hid (r = _) := hr
    clear hr
    have hbr := get_bt r
    have HL : Hid ((sb r).length = r.size) := sb_len r
    have HB : Hid (∀ k (h : k < (sb r).length), bt r k = ((sb r)[k].toNat : Int)) := bt_sb r
    by_cases hi : 1 ≤ r.size ∧ r.size ≤ 7
    case' neg =>
      have HN : Hid (digS (sb s) = 9999999) := by
        show _ = _
        rw [HD.out]
        unfold Dgn
        rw [if_neg]
        rw [HL.out]
        exact fun h => hi ⟨h.1, h.2.1⟩
      have KI := fun w => l1In3_any (r.size : Int) 1 7 false (by
        by_cases c1 : (1 : Int) ≤ r.size
        · have : ¬ (r.size : Int) ≤ 7 := by omega
          simp [this]
        · simp [c1]) w
      clear hi hbr HB HL
      go_enter Try.func28, Try.ntmps28
      go_upto_region 5 with fail
      rw [← HR.out]
      go_wp2_with fail
      refine (KI _).mono ?_
      rintro e w1 ⟨rfl, rfl⟩
      go_wp2_with fail
      go_ret
      exact ⟨ret_int HN.out.symm, rfl⟩
    have KI := fun w => l1In3_any (r.size : Int) 1 7 true (by
      have c1 : (1 : Int) ≤ r.size := by omega
      have c2 : (r.size : Int) ≤ 7 := by omega
      simp [c1, c2]) w
    have hi7 : r.size ≤ 7 := hi.2
    have HI : Hid (1 ≤ r.size) := hi.1
    clear hi
    go_enter Try.func28, Try.ntmps28
    go_upto_region 5 with fail
    rw [← HR.out]
    go_wp2_with fail
    refine (KI _).mono ?_
    rintro e w1 ⟨rfl, rfl⟩
    go_wp2_with fail
    go_loopw [4, 5] (fun n i wr => ∃ k : Nat, k ≤ r.size ∧ i = .int .i64 k ∧ n = .int .i64 ((valD ((sb r).take k) : Nat) : Int) ∧ Hid (((sb r).take k).all dgB = true) ∧ wr = w1) (fun _ i _ => r.size - (intOf i).toNat)
    case atStart => exact ⟨0, by omega, rfl, rfl, rfl, rfl⟩
    case round =>
      obtain ⟨k, hk, rfl, rfl, HA, rfl⟩ := hrel
      by_cases hlt : k < r.size
      · have hlt' : k < (sb r).length := by rw [HL.out]; exact hlt
        have HS : Hid (((sb r).take (k + 1)).all dgB = (((sb r).take k).all dgB && dgB (sb r)[k])) := take_all _ k hlt'
        have HV : Hid (valD ((sb r).take (k + 1)) = 10 * valD ((sb r).take k) + ((sb r)[k].toNat - 48)) := val_take _ k hlt'
        have hv := take_lt (sb r) k HA.out (by omega)
        have hbk := bt_nonneg r k
        obtain ⟨x, hx⟩ : ∃ x, x = bt r k := ⟨_, rfl⟩
        have hbk' : ((r[k]'hlt).toNat : Int) = x := by rw [hx]; exact hbr k hlt
        have HX : Hid (x = ((sb r)[k].toNat : Int)) := hx.trans (HB.out k hlt')
        rw [← hx] at hbk
        have hx255 : x ≤ 255 := by rw [hx]; exact bt_le r k
        have HDG : Hid (dgB (sb r)[k] = decide (48 ≤ x ∧ x ≤ 57)) := by
          show _ = _
          rw [HX.out]
          unfold dgB
          rw [decide_eq_decide]
          omega
        obtain ⟨V, hV⟩ : ∃ V, V = valD ((sb r).take k) := ⟨_, rfl⟩
        rw [← hV] at hv HV
        rw [← hV]
        have HNK : Hid (dgB (sb r)[k] = false → digS (sb s) = 9999999) := fun hd => by
          rw [HD.out]
          unfold Dgn
          rw [if_neg]
          intro h
          have := not_all (sb r) k hlt' hd
          rw [h.2.2] at this
          cases this
        clear hx hbr hV
        by_cases c1 : 48 ≤ x ∧ x ≤ 57
        · have KX := fun w => l1In3_any x 48 57 true (by simp [c1.1, c1.2]) w
          have c2 : ¬ x < 48 := by omega
          obtain ⟨c3, c4⟩ := c1
          go_wp2_with fail
          refine (KX _).mono ?_
          rintro e w2 ⟨rfl, rfl⟩
          go_wp2_with fail
          go_roundw
          case rel => exact ⟨k + 1, by omega, by go_num, (by rw [HV.out]; have := HX.out; go_num), (by show _ = _; rw [HS.out, HA.out, HDG.out]; simp; omega), (by trivial)⟩
          case measure => simp [intOf]; omega
        · have HN : Hid (digS (sb s) = 9999999) := HNK.out (by rw [HDG.out, decide_eq_false_iff_not]; exact c1)
          have KX := fun w => l1In3_any x 48 57 false (by
            by_cases q1 : (48 : Int) ≤ x
            · have : ¬ x ≤ 57 := by omega
              simp [this]
            · simp [q1]) w
          clear c1
          go_wp2_with fail
          refine (KX _).mono ?_
          rintro e w2 ⟨rfl, rfl⟩
          go_wp2_with fail
          go_ret
          exact ⟨ret_int HN.out.symm, rfl⟩
      · have HT : Hid ((sb r).take k = sb r) := by show _ = _; exact List.take_of_length_le (by rw [HL.out]; omega)
        have HN : Hid (digS (sb s) = -((valD (sb r) : Nat) : Int)) := by
          show _ = _
          rw [HD.out]
          unfold Dgn
          have ha := HA.out
          rw [HT.out] at ha
          rw [if_pos ⟨by rw [HL.out]; exact HI.out, by rw [HL.out]; exact hi7, ha⟩]
          exact if_pos rfl
        have hv := take_lt (sb r) k HA.out (by omega)
        rw [HT.out] at *
        go_wp2_with fail
        go_ret
        exact ⟨ret_int HN.out.symm, rfl⟩
  · subst hr
    clear hb
    have hbr := get_bt r
    have HL : Hid ((sb r).length = r.size) := sb_len r
    have HB : Hid (∀ k (h : k < (sb r).length), bt r k = ((sb r)[k].toNat : Int)) := bt_sb r
    by_cases hi : 1 ≤ r.size ∧ r.size ≤ 7
    case' neg =>
      have HN : Hid (digS (sb r) = 9999999) := by
        show _ = _
        rw [HD.out]
        unfold Dgn
        rw [if_neg]
        rw [HL.out]
        exact fun h => hi ⟨h.1, h.2.1⟩
      have KI := fun w => l1In3_any (r.size : Int) 1 7 false (by
        by_cases c1 : (1 : Int) ≤ r.size
        · have : ¬ (r.size : Int) ≤ 7 := by omega
          simp [this]
        · simp [c1]) w
      clear hi HB HL
      go_enter Try.func28, Try.ntmps28
      go_upto_region 5 with fail
      go_wp2_with fail
      refine (KI _).mono ?_
      rintro e w1 ⟨rfl, rfl⟩
      go_wp2_with fail
      go_ret
      exact ⟨ret_int HN.out.symm, rfl⟩
    have KI := fun w => l1In3_any (r.size : Int) 1 7 true (by
      have c1 : (1 : Int) ≤ r.size := by omega
      have c2 : (r.size : Int) ≤ 7 := by omega
      simp [c1, c2]) w
    have hi7 : r.size ≤ 7 := hi.2
    have HI : Hid (1 ≤ r.size) := hi.1
    clear hi
    go_enter Try.func28, Try.ntmps28
    go_upto_region 5 with fail
    go_wp2_with fail
    refine (KI _).mono ?_
    rintro e w1 ⟨rfl, rfl⟩
    go_wp2_with fail
    go_loopw [4, 5] (fun n i wr => ∃ k : Nat, k ≤ r.size ∧ i = .int .i64 k ∧ n = .int .i64 ((valD ((sb r).take k) : Nat) : Int) ∧ Hid (((sb r).take k).all dgB = true) ∧ wr = w1) (fun _ i _ => r.size - (intOf i).toNat)
    case atStart => exact ⟨0, by omega, rfl, rfl, rfl, rfl⟩
    case round =>
      obtain ⟨k, hk, rfl, rfl, HA, rfl⟩ := hrel
      by_cases hlt : k < r.size
      · have hlt' : k < (sb r).length := by rw [HL.out]; exact hlt
        have HS : Hid (((sb r).take (k + 1)).all dgB = (((sb r).take k).all dgB && dgB (sb r)[k])) := take_all _ k hlt'
        have HV : Hid (valD ((sb r).take (k + 1)) = 10 * valD ((sb r).take k) + ((sb r)[k].toNat - 48)) := val_take _ k hlt'
        have hv := take_lt (sb r) k HA.out (by omega)
        have hbk := bt_nonneg r k
        obtain ⟨x, hx⟩ : ∃ x, x = bt r k := ⟨_, rfl⟩
        have hbk' : ((r[k]'hlt).toNat : Int) = x := by rw [hx]; exact hbr k hlt
        have HX : Hid (x = ((sb r)[k].toNat : Int)) := hx.trans (HB.out k hlt')
        rw [← hx] at hbk
        have hx255 : x ≤ 255 := by rw [hx]; exact bt_le r k
        have HDG : Hid (dgB (sb r)[k] = decide (48 ≤ x ∧ x ≤ 57)) := by
          show _ = _
          rw [HX.out]
          unfold dgB
          rw [decide_eq_decide]
          omega
        obtain ⟨V, hV⟩ : ∃ V, V = valD ((sb r).take k) := ⟨_, rfl⟩
        rw [← hV] at hv HV
        rw [← hV]
        have HNK : Hid (dgB (sb r)[k] = false → digS (sb r) = 9999999) := fun hd => by
          rw [HD.out]
          unfold Dgn
          rw [if_neg]
          intro h
          have := not_all (sb r) k hlt' hd
          rw [h.2.2] at this
          cases this
        clear hx hbr hV
        by_cases c1 : 48 ≤ x ∧ x ≤ 57
        · have KX := fun w => l1In3_any x 48 57 true (by simp [c1.1, c1.2]) w
          have c2 : ¬ x < 48 := by omega
          obtain ⟨c3, c4⟩ := c1
          go_wp2_with fail
          refine (KX _).mono ?_
          rintro e w2 ⟨rfl, rfl⟩
          go_wp2_with fail
          go_roundw
          case rel => exact ⟨k + 1, by omega, by go_num, (by rw [HV.out]; have := HX.out; go_num), (by show _ = _; rw [HS.out, HA.out, HDG.out]; simp; omega), (by trivial)⟩
          case measure => simp [intOf]; omega
        · have HN : Hid (digS (sb r) = 9999999) := HNK.out (by rw [HDG.out, decide_eq_false_iff_not]; exact c1)
          have KX := fun w => l1In3_any x 48 57 false (by
            by_cases q1 : (48 : Int) ≤ x
            · have : ¬ x ≤ 57 := by omega
              simp [this]
            · simp [q1]) w
          clear c1
          go_wp2_with fail
          refine (KX _).mono ?_
          rintro e w2 ⟨rfl, rfl⟩
          go_wp2_with fail
          go_ret
          exact ⟨ret_int HN.out.symm, rfl⟩
      · have HT : Hid ((sb r).take k = sb r) := by show _ = _; exact List.take_of_length_le (by rw [HL.out]; omega)
        have HN : Hid (digS (sb r) = ((valD (sb r) : Nat) : Int)) := by
          show _ = _
          rw [HD.out]
          unfold Dgn
          have ha := HA.out
          rw [HT.out] at ha
          rw [if_pos ⟨by rw [HL.out]; exact HI.out, by rw [HL.out]; exact hi7, ha⟩]
          exact if_neg (by decide)
        have hv := take_lt (sb r) k HA.out (by omega)
        rw [HT.out] at *
        go_wp2_with fail
        go_ret
        exact ⟨ret_int HN.out.symm, rfl⟩

end Go.Proofs.Ythmmapahobkhnaa
