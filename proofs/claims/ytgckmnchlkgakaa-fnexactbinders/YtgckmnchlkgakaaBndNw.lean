/-
  What the program's 'tyParts', 'tyNodeOk', 'tyNodesWithin', 'TyNodes', 'TyOk' come to.
-/
import Derived.Test.YtgckmnchlkgakaaBndTr
import Derived.Deep.RegionWith
import Derived.Deep.QuietTactic
import Derived.BigQuiet
namespace Go.Proofs.Ytgckmnchlkgakaa
open Go.RowKit
set_option linter.unusedVariables false
set_option linter.unusedSimpArgs false

/-- How many parts a kind has; -1: it is none. -/
def parts (k : Int) : Int := if k = 1 ∨ k = 2 ∨ k = 3 then 0 else if k = 6 then 1 else if k = 4 ∨ k = 5 then 2 else -1

theorem parts_bd (k : Int) : -1 ≤ parts k ∧ parts k ≤ 2 := by unfold parts; (repeat' split) <;> omega

/-- One node, without its parts. -/
def nodeOk (k n : Int) (len : Nat) : Bool := decide ((len : Int) = parts k) && (if k = 3 then decide (0 ≤ n ∧ n < 2) else decide (n = 0))

def nodesL (f : Tr → Option Nat) : List Tr → Option Nat
  | [] => some 0
  | t :: ts => match f t, nodesL f ts with
    | some a, some b => some (a + b)
    | _, _ => none

def nodesW : Nat → Tr → Option Nat
  | 0, _ => none
  | l + 1, t => if nodeOk t.K t.N t.A.length then (nodesL (nodesW l) t.A).map (1 + ·) else none

theorem nodesL_append (f : Tr → Option Nat) (a b : List Tr) : nodesL f (a ++ b) = match nodesL f a, nodesL f b with | some x, some y => some (x + y) | _, _ => none := by
  induction a with
  | nil => simp only [List.nil_append, nodesL]; cases nodesL f b <;> simp
  | cons t a ih =>
    simp only [List.cons_append, nodesL, ih]
    cases f t <;> cases nodesL f a <;> cases nodesL f b <;> simp [Nat.add_assoc]

theorem nodesL_take (f : Tr → Option Nat) (l : List Tr) (k : Nat) (h : k < l.length) (m : Nat) (hm : nodesL f (l.take k) = some m) : nodesL f (l.take (k + 1)) = (f l[k]).map (m + ·) := by
  rw [List.take_succ_eq_append_getElem h, nodesL_append, hm]
  simp only [nodesL]
  cases f l[k] <;> simp

theorem nodesL_none (f : Tr → Option Nat) (l : List Tr) (k : Nat) (h : k < l.length) (hf : f l[k] = none) : nodesL f l = none := by
  have e : l = l.take k ++ l[k] :: l.drop (k + 1) := by simp
  rw [e, nodesL_append]
  simp only [nodesL, hf]
  cases nodesL f (l.take k) <;> rfl

theorem nodesL_le (f : Tr → Option Nat) (c : Nat) (hf : ∀ t m, f t = some m → m ≤ c) (l : List Tr) (m : Nat) (h : nodesL f l = some m) : m ≤ l.length * c := by
  induction l generalizing m with
  | nil => simp [nodesL] at h; omega
  | cons t l ih =>
    simp only [nodesL] at h
    cases h1 : f t with
    | none => simp [h1] at h
    | some a =>
      cases h2 : nodesL f l with
      | none => simp [h1, h2] at h
      | some b =>
        simp [h1, h2] at h
        have := hf t a h1
        have := ih b h2
        simp only [List.length_cons, Nat.add_mul, Nat.one_mul]
        omega

theorem nodeOk_len {k n : Int} {len : Nat} (h : nodeOk k n len = true) : len ≤ 2 := by
  simp only [nodeOk, Bool.and_eq_true, decide_eq_true_eq] at h
  have := parts_bd k
  omega

theorem nodesW_lt : ∀ (l : Nat) (t : Tr) (m : Nat), nodesW l t = some m → m + 1 ≤ 2 ^ l := by
  intro l
  induction l with
  | zero => intro t m h; simp [nodesW] at h
  | succ l ih =>
    intro t m h
    simp only [nodesW] at h
    split at h
    · rename_i hok
      cases h1 : nodesL (nodesW l) t.A with
      | none => simp [h1] at h
      | some s =>
        simp [h1] at h
        have h2 := nodesL_le (nodesW l) (2 ^ l - 1) (fun t m hm => by have := ih t m hm; omega) t.A s h1
        have h3 := nodeOk_len hok
        have h4 : t.A.length * (2 ^ l - 1) ≤ 2 * (2 ^ l - 1) := Nat.mul_le_mul_right _ h3
        have h5 : 1 ≤ 2 ^ l := Nat.one_le_two_pow
        rw [Nat.pow_succ]
        omega
    · simp at h

theorem nodesW_pos (l : Nat) (t : Tr) (m : Nat) (h : nodesW l t = some m) : 1 ≤ m := by
  cases l with
  | zero => simp [nodesW] at h
  | succ l =>
    simp only [nodesW] at h
    split at h
    · cases h1 : nodesL (nodesW l) t.A with
      | none => simp [h1] at h
      | some s => simp [h1] at h; omega
    · simp at h

set_option maxHeartbeats 400000 in
theorem tyParts_any (k : Int) (w : World) : Calls Try.prog 108 #[.int .i64 k] w fun e w' => e = .returned (.int .i64 (parts k)) ∧ w' = w := by
  by_cases h1 : k = 1
  · subst h1; go_enter Try.func108, Try.ntmps108; go_wp2; go_ret; exact ⟨rfl, rfl⟩
  by_cases h2 : k = 2
  · subst h2; go_enter Try.func108, Try.ntmps108; go_wp2; go_ret; exact ⟨rfl, rfl⟩
  by_cases h3 : k = 3
  · subst h3; go_enter Try.func108, Try.ntmps108; go_wp2; go_ret; exact ⟨rfl, rfl⟩
  by_cases h4 : k = 4
  · subst h4; go_enter Try.func108, Try.ntmps108; go_wp2; go_ret; exact ⟨rfl, rfl⟩
  by_cases h5 : k = 5
  · subst h5; go_enter Try.func108, Try.ntmps108; go_wp2; go_ret; exact ⟨rfl, rfl⟩
  by_cases h6 : k = 6
  · subst h6; go_enter Try.func108, Try.ntmps108; go_wp2; go_ret; exact ⟨rfl, rfl⟩
  have e : parts k = -1 := by unfold parts; rw [if_neg (by omega), if_neg (by omega), if_neg (by omega)]
  rw [e]
  have b1 : (k == 1) = false := beq_eq_false_iff_ne.2 h1
  have b2 : (k == 2) = false := beq_eq_false_iff_ne.2 h2
  have b3 : (k == 3) = false := beq_eq_false_iff_ne.2 h3
  have b4 : (k == 4) = false := beq_eq_false_iff_ne.2 h4
  have b5 : (k == 5) = false := beq_eq_false_iff_ne.2 h5
  have b6 : (k == 6) = false := beq_eq_false_iff_ne.2 h6
  clear e h1 h2 h3 h4 h5 h6
  go_enter Try.func108, Try.ntmps108; go_wp2; go_ret; exact ⟨rfl, rfl⟩

theorem nodeOk_no {k n : Int} {len : Nat} (h : ¬ (len : Int) = parts k) : nodeOk k n len = false := by simp [nodeOk, h]
theorem nodeOk_var {n : Int} {k : Int} {len : Nat} (hk : k = 3) (h : (len : Int) = parts k) : nodeOk k n len = decide (0 ≤ n ∧ n < 2) := by subst hk; simp [nodeOk, h]
theorem nodeOk_else {k n : Int} {len : Nat} (hk : ¬ k = 3) (h : (len : Int) = parts k) : nodeOk k n len = (n == 0) := by
  simp only [nodeOk, h, hk, decide_true, Bool.true_and, if_false]; rw [Bool.eq_iff_iff]; simp

set_option maxHeartbeats 400000 in
theorem tyNodeOk_any (k n : Int) (ao : Option Addr) (len cap : Nat) (w : World) (hl : len ≤ 9223372036854775807) :
    Calls Try.prog 107 #[.agg #[.int .i64 k, .int .i64 n, .slice ao len cap]] w fun e w' => e = .returned (.bool (nodeOk k n len)) ∧ Below w.heap.size w w' := by
  have hp := parts_bd k
  have hbel : Below w.heap.size w (w.alloc (.cells #[.int .i64 k, .int .i64 n, .slice ao len cap] 33)) := (Below.refl _ _).alloc (Nat.le_refl _) _
  by_cases hlen : (len : Int) = parts k
  · have hb : ((len : Int) != parts k) = false := by simp [hlen]
    have HL : Hid ((len : Int) = parts k) := hlen
    clear hlen
    by_cases hk : k = 3
    · have hk3 : (k == 3) = true := by simp [hk]
      have HK : Hid (k = 3) := hk
      clear hk
      go_enter Try.func107, Try.ntmps107
      go_wp2_with fail
      go_quiet ((go_at_call 108; exact Calls.quiet_of_same (tyParts_any _ _)))
      go_wp2
      all_goals
        go_ret
        exact ⟨ret_bool (by rw [nodeOk_var HK.out HL.out, Bool.eq_iff_iff]; simp; omega), below_drewN hbel _⟩
    · have hk3 : (k == 3) = false := by simp [hk]
      have HK : Hid (¬ k = 3) := hk
      clear hk
      go_enter Try.func107, Try.ntmps107
      go_wp2_with fail
      go_quiet ((go_at_call 108; exact Calls.quiet_of_same (tyParts_any _ _)))
      go_wp2
      go_ret
      exact ⟨ret_bool (by rw [nodeOk_else HK.out HL.out]), below_drewN hbel _⟩
  · have hb : ((len : Int) != parts k) = true := by simp [hlen]
    have HL : Hid (¬ (len : Int) = parts k) := hlen
    clear hlen
    go_enter Try.func107, Try.ntmps107
    go_wp2_with fail
    go_quiet ((go_at_call 108; exact Calls.quiet_of_same (tyParts_any _ _)))
    go_wp2
    go_ret
    exact ⟨ret_bool (by rw [nodeOk_no HL.out]), below_drewN hbel _⟩

def SaidNW (l : Nat) : Prop := ∀ (d L B : Nat) (k n : Int) (ao : Option Addr) (len cap : Nat) (ts : List Tr) (w : World), B ≤ w.heap.size → Hs L B w d ao len ts →
    Calls Try.prog 106 #[.agg #[.int .i64 k, .int .i64 n, .slice ao len cap], .int .i64 l] w fun e w' =>
      e = .returned (.tuple #[.int .i64 ((nodesW l ⟨k, n, ts⟩).getD 0), .bool (nodesW l ⟨k, n, ts⟩).isSome]) ∧ Below w.heap.size w w'

set_option maxHeartbeats 400000 in
theorem nw_zero : SaidNW 0 := by
  intro d L B k n ao len cap ts w hB hs
  go_enter Try.func106, Try.ntmps106
  go_wp2_with fail
  go_ret2
  exact ⟨rfl, (Below.refl _ _).alloc (Nat.le_refl _) _⟩

set_option maxHeartbeats 800000 in
theorem nw_succ (l : Nat) (hl6 : l < 6) (IH : SaidNW l) : SaidNW (l + 1) := by
  intro d L B k n ao len cap ts w hB hs
  have hl := hs.len.2
  have HL : Hid (len = ts.length) := hs.len.1
  have hbel : Below w.heap.size w (w.alloc (.cells #[.int .i64 k, .int .i64 n, .slice ao len cap] 33)) := (Below.refl _ _).alloc (Nat.le_refl _) _
  have hl0 : (((l : Int) + 1) == 0) = false := by simp; omega
  cases hok : nodeOk k n len with
  | false =>
    have HO : Hid (nodesW (l + 1) ⟨k, n, ts⟩ = none) := by show _ = _; simp only [nodesW]; rw [← HL.out, hok]; rfl
    have HK : Hid (nodeOk k n len = false) := hok
    clear hok
    go_enter Try.func106, Try.ntmps106
    go_wp2_with fail
    refine (tyNodeOk_any _ _ _ _ _ _ hl).mono ?_
    rintro e w1 ⟨rfl, hb1⟩
    rw [HK.out]
    go_wp2_with fail
    go_ret2
    rw [HO.out]
    exact ⟨rfl, hbel.trans (hb1.mono (by simp))⟩
  | true =>
    have HO : Hid (nodesW (l + 1) ⟨k, n, ts⟩ = (nodesL (nodesW l) ts).map (1 + ·)) := by show _ = _; simp only [nodesW]; rw [← HL.out, hok]; rfl
    have hlen2 := nodeOk_len hok
    have HK : Hid (nodeOk k n len = true) := hok
    clear hok
    go_enter Try.func106, Try.ntmps106
    go_wp2_with fail
    refine (tyNodeOk_any _ _ _ _ _ _ hl).mono ?_
    rintro e w1 ⟨rfl, hb1⟩
    rw [HK.out]
    have hbelw : Below w.heap.size w w1 := hbel.trans (hb1.mono (by simp))
    have hsz1 := hb1.size
    have f2 := bcell hb1 (b := w.heap.size) (by simp) 2
    simp at hsz1 f2
    clear hbel
    go_wp2_with fail
    go_loopw [6, 21] (fun v i wr => ∃ j m : Nat, j ≤ len ∧ i = .int .i64 j ∧ Hid (nodesL (nodesW l) (ts.take j) = some m) ∧ v = .int .i64 (1 + m) ∧ m ≤ 63 * j ∧ Below w1.heap.size w1 wr) (fun _ i _ => len - (intOf i).toNat)
    case atStart => exact ⟨0, 0, by omega, rfl, rfl, rfl, by omega, Below.refl _ _⟩
    case round =>
      obtain ⟨j, m, hj, rfl, HM, rfl, hm, hbr⟩ := hrel
      have hszr := hbr.size
      by_cases hlt : j < len
      · have hlt' : j < ts.length := by have := HL.out; omega
        obtain ⟨b, o, rfl, _, hbB, ao1, len1, cap1, c0, c1, c2, hs1⟩ := hs.get j hlt'
        have hbw : Below w.heap.size w wr := hbelw.trans (hbr.mono (by omega))
        have e0 := (bcell hbw (by omega) _).trans c0
        have e1 := (bcell hbw (by omega) _).trans c1
        have e2 := (bcell hbw (by omega) _).trans c2
        have hba : Below w.heap.size w (wr.alloc (.cells #[.int .i64 ts[j].K, .int .i64 ts[j].N, .slice ao1 len1 cap1] 33)) := hbw.alloc (by omega) _
        have hs2 := hs1.below hba hB
        have HF := nodesL_take (nodesW l) ts j hlt' m HM.out
        cases hf : nodesW l ts[j] with
        | none =>
          have HN : Hid (nodesL (nodesW l) ts = none) := nodesL_none _ _ j hlt' hf
          have HF : Hid (nodesW l ⟨ts[j].K, ts[j].N, ts[j].A⟩ = none) := by show _ = _; rw [tr_eta]; exact hf
          clear hf
          go_wp2_with fail
          refine (IH _ _ _ _ _ _ _ _ _ _ (by simp; omega) hs2).mono ?_
          rintro e w2 ⟨rfl, hb2⟩
          rw [HF.out]
          go_wp2_with fail
          go_ret2
          rw [HO.out, HN.out]
          exact ⟨rfl, hba.trans (hb2.mono (by simp; omega))⟩
        | some a =>
          have ha := nodesW_lt _ _ _ hf
          have ha6 : 2 ^ l ≤ 2 ^ 6 := Nat.pow_le_pow_right (by omega) (by omega)
          rw [hf] at HF
          have HF2 : Hid (nodesL (nodesW l) (ts.take (j + 1)) = some (m + a)) := HF
          have HF1 : Hid (nodesW l ⟨ts[j].K, ts[j].N, ts[j].A⟩ = some a) := by show _ = _; rw [tr_eta]; exact hf
          clear hf HF
          go_wp2_with fail
          refine (IH _ _ _ _ _ _ _ _ _ _ (by simp; omega) hs2).mono ?_
          rintro e w2 ⟨rfl, hb2⟩
          rw [HF1.out]
          have hbr2 : Below w1.heap.size w1 w2 := (hbr.alloc (by omega) _).trans (hb2.mono (by simp; omega))
          simp only [Option.getD_some, Option.isSome_some]
          go_wp2_with fail
          go_roundw
          case rel => exact ⟨j + 1, m + a, by omega, by go_num, HF2, by go_num, by omega, hbr2⟩
          case measure => simp [intOf]; omega
      · have HK2 : Hid (nodesL (nodesW l) ts = some m) := by have h1 := HL.out; have h2 := HM.out; rw [List.take_of_length_le (by omega)] at h2; exact h2
        go_wp2_with fail
        go_ret2
        rw [HO.out, HK2.out]
        exact ⟨rfl, hbelw.trans (hbr.mono (by omega))⟩

theorem nw_any : ∀ l, l ≤ 6 → SaidNW l := by
  intro l
  induction l with
  | zero => intro _; exact nw_zero
  | succ l ih => intro h; exact nw_succ l (by omega) (ih (by omega))

/-- How many nodes it has, 0 of what is not right. -/
def nodesT (t : Tr) : Nat := match nodesW 6 t with | some m => if m ≤ 60 then m else 0 | none => 0
def okT (t : Tr) : Bool := decide (0 < nodesT t)

set_option maxHeartbeats 400000 in
theorem tyNodes_any (d L B : Nat) (k n : Int) (ao : Option Addr) (len cap : Nat) (ts : List Tr) (w : World) (hB : B ≤ w.heap.size) (hs : Hs L B w d ao len ts) :
    Calls Try.prog 105 #[.agg #[.int .i64 k, .int .i64 n, .slice ao len cap]] w fun e w' => e = .returned (.int .i64 (nodesT ⟨k, n, ts⟩)) ∧ Below w.heap.size w w' := by
  have hbel : Below w.heap.size w (w.alloc (.cells #[.int .i64 k, .int .i64 n, .slice ao len cap] 33)) := (Below.refl _ _).alloc (Nat.le_refl _) _
  have hs1 := hs.below hbel hB
  cases hf : nodesW 6 ⟨k, n, ts⟩ with
  | none =>
    have HN : Hid (nodesT ⟨k, n, ts⟩ = 0) := by show _ = _; simp [nodesT, hf]
    have HF : Hid (nodesW 6 ⟨k, n, ts⟩ = none) := hf
    clear hf
    go_enter Try.func105, Try.ntmps105
    go_wp2_with fail
    refine (nw_any 6 (by omega) _ _ _ _ _ _ _ _ _ _ (by simp; omega) hs1).mono ?_
    rintro e w2 ⟨rfl, hb2⟩
    rw [HF.out]
    simp only [Option.getD_none, Option.isSome_none]
    go_wp2_with fail
    go_ret
    rw [HN.out]
    exact ⟨rfl, hbel.trans (hb2.mono (by simp))⟩
  | some m =>
    have hm := nodesW_lt _ _ _ hf
    have hm6 : m ≤ 63 := by omega
    by_cases h60 : m ≤ 60
    · have HN : Hid (nodesT ⟨k, n, ts⟩ = m) := by show _ = _; simp [nodesT, hf, h60]
      have HF : Hid (nodesW 6 ⟨k, n, ts⟩ = some m) := hf
      clear hf hm
      go_enter Try.func105, Try.ntmps105
      go_wp2_with fail
      refine (nw_any 6 (by omega) _ _ _ _ _ _ _ _ _ _ (by simp; omega) hs1).mono ?_
      rintro e w2 ⟨rfl, hb2⟩
      rw [HF.out]
      simp only [Option.getD_some, Option.isSome_some]
      go_wp2_with fail
      go_ret
      rw [HN.out]
      exact ⟨rfl, hbel.trans (hb2.mono (by simp))⟩
    · have HN : Hid (nodesT ⟨k, n, ts⟩ = 0) := by show _ = _; simp [nodesT, hf, h60]
      have HF : Hid (nodesW 6 ⟨k, n, ts⟩ = some m) := hf
      clear hf hm
      go_enter Try.func105, Try.ntmps105
      go_wp2_with fail
      refine (nw_any 6 (by omega) _ _ _ _ _ _ _ _ _ _ (by simp; omega) hs1).mono ?_
      rintro e w2 ⟨rfl, hb2⟩
      rw [HF.out]
      simp only [Option.getD_some, Option.isSome_some]
      go_wp2_with fail
      go_ret
      rw [HN.out]
      exact ⟨rfl, hbel.trans (hb2.mono (by simp))⟩

set_option maxHeartbeats 400000 in
theorem tyOk_any (d L B : Nat) (k n : Int) (ao : Option Addr) (len cap : Nat) (ts : List Tr) (w : World) (hB : B ≤ w.heap.size) (hs : Hs L B w d ao len ts) :
    Calls Try.prog 103 #[.agg #[.int .i64 k, .int .i64 n, .slice ao len cap]] w fun e w' => e = .returned (.bool (okT ⟨k, n, ts⟩)) ∧ Below w.heap.size w w' := by
  have hbel : Below w.heap.size w (w.alloc (.cells #[.int .i64 k, .int .i64 n, .slice ao len cap] 33)) := (Below.refl _ _).alloc (Nat.le_refl _) _
  have hs1 := hs.below hbel hB
  go_enter Try.func103, Try.ntmps103
  go_wp2_with fail
  refine (tyNodes_any _ _ _ _ _ _ _ _ _ _ (by simp; omega) hs1).mono ?_
  rintro e w2 ⟨rfl, hb2⟩
  go_wp2_with fail
  go_ret
  exact ⟨ret_bool (by simp [okT]), hbel.trans (hb2.mono (by simp))⟩

end Go.Proofs.Ytgckmnchlkgakaa
