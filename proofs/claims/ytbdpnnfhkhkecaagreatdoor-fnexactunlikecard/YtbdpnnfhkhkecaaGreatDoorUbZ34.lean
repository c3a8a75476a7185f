/-
  The model's 'l2Int': a number as text; 'l2Word'.
-/
import Derived.Test.YtbdpnnfhkhkecaaGreatDoorUbZ4
import Derived.Laws.IdiomStrings
import Derived.Deep.RegionLaw
import Derived.Test.YtbdpnnfhkhkecaaGreatDoorUbTi
import Derived.Test.YtbdpnnfhkhkecaaGreatDoorUbZ10
namespace Go.Proofs.YtbdpnnfhkhkecaaGreatDoor
open Go.RowKit
set_option linter.unusedVariables false
set_option linter.unusedSimpArgs false

theorem conv_any (w : World) (g : Nat) (b : UInt8) (x : Int) (hx : x = (b.toNat : Int)) (hc : w.cell? ⟨g, 0, none⟩ = some (.int .u8 x)) : (convert 41 9 (.slice (some ⟨g, 0, none⟩) 1 1)).run Tryz.prog w = .ok (.string ⟨#[b]⟩) w := by
  refine run_convert_bytes_back _ _ _ _ ⟨g, 0, none⟩ 1 [b] Tryz.underlying41 Tryz.underlying5 Tryz.underlying9 ?_
  intro j hj
  have hj0 : j = 0 := by simpa using hj
  subst hj0
  show w.cell? ⟨g, 0, none⟩ = _
  rw [hc, hx]
  rfl

set_option maxRecDepth 100000 in
set_option maxHeartbeats 1000000 in
theorem li_ten (u : Nat) (hu : u < 10) (w : World) : Calls Tryz.prog 60 #[.int .i64 (u : Int)] w fun e w' => e = .returned (.string ⟨(Lib.decDigits u).toArray⟩) ∧ Below w.heap.size w w' := by
  have h : u = 0 ∨ u = 1 ∨ u = 2 ∨ u = 3 ∨ u = 4 ∨ u = 5 ∨ u = 6 ∨ u = 7 ∨ u = 8 ∨ u = 9 := by omega
  have HD : Hid (Lib.decDigits u = [UInt8.ofNat (48 + u)]) := Lib.decDigits_one hu
  clear hu
  rcases h with rfl | rfl | rfl | rfl | rfl | rfl | rfl | rfl | rfl | rfl
  · have hcv := conv_any (w.alloc (.cells #[.int .u8 48] 5)) w.heap.size 48 48 rfl (row_cell (heap_new rfl) 0)
    go_enter Tryz.func60, Tryz.ntmps60
    go_wp2_with fail
    go_ret
    exact ⟨by rw [HD.out]; rfl, (Below.refl _ _).alloc (Nat.le_refl _) _⟩
  · have hcv := conv_any (w.alloc (.cells #[.int .u8 49] 5)) w.heap.size 49 49 rfl (row_cell (heap_new rfl) 0)
    go_enter Tryz.func60, Tryz.ntmps60
    go_wp2_with fail
    go_ret
    exact ⟨by rw [HD.out]; rfl, (Below.refl _ _).alloc (Nat.le_refl _) _⟩
  · have hcv := conv_any (w.alloc (.cells #[.int .u8 50] 5)) w.heap.size 50 50 rfl (row_cell (heap_new rfl) 0)
    go_enter Tryz.func60, Tryz.ntmps60
    go_wp2_with fail
    go_ret
    exact ⟨by rw [HD.out]; rfl, (Below.refl _ _).alloc (Nat.le_refl _) _⟩
  · have hcv := conv_any (w.alloc (.cells #[.int .u8 51] 5)) w.heap.size 51 51 rfl (row_cell (heap_new rfl) 0)
    go_enter Tryz.func60, Tryz.ntmps60
    go_wp2_with fail
    go_ret
    exact ⟨by rw [HD.out]; rfl, (Below.refl _ _).alloc (Nat.le_refl _) _⟩
  · have hcv := conv_any (w.alloc (.cells #[.int .u8 52] 5)) w.heap.size 52 52 rfl (row_cell (heap_new rfl) 0)
    go_enter Tryz.func60, Tryz.ntmps60
    go_wp2_with fail
    go_ret
    exact ⟨by rw [HD.out]; rfl, (Below.refl _ _).alloc (Nat.le_refl _) _⟩
  · have hcv := conv_any (w.alloc (.cells #[.int .u8 53] 5)) w.heap.size 53 53 rfl (row_cell (heap_new rfl) 0)
    go_enter Tryz.func60, Tryz.ntmps60
    go_wp2_with fail
    go_ret
    exact ⟨by rw [HD.out]; rfl, (Below.refl _ _).alloc (Nat.le_refl _) _⟩
  · have hcv := conv_any (w.alloc (.cells #[.int .u8 54] 5)) w.heap.size 54 54 rfl (row_cell (heap_new rfl) 0)
    go_enter Tryz.func60, Tryz.ntmps60
    go_wp2_with fail
    go_ret
    exact ⟨by rw [HD.out]; rfl, (Below.refl _ _).alloc (Nat.le_refl _) _⟩
  · have hcv := conv_any (w.alloc (.cells #[.int .u8 55] 5)) w.heap.size 55 55 rfl (row_cell (heap_new rfl) 0)
    go_enter Tryz.func60, Tryz.ntmps60
    go_wp2_with fail
    go_ret
    exact ⟨by rw [HD.out]; rfl, (Below.refl _ _).alloc (Nat.le_refl _) _⟩
  · have hcv := conv_any (w.alloc (.cells #[.int .u8 56] 5)) w.heap.size 56 56 rfl (row_cell (heap_new rfl) 0)
    go_enter Tryz.func60, Tryz.ntmps60
    go_wp2_with fail
    go_ret
    exact ⟨by rw [HD.out]; rfl, (Below.refl _ _).alloc (Nat.le_refl _) _⟩
  · have hcv := conv_any (w.alloc (.cells #[.int .u8 57] 5)) w.heap.size 57 57 rfl (row_cell (heap_new rfl) 0)
    go_enter Tryz.func60, Tryz.ntmps60
    go_wp2_with fail
    go_ret
    exact ⟨by rw [HD.out]; rfl, (Below.refl _ _).alloc (Nat.le_refl _) _⟩

set_option maxRecDepth 100000 in
set_option maxHeartbeats 1000000 in
theorem li_big (q r : Nat) (hr : r < 10) (hq : 1 ≤ q) (h6 : 10 * q + r ≤ 9223372036854775807) (u : Nat) (hu : u = 10 * q + r) (IH : ∀ w, Calls Tryz.prog 60 #[.int .i64 (q : Int)] w fun e w' => e = .returned (.string ⟨(Lib.decDigits q).toArray⟩) ∧ Below w.heap.size w w') (w : World) : Calls Tryz.prog 60 #[.int .i64 (u : Int)] w fun e w' => e = .returned (.string ⟨(Lib.decDigits u).toArray⟩) ∧ Below w.heap.size w w' := by
  have h10 : ¬ (u : Int) < 10 := by omega
  have h0 : ¬ (u : Int) < 0 := by omega
  have wq : IntKind.i64.wrap ((u : Int) / 10) = (q : Int) := by rw [IntKind.wrap_i64]; omega
  have wr : (u : Int).tmod 10 = (r : Int) := by rw [Int.tmod_eq_emod_of_nonneg (by omega)]; omega
  have wr2 : IntKind.i64.wrap (48 + (r : Int)) = 48 + (r : Int) := by rw [IntKind.wrap_i64]; omega
  have wr3 : IntKind.u8.wrap (48 + (r : Int)) = 48 + (r : Int) := by simp [IntKind.wrap, IntKind.bits, IntKind.signed]; omega
  have HD : Hid (Lib.decDigits u = Lib.decDigits q ++ [UInt8.ofNat (48 + r)]) := by
    show _ = _
    rw [Lib.decDigits, dif_neg (by omega), show u / 10 = q by omega, show u % 10 = r by omega]
  have hb : (48 + (r : Int)) = ((UInt8.ofNat (48 + r)).toNat : Int) := by
    rw [UInt8.toNat_ofNat']; omega
  generalize UInt8.ofNat (48 + r) = b at HD hb
  have CV : Hid (∀ W : World, W.cell? ⟨w.heap.size, 0, none⟩ = some (.int .u8 (48 + (r : Int))) → (convert 41 9 (.slice (some ⟨w.heap.size, 0, none⟩) 1 1)).run Tryz.prog W = .ok (.string ⟨#[b]⟩) W) := fun W hc => conv_any W _ b _ hb hc
  have CV1 : Hid (∀ W : World, (convert 41 9 (.slice (some ⟨W.heap.size, 0, none⟩) 1 1)).run Tryz.prog (W.alloc (.cells #[.int .u8 (48 + (r : Int))] 5)) = .ok (.string ⟨#[b]⟩) (W.alloc (.cells #[.int .u8 (48 + (r : Int))] 5))) := fun W => conv_any _ _ b _ hb (row_cell (heap_new rfl) 0)
  have hcv := CV.out (w.alloc (.cells #[.int .u8 (48 + (r : Int))] 5)).drew (row_cell (w := w.alloc (.cells #[.int .u8 (48 + (r : Int))] 5)) (heap_new rfl) 0)
  have HBD : Hid (Below w.heap.size w w.drew) := ⟨rfl, rfl, rfl, Nat.le_refl _, fun _ _ => rfl⟩
  have hln : ¬ 9223372036854775807 < (Lib.decDigits q).length + 1 := by
    have h := Lib.itoa_length_le (q : Int) (by omega) (by omega)
    rw [Lib.itoa_nonneg] at h
    omega
  clear hb hu hq h6
  go_enter Tryz.func60, Tryz.ntmps60
  go_wp2_with fail
  go_region_law (go_simp; go_at_call 60; refine (IH _).mono ?_; rintro e w5 ⟨rfl, hb5⟩; have hcv5 := CV1.out w5; first | (have hd5 := HBD.out.trans (hb5.mono HBD.out.size)) | (have hd5 := (HBD.out.alloc (Nat.le_refl _) _).trans (hb5.mono (by simp)); have hcv6 := CV.out w5 ((hb5.cell (by simp)).trans (row_cell (heap_new rfl) 0))))
  all_goals
    go_wp2_with fail
    go_ret
    exact ⟨by rw [HD.out, ← str_add]; rfl, by first | exact hd5 | exact hd5.alloc hd5.size _⟩

theorem li_nat (u : Nat) (h6 : u ≤ 9223372036854775807) (w : World) : Calls Tryz.prog 60 #[.int .i64 (u : Int)] w fun e w' => e = .returned (.string ⟨(Lib.decDigits u).toArray⟩) ∧ Below w.heap.size w w' := by
  induction u using Nat.strongRecOn generalizing w with
  | _ u ih =>
    by_cases hu : u < 10
    · exact li_ten u hu w
    · exact li_big (u / 10) (u % 10) (by omega) (by omega) (by omega) u (by omega) (fun W => ih (u / 10) (by omega) (by omega) W) w

set_option maxRecDepth 100000 in
set_option maxHeartbeats 1000000 in
theorem li_neg (u : Nat) (h1 : 1 ≤ u) (h6 : u ≤ 1000000) (w : World) : Calls Tryz.prog 60 #[.int .i64 (-(u : Int))] w fun e w' => e = .returned (.string ⟨(45 :: Lib.decDigits u).toArray⟩) ∧ Below w.heap.size w w' := by
  have h0 : (-(u : Int)) < 0 := by omega
  have wq : IntKind.i64.wrap (u : Int) = (u : Int) := by rw [IntKind.wrap_i64]; omega
  have hln : ¬ 9223372036854775807 < 1 + (Lib.decDigits u).length := by
    have h := Lib.itoa_length_le (u : Int) (by omega) (by omega)
    rw [Lib.itoa_nonneg] at h
    omega
  have K := li_nat u (by omega)
  clear h1 h6
  go_enter Tryz.func60, Tryz.ntmps60
  go_wp2_with fail
  refine (K _).mono ?_
  rintro e w1 ⟨rfl, hb1⟩
  go_wp2_with fail
  go_ret
  exact ⟨by rw [show (45 :: Lib.decDigits u) = [45] ++ Lib.decDigits u from rfl, ← str_add]; rfl, hb1⟩

theorem li_any (n : Int) (h0 : -1000000 ≤ n) (h1 : n ≤ 1000000) (w : World) : Calls Tryz.prog 60 #[.int .i64 n] w fun e w' => e = .returned (.string ⟨(Lib.itoa n).toArray⟩) ∧ Below w.heap.size w w' := by
  by_cases hn : n < 0
  · obtain ⟨u, rfl⟩ : ∃ u : Nat, n = -(u : Int) := ⟨n.natAbs, by omega⟩
    rw [Lib.itoa_neg u (by omega)]
    exact li_neg u (by omega) (by omega) w
  · obtain ⟨u, rfl⟩ : ∃ u : Nat, n = (u : Int) := ⟨n.toNat, by omega⟩
    rw [Lib.itoa_nonneg]
    exact li_nat u (by omega) w

end Go.Proofs.YtbdpnnfhkhkecaaGreatDoor

/-
  What the model's 'l1In', 'l2Name' come to.
-/
namespace Go.Proofs.YtbdpnnfhkhkecaaGreatDoor
open Go.RowKit Go.PlainAid
set_option linter.unusedVariables false
set_option linter.unusedSimpArgs false

def inB (x a b : Int) : Bool := decide (a ≤ x ∧ x ≤ b)
set_option maxHeartbeats 400000 in
theorem l1In_gen (x a b : Int) (w : World) : Calls Tryz.prog 139 #[.int .i64 x, .int .i64 a, .int .i64 b] w fun e w' => e = .returned (.bool (inB x a b)) ∧ w' = w := by
  by_cases h : a ≤ x
  all_goals
    go_enter Tryz.func139, Tryz.ntmps139
    go_wp2
    go_ret
    exact ⟨ret_bool (by unfold inB; rw [Bool.eq_iff_iff]; simp; try omega), rfl⟩

/-- A plain name: one without a dot. -/
def chPl (x : Int) : Bool := isLow x || isDig x
def chF (plain : Bool) (x : Int) : Bool := if plain then chPl x else chOk x
def nameP (plain : Bool) (s : ByteArray) : Bool := decide (1 ≤ s.size) && decide (s.size ≤ 8) && isLow (bt s 0) && allB s s.size (chF plain)
theorem nameP_false (s : ByteArray) : nameP false s = nameW s := rfl

theorem chF_eq (p : Bool) (x : Int) : chF p x = (inB x 97 122 || inB x 48 57 || (!p && !(x != 46))) := by
  cases p
  · show chOk x = _
    have e : (x != 46) = !decide (x = 46) := by rw [Bool.eq_iff_iff]; simp
    rw [e, Bool.not_not, Bool.not_false, Bool.true_and]; rfl
  · show chPl x = _
    rw [Bool.not_true, Bool.false_and, Bool.or_false]; rfl

theorem nameP_size {p : Bool} {s : ByteArray} (h : ¬ (1 ≤ s.size ∧ s.size ≤ 8)) : nameP p s = false := by
  unfold nameP; rw [Bool.eq_false_iff]; intro h1; simp only [Bool.and_eq_true, decide_eq_true_eq] at h1; omega
theorem nameP_first {p : Bool} {s : ByteArray} (h : isLow (bt s 0) = false) : nameP p s = false := by simp [nameP, h]
theorem nameP_all {p : Bool} {s : ByteArray} (h1 : 1 ≤ s.size) (h8 : s.size ≤ 8) (h : isLow (bt s 0) = true) : nameP p s = allB s s.size (chF p) := by simp [nameP, h1, h8, h]

set_option maxHeartbeats 1000000 in
theorem l2Name_any (p : Bool) (s : ByteArray) (w : World) (hs : s.size ≤ 9223372036854775807) : Calls Tryz.prog 112 #[.string s, .bool p] w fun e w' => e = .returned (.bool (nameP p s)) ∧ w' = w := by
  have hb := get_bt s
  have hb0 := bt_nonneg s 0
  have hb1 := bt_le s 0
  by_cases h18 : 1 ≤ s.size ∧ s.size ≤ 8
  case' neg =>
    have HN : Hid (nameP p s = false) := nameP_size h18
    have HI : Hid (inB s.size 1 8 = false) := by show _ = _; unfold inB; rw [decide_eq_false]; omega
    go_enter Tryz.func112, Tryz.ntmps112
    go_wp2_with (go_at_call 139; refine (l1In_gen _ _ _ _).mono ?_; rintro e w' ⟨rfl, rfl⟩; rw [HI.out])
    go_ret
    exact ⟨ret_bool HN.out.symm, rfl⟩
  have HI : Hid (inB s.size 1 8 = true) := by show _ = _; unfold inB; rw [decide_eq_true]; omega
  obtain ⟨h1, h8⟩ := h18
  cases hlo : isLow (bt s 0)
  · have HN : Hid (nameP p s = false) := nameP_first hlo
    have HI2 : Hid (inB (bt s 0) 97 122 = false) := hlo
    clear hlo
    go_enter Tryz.func112, Tryz.ntmps112
    go_wp2_with (go_at_call 139; refine (l1In_gen _ _ _ _).mono ?_; rintro e w' ⟨rfl, rfl⟩; first | rw [HI.out] | rw [HI2.out])
    go_ret
    exact ⟨ret_bool HN.out.symm, rfl⟩
  have HN : Hid (nameP p s = allB s s.size (chF p)) := nameP_all h1 h8 hlo
  have HI2 : Hid (inB (bt s 0) 97 122 = true) := hlo
  clear hlo
  go_enter Tryz.func112, Tryz.ntmps112
  go_wp2_with (go_at_call 139; refine (l1In_gen _ _ _ _).mono ?_; rintro e w2 ⟨rfl, hw2⟩; rw [hw2]; clear hw2 w2; first | rw [HI.out] | rw [HI2.out])
  go_loopw [5] (fun i wr => ∃ k : Nat, k ≤ s.size ∧ i = .int .i64 k ∧ Hid (allB s k (chF p) = true) ∧ wr = w) (fun i _ => s.size - (intOf i).toNat)
  case atStart => exact ⟨0, by omega, rfl, rfl, rfl⟩
  case round =>
    obtain ⟨k, hk, rfl, HA, rfl⟩ := hrel
    by_cases hlt : k < s.size
    · have HS : Hid (allB s (k + 1) (chF p) = (allB s k (chF p) && (chF p) (bt s k))) := allB_succ s k _
      have HF : Hid ((chF p) (bt s k) = false → allB s s.size (chF p) = false) := fun hf => allB_false k hlt hf
      have hbk := bt_nonneg s k
      have hbk2 := bt_le s k
      obtain ⟨x, hx⟩ : ∃ x, x = bt s k := ⟨_, rfl⟩
      have hbk' : ((s[k]'hlt).toNat : Int) = x := by rw [hx]; exact hb k hlt
      rw [← hx] at HS HF hbk hbk2
      clear hx hb
      have HC : Hid (chF p x = (inB x 97 122 || inB x 48 57 || (!p && !(x != 46)))) := chF_eq p x
      cases hl : inB x 97 122
      all_goals cases hd : inB x 48 57
      all_goals cases hq : (x != 46)
      all_goals cases p
      all_goals
        have HL : Hid (inB x 97 122 = _) := hl
        have HD : Hid (inB x 48 57 = _) := hd
        rw [hl, hd, hq] at HC
        clear hl hd
        go_wp2_with (go_at_call 139; refine (l1In_gen _ _ _ _).mono ?_; rintro e w' ⟨rfl, rfl⟩; first | rw [HL.out] | rw [HD.out])
        first
          | (go_roundw
             case rel => exact ⟨k + 1, by omega, by go_num, (by have := HC.out; show _ = _; rw [HS.out, HA.out, this]; rfl), (by trivial)⟩
             case measure => simp [intOf]; omega)
          | (go_ret
             exact ⟨ret_bool (by rw [HN.out, HF.out (HC.out.trans rfl)]), rfl⟩)
    · have hke : k = s.size := by omega
      have HK : Hid (allB s s.size (chF p) = true) := by have := HA.out; rw [hke] at this; exact this
      clear hke
      go_wp2_with fail
      go_ret
      exact ⟨ret_bool (by rw [HN.out, HK.out]), rfl⟩

end Go.Proofs.YtbdpnnfhkhkecaaGreatDoor
