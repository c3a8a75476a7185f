/-
  The model's 'l12Fields', 'l12Word', 'l12Heads'.
-/
import Derived.Test.YtaljpbgggembmaaDoorShxHo1
import Derived.Test.YtaljpbgggembmaaDoorShxLin
namespace Go.Proofs.YtaljpbgggembmaaDoor
open Go.RowKit
set_option linter.unusedVariables false
set_option linter.unusedSimpArgs false

/-- How many fields, or -1. -/
def cntI (x : Wrd) : Int := match cntH x with
  | some c => (c : Int)
  | none => -1

set_option maxHeartbeats 1000000 in
theorem l12Fields_any (x : Wrd) (w : World) : Calls Tryd.prog 31 #[vW x] w fun e w' => e = .returned (.int .i64 (cntI x)) ∧ Below w.heap.size w w' := by
  have HC : Hid (cntH x = if (x.K = 5 ∨ x.K = 6) ∧ x.N = 0 then some 2 else if x.K = 7 ∧ 0 ≤ x.N ∧ x.N ≤ 14999 then some (x.N.toNat % 100) else none) := rfl
  have HI : Hid (cntI x = match cntH x with | some c => (c : Int) | none => -1) := rfl
  obtain ⟨r, hr⟩ : ∃ r, cntI x = r := ⟨_, rfl⟩
  rw [hr] at HI ⊢
  rw [HC.out] at HI
  clear hr HC
  have hb : ∀ c : Array Value, Below w.heap.size w (w.alloc (.cells c 33)) := fun c => (Below.refl _ _).alloc (Nat.le_refl _) _
  by_cases h5 : x.K = 5
  · by_cases h0 : x.N = 0
    · have HE : Hid (r = 2) := by show _ = _; rw [HI.out, if_pos ⟨Or.inl h5, h0⟩]; rfl
      go_enter Tryd.func31, Tryd.ntmps31
      go_wp2_with fail
      go_ret
      exact ⟨ret_int HE.out.symm, hb _⟩
    · have HE : Hid (r = -1) := by show _ = _; rw [HI.out, if_neg (fun h => h0 h.2), if_neg (fun h => by omega)]
      go_enter Tryd.func31, Tryd.ntmps31
      go_wp2_with fail
      go_ret
      exact ⟨ret_int HE.out.symm, hb _⟩
  · by_cases h6 : x.K = 6
    · by_cases h0 : x.N = 0
      · have HE : Hid (r = 2) := by show _ = _; rw [HI.out, if_pos ⟨Or.inr h6, h0⟩]; rfl
        go_enter Tryd.func31, Tryd.ntmps31
        go_wp2_with fail
        go_ret
        exact ⟨ret_int HE.out.symm, hb _⟩
      · have HE : Hid (r = -1) := by show _ = _; rw [HI.out, if_neg (fun h => h0 h.2), if_neg (fun h => by omega)]
        go_enter Tryd.func31, Tryd.ntmps31
        go_wp2_with fail
        go_ret
        exact ⟨ret_int HE.out.symm, hb _⟩
    · by_cases h7 : x.K = 7
      · have K := l1In_all x.N 0 14999 (w.alloc (.cells #[.int .i64 7, .int .i64 x.N] 33))
        by_cases h0 : 0 ≤ x.N ∧ x.N ≤ 14999
        · have HE : Hid (r = x.N % 100) := by show _ = _; rw [HI.out, if_neg (fun h => by omega), if_pos ⟨h7, h0⟩]; show ((x.N.toNat % 100 : Nat) : Int) = _; omega
          have hq : (decide (0 ≤ x.N) && decide (x.N ≤ 14999)) = true := by simp; omega
          have h01 := h0.1
          have h02 := h0.2
          rw [hq] at K
          clear hq h0 HI
          go_enter Tryd.func31, Tryd.ntmps31
          go_wp2_with fail
          refine K.mono ?_
          rintro e w1 ⟨rfl, rfl⟩
          clear K
          go_wp2_with fail
          go_ret
          exact ⟨ret_int (by rw [HE.out]), hb _⟩
        · have HE : Hid (r = -1) := by show _ = _; rw [HI.out, if_neg (fun h => by omega), if_neg (fun h => h0 h.2)]
          have hq : (decide (0 ≤ x.N) && decide (x.N ≤ 14999)) = false := by simp; omega
          rw [hq] at K
          clear hq h0 HI
          go_enter Tryd.func31, Tryd.ntmps31
          go_wp2_with fail
          refine K.mono ?_
          rintro e w1 ⟨rfl, rfl⟩
          clear K
          go_wp2_with fail
          go_ret
          exact ⟨ret_int HE.out.symm, hb _⟩
      · have HE : Hid (r = -1) := by show _ = _; rw [HI.out, if_neg (fun h => by omega), if_neg (fun h => h7 h.1)]
        go_enter Tryd.func31, Tryd.ntmps31
        go_wp2_with fail
        go_ret
        exact ⟨ret_int HE.out.symm, hb _⟩

set_option maxHeartbeats 1000000 in
theorem l12Word_any (g len cap : Nat) (hs : List Bool) (x : Wrd) (w : World) (hr : BRow w g hs) (hlen : len = hs.length) (hl : len ≤ 1048576) :
    Calls Tryd.prog 20 #[.slice (some ⟨g, 0, none⟩) len cap, vW x] w fun e w' => e = .returned (.bool (rgt hs x)) ∧ Below w.heap.size w w' := by
  have HR : Hid (rgt hs x = if x.K = 1 then decide (-1000000 ≤ x.N) && decide (x.N ≤ 1000000) else if x.K = 2 then decide (0 ≤ x.N) && decide (x.N ≤ 1) else if x.K = 3 then decide (x.N = 0) else if x.K = 4 then (decide (0 ≤ x.N) && decide (x.N < hs.length)) && hs.getD x.N.toNat false else false) := rfl
  rw [← hlen] at HR
  have HL : Hid (len = hs.length) := hlen
  have hb : ∀ c : Array Value, Below w.heap.size w (w.alloc (.cells c 33)) := fun c => (Below.refl _ _).alloc (Nat.le_refl _) _
  obtain ⟨ans, hans⟩ : ∃ b, rgt hs x = b := ⟨_, rfl⟩
  rw [hans] at HR ⊢
  clear hans hlen
  by_cases h1 : x.K = 1
  · have HE : Hid (ans = (decide (-1000000 ≤ x.N) && decide (x.N ≤ 1000000))) := by show _ = _; rw [HR.out, if_pos h1]
    have K := l1In_all x.N (-1000000) 1000000 (w.alloc (.cells #[.int .i64 1, .int .i64 x.N] 33))
    rw [← HE.out] at K
    clear HR
    go_enter Tryd.func20, Tryd.ntmps20
    go_wp2_with fail
    refine K.mono ?_
    rintro e w1 ⟨rfl, rfl⟩
    clear K
    go_wp2_with fail
    go_ret
    exact ⟨rfl, hb _⟩
  · by_cases h2 : x.K = 2
    · have HE : Hid (ans = (decide (0 ≤ x.N) && decide (x.N ≤ 1))) := by show _ = _; rw [HR.out, if_neg h1, if_pos h2]
      have K := l1In_all x.N 0 1 (w.alloc (.cells #[.int .i64 2, .int .i64 x.N] 33))
      rw [← HE.out] at K
      clear HR
      go_enter Tryd.func20, Tryd.ntmps20
      go_wp2_with fail
      refine K.mono ?_
      rintro e w1 ⟨rfl, rfl⟩
      clear K
      go_wp2_with fail
      go_ret
      exact ⟨rfl, hb _⟩
    · by_cases h3 : x.K = 3
      · have HE : Hid (ans = decide (x.N = 0)) := by show _ = _; rw [HR.out, if_neg h1, if_neg h2, if_pos h3]
        clear HR
        by_cases h0 : x.N = 0
        · have HF : Hid (ans = true) := by show _ = _; rw [HE.out]; simp [h0]
          go_enter Tryd.func20, Tryd.ntmps20
          go_wp2_with fail
          go_ret
          exact ⟨ret_bool (by rw [HF.out]), hb _⟩
        · have HF : Hid (ans = false) := by show _ = _; rw [HE.out]; simp [h0]
          go_enter Tryd.func20, Tryd.ntmps20
          go_wp2_with fail
          go_ret
          exact ⟨ret_bool (by rw [HF.out]; simpa using h0), hb _⟩
      · by_cases h4 : x.K = 4
        · have HE : Hid (ans = ((decide (0 ≤ x.N) && decide (x.N < len)) && hs.getD x.N.toNat false)) := by show _ = _; rw [HR.out, if_neg h1, if_neg h2, if_neg h3, if_pos h4]
          clear HR
          have K := l1In_all x.N 0 ((len : Int) - 1) (w.alloc (.cells #[.int .i64 4, .int .i64 x.N] 33))
          have hwr : IntKind.i64.wrap ((len : Int) - 1) = (len : Int) - 1 := by rw [IntKind.wrap_i64] <;> omega
          by_cases h0 : 0 ≤ x.N ∧ x.N < len
          · obtain ⟨i, hi⟩ : ∃ i : Nat, x.N = i := ⟨x.N.toNat, by omega⟩
            obtain ⟨xK, xN⟩ := x
            simp only at hi h0 h1 h2 h3 h4
            subst hi h4
            have hil : i < hs.length := by have := HL.out; omega
            have hil2 : i < len := by omega
            have hc := hr.get i hil
            have hgl := hr.lt
            have HF : Hid (ans = hs.getD i false) := by show _ = _; rw [HE.out]; simp only [Int.toNat_natCast]; simp [hil2]
            generalize hs.getD i false = v at hc HF
            have hq : (decide (0 ≤ (i : Int)) && decide ((i : Int) ≤ (len : Int) - 1)) = true := by simp; omega
            rw [hq] at K
            clear hil h0 hq
            go_enter Tryd.func20, Tryd.ntmps20
            go_wp2_with fail
            refine K.mono ?_
            rintro e w1 ⟨rfl, rfl⟩
            clear K
            go_wp2_with fail
            go_ret
            exact ⟨ret_bool (by rw [HF.out]), hb _⟩
          · have HF : Hid (ans = false) := by
              show _ = _
              rw [HE.out]
              have : (decide (0 ≤ x.N) && decide (x.N < len)) = false := by simp; omega
              rw [this]; rfl
            have hq : (decide (0 ≤ x.N) && decide (x.N ≤ (len : Int) - 1)) = false := by simp; omega
            rw [hq] at K
            clear h0 hq
            go_enter Tryd.func20, Tryd.ntmps20
            go_wp2_with fail
            refine K.mono ?_
            rintro e w1 ⟨rfl, rfl⟩
            clear K
            go_wp2_with fail
            go_ret
            exact ⟨ret_bool (by rw [HF.out]), hb _⟩
        · have HF : Hid (ans = false) := by show _ = _; rw [HR.out, if_neg h1, if_neg h2, if_neg h3, if_neg h4]
          go_enter Tryd.func20, Tryd.ntmps20
          go_wp2_with fail
          go_ret
          exact ⟨ret_bool (by rw [HF.out]), hb _⟩

end Go.Proofs.YtaljpbgggembmaaDoor
