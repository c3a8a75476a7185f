/-
  The model's GetNum.
-/
import Derived.Test.YtlogpkebacmbiaaYg1
import Derived.Test.YtlogpkebacmbiaaYs1
namespace Go.Proofs.Ytlogpkebacmbiaa
open Go.RowKit
set_option linter.unusedVariables false
set_option linter.unusedSimpArgs false

set_option maxRecDepth 100000 in
set_option maxHeartbeats 400000 in
theorem l1In_num (x : Int) (w : World) (h1 : -9223372036854775808 ≤ x) (h2 : x ≤ 9223372036854775807) :
    Calls Try.prog 18 #[.int .i64 x, .int .i64 (-1000000000), .int .i64 1000000000] w fun e w' => e = .returned (.bool (decide (-1000000000 ≤ x ∧ x ≤ 1000000000))) ∧ w' = w := by
  by_cases h : -1000000000 ≤ x
  · by_cases h' : x ≤ 1000000000
    · rw [decide_eq_true ⟨h, h'⟩]
      go_enter Try.func18, Try.ntmps18
      go_wp2_with fail
      go_ret
      exact ⟨rfl, rfl⟩
    · rw [decide_eq_false (fun e => h' e.2)]
      go_enter Try.func18, Try.ntmps18
      go_wp2_with fail
      go_ret
      exact ⟨rfl, rfl⟩
  · rw [decide_eq_false (fun e => h e.1)]
    go_enter Try.func18, Try.ntmps18
    go_wp2_with fail
    go_ret
    exact ⟨rfl, rfl⟩

theorem i64_and1 (n : Int) : bits .and .i64 n 1 = n % 2 := by
  have h1 : (BitVec.ofInt 64 1).toNat = 2 ^ 1 - 1 := by decide
  have key : (BitVec.ofInt 64 n &&& BitVec.ofInt 64 1).toNat = (n % ((2 ^ 64 : Nat) : Int)).toNat % 2 ^ 1 := by
    rw [BitVec.toNat_and, BitVec.toNat_ofInt, h1, Nat.and_two_pow_sub_one_eq_mod]
  show IntKind.i64.wrap ((BitVec.ofInt 64 n &&& BitVec.ofInt 64 1).toNat : Nat) = n % 2
  rw [key, IntKind.wrap_i64]
  omega

/-- A group more, by 'or'. -/
theorem or_val (v j : Nat) (x : Int) (hj : j ≤ 4) (hv : v < 128 ^ j) : bits .or .i64 (v : Int) (wrap64 (x % 128 * 2 ^ (7 * j))) = ((v + (x % 128).toNat * 128 ^ j : Nat) : Int) := by
  have h0 : 0 ≤ x % 128 := by omega
  have h1 : x % 128 < 128 := by omega
  generalize x % 128 = y at h0 h1
  obtain ⟨z, rfl⟩ : ∃ z : Nat, y = (z : Int) := ⟨y.toNat, by omega⟩
  rw [Int.toNat_natCast]
  have hp : (128 : Nat) ^ j = 2 ^ (7 * j) := by rw [Nat.pow_mul]
  have hp2 : ((2 : Int) ^ (7 * j)) = ((2 ^ (7 * j) : Nat) : Int) := by simp
  have hle : (2 : Nat) ^ (7 * j) ≤ 268435456 := by
    have : (2 : Nat) ^ (7 * j) ≤ 2 ^ 28 := Nat.pow_le_pow_right (by omega) (by omega)
    have e : (2 : Nat) ^ 28 = 268435456 := by decide
    omega
  have hz : z * 2 ^ (7 * j) ≤ 128 * 268435456 := Nat.mul_le_mul (by omega) hle
  rw [hp] at hv ⊢
  have e : wrap64 ((z : Int) * 2 ^ (7 * j)) = ((z * 2 ^ (7 * j) : Nat) : Int) := by
    rw [hp2, ← Int.natCast_mul]
    unfold wrap64
    omega
  rw [e, i64_or_apart (7 * j) (by omega) v z hv (by omega)]
  omega

set_option maxRecDepth 100000 in
set_option maxHeartbeats 1000000 in
/-- The model's GetNum. -/
theorem sGetNum_any {L B : Nat} (ao : Option Addr) (len cap : Nat) (l : List Int) (p : Int) (w : World) (hB : B ≤ w.heap.size) (hs : Bs L B w ao len l) (hok : ∀ x ∈ l, 0 ≤ x ∧ x ≤ 255) (hl : len ≤ 1048600) (h1 : -9223372036854775808 ≤ p) (h2 : p ≤ 9223372036854775807) :
    Calls Try.prog 12 #[.slice ao len cap, .int .i64 p] w fun e w' => e = .returned (getV (getN (grpAt l p) p)) ∧ w' = w := by
  have HL : Hid (len = l.length) := hs.1
  by_cases hp : p < 0 ∨ (len : Int) ≤ p
  · rw [grpAt_out (by have := HL.out; omega), getN_nil]
    rcases (by omega : ¬ 0 ≤ p ∨ 0 ≤ p ∧ ¬ p < len) with hp | ⟨hp, hp'⟩
    · go_enter Try.func12, Try.ntmps12
      go_wp2_with fail
      refine wp_loop_rounds 1 ?_
      rw [rounds_succ]
      go_wp2_with fail
      go_ret3
      exact ⟨rfl, rfl⟩
    · go_enter Try.func12, Try.ntmps12
      go_wp2_with fail
      refine wp_loop_rounds 1 ?_
      rw [rounds_succ]
      go_wp2_with fail
      go_ret3
      exact ⟨rfl, rfl⟩
  · obtain ⟨q, rfl⟩ : ∃ q : Nat, p = (q : Int) := ⟨p.toNat, by omega⟩
    have hq : q < len := by omega
    have hq0 : 0 ≤ (q : Int) := by omega
    have hq1 : (q : Int) < len := by omega
    rw [grpAt_in (by omega) (by have := HL.out; omega), Int.toNat_natCast]
    obtain ⟨b, o, rfl, _, hbB, _⟩ := hs.2.2 q (by have := HL.out; omega)
    obtain ⟨g, hg⟩ : ∃ g, g = (l.drop q).take 5 := ⟨_, rfl⟩
    have HGL : Hid (g.length = min 5 (len - q)) := by show _ = _; rw [hg, List.length_take, List.length_drop, HL.out]
    have HGC : Hid (∀ j (h : j < g.length), 0 ≤ g[j] ∧ g[j] ≤ 255 ∧ w.cell? ⟨b, o + (q + j), none⟩ = some (.int .u8 g[j])) := fun j hj => by
      have hj' := hj
      rw [hg, List.length_take, List.length_drop] at hj'
      have e : g[j] = l[q + j]'(by omega) := by simp only [hg, List.getElem_take, List.getElem_drop]
      have := hok (l[q + j]'(by omega)) (List.getElem_mem _)
      obtain ⟨b', o', e', _, _, hc⟩ := hs.2.2 (q + j) (by omega)
      injection e' with e'
      injection e' with e1 e2
      subst e1 e2
      rw [e]
      exact ⟨this.1, this.2, hc⟩
    rw [← hg]
    clear hg hs hok
    go_enter Try.func12, Try.ntmps12
    go_wp2_with fail
    go_loopw [7, 8] (fun mm i wr => ∃ j : Nat, j ≤ g.length ∧ i = .int .i64 j ∧ mm = .int .i64 (valG (g.take j)) ∧ Hid (∀ i (h : i < g.length), i < j → 128 ≤ g[i]) ∧ wr = w) (fun _ i _ => 5 - (intOf i).toNat)
    case atStart => exact ⟨0, by omega, rfl, by simp [valG], fun i _ h => by omega, rfl⟩
    case round =>
      obtain ⟨j, hj, rfl, rfl, HJ, rfl⟩ := hrel
      have hgl5 : g.length ≤ 5 := by have := HGL.out; omega
      by_cases hlt : j < g.length
      · obtain ⟨hx0, hx1, hc⟩ := HGC.out j hlt
        have hj4 : j ≤ 4 := by omega
        have hjl : (j : Int) < 5 := by omega
        have hql : (q : Int) + j < len := by have := HGL.out; omega
        have hv := valG_lt (g.take j)
        rw [List.length_take, Nat.min_eq_left (by omega)] at hv
        have HV : Hid (_ = _) := valG_take g j hlt
        obtain ⟨x, hgx⟩ : ∃ x, g[j] = x := ⟨_, rfl⟩
        have HX : Hid (g[j] = x) := hgx
        rw [hgx] at hc hx0 hx1 HV
        clear hgx
        have HO := or_val (valG (g.take j)) j x hj4 hv
        have hM := HV.out
        rw [← hM] at HO
        have hMl := valG_lt (g.take (j + 1))
        have hM35 : valG (g.take (j + 1)) < 34359738368 := by
          rw [List.length_take] at hMl
          have e1 : (128 : Nat) ^ (min (j + 1) g.length) ≤ 128 ^ 5 := Nat.pow_le_pow_right (by omega) (by omega)
          have e2 : (128 : Nat) ^ 5 = 34359738368 := by decide
          omega
        obtain ⟨M, hMM⟩ : ∃ M, M = valG (g.take (j + 1)) := ⟨_, rfl⟩
        rw [← hMM] at HO hM35
        have HM : Hid (M = valG (g.take (j + 1))) := hMM
        clear hM hMM hMl HV
        by_cases h128 : x < 128
        · have HII : Hid (idxG g = some j) := idxG_some g j hlt (fun i hi => HJ.out i (by omega) hi) (by rw [HX.out]; exact h128)
          have HD : Hid (g.getD j 0 = x) := by show _ = _; rw [List.getD_eq_getElem?_getD, List.getElem?_eq_getElem hlt, Option.getD_some]; exact HX.out
          have h127 : ¬ 127 < x := by omega
          clear hv
          obtain ⟨s, hs⟩ : ∃ s, sgn M = s := ⟨_, rfl⟩
          have HS : Hid (sgn (valG (g.take (j + 1))) = s) := by show _ = _; rw [← HM.out]; exact hs
          have hb1 : -9223372036854775808 ≤ s ∧ s ≤ 9223372036854775807 := by rw [← hs]; unfold sgn; split <;> omega
          have K2 := fun w' => l1In_num s w' hb1.1 hb1.2
          have HK2 : Hid (∀ w1 : World, Calls Try.prog 18 #[.int .i64 s, .int .i64 (-1000000000), .int .i64 1000000000] w1 fun e w' => e = .returned (.bool (decide (-1000000000 ≤ s ∧ s ≤ 1000000000))) ∧ w' = w1) := K2
          clear K2
          by_cases hodd : (M : Int) % 2 = 1
          · have HSV : Hid (-((M : Int) / 2) - 1 = s) := by show _ = _; rw [← hs]; unfold sgn; rw [if_pos (by omega)]; omega
            clear hs
            rcases (by omega : (0 < j ∧ x = 0) ∨ ¬ 0 < j ∨ (0 < j ∧ ¬ x = 0)) with ⟨hj0, hx0'⟩ | hj0 | ⟨hj0, hx0'⟩
            · have hj0' : (0 : Int) < j := by omega
              have hxe : (x == 0) = true := by simpa using hx0'
              have HB : Hid (getN g q = (0, 0, false)) := getN_bad _ HII.out (Or.inl ⟨hj0, by rw [HD.out]; exact hx0'⟩)
              clear hx0' hj0
              go_wp2_with (first | rw [i64_and127] | rw [HO] | rw [i64_and1])
              go_ret3
              exact ⟨by rw [HB.out]; rfl, rfl⟩
            · have hj0' : ¬ (0 : Int) < j := by omega
              have HZ : Hid (¬ (0 < j ∧ x = 0)) := fun h => hj0 h.1
              clear hj0
              go_wp2_with (first | rw [i64_and127] | rw [HO] | rw [i64_and1])
              rw [HSV.out]
              refine (HK2.out wr).mono ?_
              rintro e w2 ⟨rfl, hw2⟩
              subst hw2
              by_cases hr : -1000000000 ≤ s ∧ s ≤ 1000000000
              · rw [decide_eq_true hr]
                go_wp2_with fail
                go_ret3
                exact ⟨by rw [getN_good _ HII.out (by rw [HS.out, HD.out]; intro h; rcases h with h | h | h; exact HZ.out h; omega; omega), HS.out]; rfl, rfl⟩
              · rw [decide_eq_false hr]
                go_wp2_with fail
                go_ret3
                exact ⟨by rw [getN_bad _ HII.out (Or.inr (by rw [HS.out]; omega))]; rfl, rfl⟩
            · have hj0' : (0 : Int) < j := by omega
              have hxe : (x == 0) = false := by simpa using hx0'
              have HZ : Hid (¬ (0 < j ∧ x = 0)) := fun h => hx0' h.2
              clear hx0' hj0
              go_wp2_with (first | rw [i64_and127] | rw [HO] | rw [i64_and1])
              rw [HSV.out]
              refine (HK2.out wr).mono ?_
              rintro e w2 ⟨rfl, hw2⟩
              subst hw2
              by_cases hr : -1000000000 ≤ s ∧ s ≤ 1000000000
              · rw [decide_eq_true hr]
                go_wp2_with fail
                go_ret3
                exact ⟨by rw [getN_good _ HII.out (by rw [HS.out, HD.out]; intro h; rcases h with h | h | h; exact HZ.out h; omega; omega), HS.out]; rfl, rfl⟩
              · rw [decide_eq_false hr]
                go_wp2_with fail
                go_ret3
                exact ⟨by rw [getN_bad _ HII.out (Or.inr (by rw [HS.out]; omega))]; rfl, rfl⟩
          · have HSV : Hid ((M : Int) / 2 = s) := by show _ = _; rw [← hs]; unfold sgn; rw [if_neg (by omega)]; omega
            clear hs
            rcases (by omega : (0 < j ∧ x = 0) ∨ ¬ 0 < j ∨ (0 < j ∧ ¬ x = 0)) with ⟨hj0, hx0'⟩ | hj0 | ⟨hj0, hx0'⟩
            · have hj0' : (0 : Int) < j := by omega
              have hxe : (x == 0) = true := by simpa using hx0'
              have HB : Hid (getN g q = (0, 0, false)) := getN_bad _ HII.out (Or.inl ⟨hj0, by rw [HD.out]; exact hx0'⟩)
              clear hx0' hj0
              go_wp2_with (first | rw [i64_and127] | rw [HO] | rw [i64_and1])
              go_ret3
              exact ⟨by rw [HB.out]; rfl, rfl⟩
            · have hj0' : ¬ (0 : Int) < j := by omega
              have HZ : Hid (¬ (0 < j ∧ x = 0)) := fun h => hj0 h.1
              clear hj0
              go_wp2_with (first | rw [i64_and127] | rw [HO] | rw [i64_and1])
              rw [HSV.out]
              refine (HK2.out wr).mono ?_
              rintro e w2 ⟨rfl, hw2⟩
              subst hw2
              by_cases hr : -1000000000 ≤ s ∧ s ≤ 1000000000
              · rw [decide_eq_true hr]
                go_wp2_with fail
                go_ret3
                exact ⟨by rw [getN_good _ HII.out (by rw [HS.out, HD.out]; intro h; rcases h with h | h | h; exact HZ.out h; omega; omega), HS.out]; rfl, rfl⟩
              · rw [decide_eq_false hr]
                go_wp2_with fail
                go_ret3
                exact ⟨by rw [getN_bad _ HII.out (Or.inr (by rw [HS.out]; omega))]; rfl, rfl⟩
            · have hj0' : (0 : Int) < j := by omega
              have hxe : (x == 0) = false := by simpa using hx0'
              have HZ : Hid (¬ (0 < j ∧ x = 0)) := fun h => hx0' h.2
              clear hx0' hj0
              go_wp2_with (first | rw [i64_and127] | rw [HO] | rw [i64_and1])
              rw [HSV.out]
              refine (HK2.out wr).mono ?_
              rintro e w2 ⟨rfl, hw2⟩
              subst hw2
              by_cases hr : -1000000000 ≤ s ∧ s ≤ 1000000000
              · rw [decide_eq_true hr]
                go_wp2_with fail
                go_ret3
                exact ⟨by rw [getN_good _ HII.out (by rw [HS.out, HD.out]; intro h; rcases h with h | h | h; exact HZ.out h; omega; omega), HS.out]; rfl, rfl⟩
              · rw [decide_eq_false hr]
                go_wp2_with fail
                go_ret3
                exact ⟨by rw [getN_bad _ HII.out (Or.inr (by rw [HS.out]; omega))]; rfl, rfl⟩
        · have HJ2 : Hid (∀ i (h : i < g.length), i < j + 1 → 128 ≤ g[i]) := fun i hi hlt => by
            by_cases hij : i = j
            · subst hij; have := HX.out; omega
            · exact HJ.out i hi (by omega)
          have h127 : 127 < x := by omega
          clear hv
          go_wp2_with (first | rw [i64_and127] | rw [HO])
          go_roundw
          case rel => exact ⟨j + 1, by omega, by go_num, by rw [HM.out], HJ2, by first | rfl | trivial⟩
          case measure => simp [intOf]; omega
      · have HII : Hid (idxG g = none) := idxG_none g (fun i hi => HJ.out i hi (by omega))
        rcases (by have := HGL.out; omega : ¬ (j : Int) < 5 ∨ ((j : Int) < 5 ∧ ¬ (q : Int) + j < len)) with hjl | ⟨hjl, hql⟩
        · go_wp2_with fail
          go_ret3
          exact ⟨by rw [getN_none _ HII.out]; rfl, rfl⟩
        · go_wp2_with fail
          go_ret3
          exact ⟨by rw [getN_none _ HII.out]; rfl, rfl⟩

end Go.Proofs.Ytlogpkebacmbiaa
