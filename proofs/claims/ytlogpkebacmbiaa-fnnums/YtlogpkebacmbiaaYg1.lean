/-
  The program's GetNum.
-/
import Derived.Test.YtlogpkebacmbiaaYg0
namespace Go.Proofs.Ytlogpkebacmbiaa
open Go.RowKit
set_option linter.unusedVariables false
set_option linter.unusedSimpArgs false

theorem shl_val (v j : Nat) (x : Int) (hj : j ≤ 4) (hv : v < 128 ^ j) : wrap64 ((v : Int) + wrap64 (x % 128 * 2 ^ (j * 7))) = ((v + (x % 128).toNat * 128 ^ j : Nat) : Int) := by
  have h0 : 0 ≤ x % 128 := by omega
  have h1 : x % 128 < 128 := by omega
  generalize x % 128 = y at h0 h1
  have hc : ∀ c : Nat, v < c → c ≤ 268435456 → wrap64 ((v : Int) + wrap64 (y * (c : Int))) = ((v + y.toNat * c : Nat) : Int) := fun c hvc hc => by
    obtain ⟨z, rfl⟩ : ∃ z : Nat, y = (z : Int) := ⟨y.toNat, by omega⟩
    have hz : z * c ≤ 128 * 268435456 := Nat.mul_le_mul (by omega) hc
    rw [Int.toNat_natCast]
    push_cast
    rw [← Int.natCast_mul]
    unfold wrap64
    omega
  match j, hj with
  | 0, _ => exact hc 1 (by simpa using hv) (by omega)
  | 1, _ => exact hc 128 (by simpa using hv) (by omega)
  | 2, _ => exact hc 16384 (by simpa using hv) (by omega)
  | 3, _ => exact hc 2097152 (by simpa using hv) (by omega)
  | 4, _ => exact hc 268435456 (by simpa using hv) (by omega)

set_option maxRecDepth 100000 in
set_option maxHeartbeats 400000 in
theorem signed_any (m : Nat) (hm : m ≤ 34359738368) (w : World) :
    Calls Try.prog 21 #[.int .i64 m] w fun e w' => e = .returned (.int .i64 (sgn m)) ∧ w' = w := by
  unfold sgn
  by_cases h : m % 2 = 1
  · rw [if_pos h]
    have h' : (m : Int) % 2 = 1 := by omega
    go_enter Try.func21, Try.ntmps21
    go_wp2_with fail
    go_ret
    refine ⟨ret_int ?_, rfl⟩
    rw [Int.tdiv_eq_ediv_of_nonneg (by omega)]
    unfold wrap64
    omega
  · rw [if_neg h]
    have h' : ¬ (m : Int) % 2 = 1 := by omega
    go_enter Try.func21, Try.ntmps21
    go_wp2_with fail
    go_ret
    refine ⟨ret_int ?_, rfl⟩
    omega

set_option maxRecDepth 100000 in
set_option maxHeartbeats 400000 in
theorem last_any (x : Int) (h0 : 0 ≤ x) (h1 : x ≤ 255) (w : World) :
    Calls Try.prog 20 #[.int .u8 x] w fun e w' => e = .returned (.bool (decide (x < 128))) ∧ w' = w := by
  go_enter Try.func20, Try.ntmps20
  go_wp2_with fail
  go_ret
  exact ⟨rfl, rfl⟩

/-- The place of the last group as a number: -1 where there is none. -/
def idxI (g : List Int) : Int := match idxG g with | none => -1 | some k => (k : Int)
theorem idxI_none {g : List Int} (h : idxG g = none) : idxI g = -1 := by unfold idxI; rw [h]
theorem idxI_some {g : List Int} {k : Nat} (h : idxG g = some k) : idxI g = k := by unfold idxI; rw [h]

set_option maxRecDepth 100000 in
set_option maxHeartbeats 400000 in
theorem indexFunc_any {L B : Nat} (ao : Option Addr) (len cap : Nat) (g : List Int) (w : World) (hB : B ≤ w.heap.size) (hs : Bs L B w ao len g) (hok : ∀ x ∈ g, 0 ≤ x ∧ x ≤ 255) (hl : len ≤ 5) :
    Calls Try.prog 19 #[.slice ao len cap, .func (Fn.func 20) #[] #[]] w fun e w' => e = .returned (.int .i64 (idxI g)) ∧ w' = w := by
  have HL : Hid (len = g.length) := hs.1
  go_enter Try.func19, Try.ntmps19
  go_wp2_with fail
  go_loopw [8] (fun i wr => ∃ k : Nat, k ≤ len ∧ i = .int .i64 k ∧ wr = w ∧ Hid (∀ j (h : j < g.length), j < k → 128 ≤ g[j])) (fun i _ => len - (intOf i).toNat)
  case atStart => exact ⟨0, by omega, rfl, rfl, fun j _ h => by omega⟩
  case round =>
    obtain ⟨k, hk, rfl, rfl, HJ⟩ := hrel
    by_cases hlt : k < len
    · have hlt' : k < g.length := by have := HL.out; omega
      obtain ⟨b, o, rfl, _, hbB, c0⟩ := hs.2.2 k hlt'
      have hx := hok g[k] (List.getElem_mem _)
      obtain ⟨x, hgx⟩ : ∃ x, g[k] = x := ⟨_, rfl⟩
      rw [hgx] at c0 hx
      have HX : Hid (g[k] = x) := hgx
      clear hgx
      go_wp2_with fail
      refine (last_any x hx.1 hx.2 _).mono ?_
      rintro e w1 ⟨rfl, hw1⟩
      subst hw1
      by_cases h128 : x < 128
      · have HI : Hid (idxI g = k) := idxI_some (idxG_some g k hlt' (fun i hi => HJ.out i (by omega) hi) (by rw [HX.out]; exact h128))
        go_wp2_with fail
        go_ret
        exact ⟨by rw [HI.out]; rfl, rfl⟩
      · have HJ2 : Hid (∀ j (h : j < g.length), j < k + 1 → 128 ≤ g[j]) := fun j hj hlt => by
          by_cases hjk : j = k
          · subst hjk; have := HX.out; omega
          · exact HJ.out j hj (by omega)
        go_wp2_with fail
        go_roundw
        case rel => exact ⟨k + 1, by omega, by go_num, by first | rfl | trivial, HJ2⟩
        case measure => simp [intOf]; omega
    · have HI : Hid (idxI g = -1) := idxI_none (idxG_none g (fun i hi => HJ.out i hi (by have := HL.out; omega)))
      go_wp2_with fail
      go_ret
      exact ⟨by rw [HI.out]; rfl, rfl⟩

/-- A part of a row of bytes. -/
theorem Bs.part {L B : Nat} {w : World} {b o len : Nat} {l : List Int} (h : Bs L B w (some ⟨b, o, none⟩) len l) (p n : Nat) (hn : p + n ≤ len) : Bs L B w (some ⟨b, o + p, none⟩) n ((l.drop p).take n) := by
  have h1 := h.1
  have h2 := h.2.1
  refine ⟨by rw [List.length_take, List.length_drop]; omega, by omega, fun i hi => ?_⟩
  rw [List.length_take, List.length_drop] at hi
  obtain ⟨b', o', e, h3, h4, h5⟩ := h.2.2 (p + i) (by omega)
  injection e with e
  injection e with e1 e2
  subst e1 e2
  refine ⟨b, o + p, rfl, h3, h4, ?_⟩
  rw [List.getElem_take, List.getElem_drop, Nat.add_assoc]
  exact h5

set_option maxRecDepth 100000 in
set_option maxHeartbeats 400000 in
/-- The program's GetNum. -/
theorem getNum_any {L B : Nat} (ao : Option Addr) (len cap : Nat) (l : List Int) (p : Int) (w : World) (hB : B ≤ w.heap.size) (hs : Bs L B w ao len l) (hok : ∀ x ∈ l, 0 ≤ x ∧ x ≤ 255) (hl : len ≤ 1048600) (hcap : len ≤ cap) (h1 : -9223372036854775808 ≤ p) (h2 : p ≤ 9223372036854775807) :
    Calls Try.prog 13 #[.slice ao len cap, .int .i64 p] w fun e w' => e = .returned (getV (getN (grpAt l p) p)) ∧ w' = w := by
  have HL : Hid (len = l.length) := hs.1
  by_cases hp : p < 0 ∨ (len : Int) < p
  · rw [grpAt_out (by have := HL.out; omega), getN_nil]
    rcases hp with hp | hp
    · go_enter Try.func13, Try.ntmps13
      go_wp2_with fail
      go_ret3
      exact ⟨rfl, rfl⟩
    · have hp' : ¬ p < 0 := by omega
      go_enter Try.func13, Try.ntmps13
      go_wp2_with fail
      go_ret3
      exact ⟨rfl, rfl⟩
  · obtain ⟨q, rfl⟩ : ∃ q : Nat, p = (q : Int) := ⟨p.toNat, by omega⟩
    have hq : q ≤ len := by omega
    have hq0 : ¬ (q : Int) < 0 := by omega
    have hq1 : ¬ (len : Int) < q := by omega
    by_cases hql : q = len
    · subst hql
      rw [grpAt_out (by have := HL.out; omega), getN_nil]
      have K := fun (a' : Option Addr) (c' : Nat) => indexFunc_any a' 0 c' [] w (Nat.le_refl _) (L := 0) ⟨rfl, by omega, fun i hi => by simp at hi⟩ (fun x hx => by simp at hx) (by omega)
      have HK : Hid (∀ (a' : Option Addr) (c' : Nat), Calls Try.prog 19 #[.slice a' 0 c', .func (Fn.func 20) #[] #[]] w fun e w' => e = .returned (.int .i64 (-1)) ∧ w' = w) := K
      clear K
      by_cases hqc : q = cap
      · subst hqc
        go_enter Try.func13, Try.ntmps13
        go_wp2_with fail
        refine (HK.out _ _).mono ?_
        rintro e w1 ⟨rfl, hw1⟩
        subst hw1
        go_wp2_with fail
        go_ret3
        exact ⟨rfl, rfl⟩
      · go_enter Try.func13, Try.ntmps13
        go_wp2_with fail
        refine (HK.out _ _).mono ?_
        rintro e w1 ⟨rfl, hw1⟩
        subst hw1
        go_wp2_with fail
        go_ret3
        exact ⟨rfl, rfl⟩
    · rw [grpAt_in (by omega) (by have := HL.out; omega), Int.toNat_natCast]
      have hqc : ¬ q = cap := by omega
      obtain ⟨b, o, rfl, _, _, _⟩ := hs.2.2 q (by have := HL.out; omega)
      obtain ⟨n, hn⟩ : ∃ n, n = min 5 (len - q) := ⟨_, rfl⟩
      have hG : Bs L B w (some ⟨b, o + q, none⟩) n ((l.drop q).take 5) := by
        have := hs.part q n (by omega)
        have e : (l.drop q).take n = (l.drop q).take 5 := by
          by_cases h5 : n = 5
          · rw [h5]
          · rw [List.take_of_length_le (by rw [List.length_drop]; have := HL.out; omega), List.take_of_length_le (by rw [List.length_drop]; have := HL.out; omega)]
        rw [e] at this
        exact this
      have hokG : ∀ x ∈ (l.drop q).take 5, 0 ≤ x ∧ x ≤ 255 := fun x hx => hok x (List.mem_of_mem_drop (List.mem_of_mem_take hx))
      obtain ⟨g, hg⟩ : ∃ g, g = (l.drop q).take 5 := ⟨_, rfl⟩
      rw [← hg] at hG hokG ⊢
      clear hg hs hok
      have hcq : q < cap := by omega
      have HK := fun (c' : Nat) => indexFunc_any _ n c' g w hB hG hokG (by omega)
      have HK : Hid (∀ c' : Nat, Calls Try.prog 19 #[.slice (some ⟨b, o + q, none⟩) n c', .func (Fn.func 20) #[] #[]] w fun e w' => e = .returned (.int .i64 (idxI g)) ∧ w' = w) := HK
      have HN : Hid (n = min 5 (len - q)) := hn
      have hn5 : n ≤ 5 := by omega
      clear hn
      cases hI : idxG g with
      | none =>
        rw [getN_none _ hI]
        have HI : Hid (idxI g = -1) := idxI_none hI
        clear hI
        by_cases h5 : q + 5 < len
        · obtain rfl : n = 5 := by have := HN.out; omega
          clear HN
          have h5' : ¬ (len : Int) ≤ q + 5 := by omega
          have e5 : (q + 5 : Int).toNat - q = 5 := by omega
          go_enter Try.func13, Try.ntmps13
          go_wp2_with fail
          refine (HK.out _).mono ?_
          rintro e w1 ⟨rfl, hw1⟩
          subst hw1
          rw [HI.out]
          go_wp2_with fail
          go_ret3
          exact ⟨rfl, rfl⟩
        · have hn' : len - q = n := by have := HN.out; omega
          have h5' : (len : Int) ≤ q + 5 := by omega
          go_enter Try.func13, Try.ntmps13
          go_wp2_with fail
          refine (HK.out _).mono ?_
          rintro e w1 ⟨rfl, hw1⟩
          subst hw1
          rw [HI.out]
          go_wp2_with fail
          go_ret3
          exact ⟨rfl, rfl⟩
      | some k =>
        obtain ⟨hkg, _, hk128⟩ := idxG_lt g k hI
        have HI : Hid (idxI g = k) := idxI_some hI
        have HII : Hid (idxG g = some k) := hI
        have HGL : Hid (n = g.length) := hG.1
        have hkn : k < n := by have := HGL.out; omega
        have hgd : g.getD k 0 = g[k] := by rw [List.getD_eq_getElem?_getD, List.getElem?_eq_getElem hkg]; rfl
        obtain ⟨bb, oo, e', _, _, hck⟩ := hG.2.2 k hkg
        injection e' with e'
        injection e' with e1 e2
        subst e1 e2
        have hxk := hokG g[k] (List.getElem_mem _)
        obtain ⟨x, hgx⟩ : ∃ x, g[k] = x := ⟨_, rfl⟩
        rw [hgx] at hck hxk hk128 hgd
        clear hI hgx
        by_cases hz : 0 < k ∧ x = 0
        · rw [getN_bad _ HII.out (Or.inl (by rw [hgd]; exact hz))]
          obtain ⟨hz1, rfl⟩ := hz
          clear hgd
          by_cases h5 : q + 5 < len
          · obtain rfl : n = 5 := by have := HN.out; omega
            clear HN
            have h5' : ¬ (len : Int) ≤ q + 5 := by omega
            have e5 : (q + 5 : Int).toNat - q = 5 := by omega
            go_enter Try.func13, Try.ntmps13
            go_wp2_with fail
            refine (HK.out _).mono ?_
            rintro e w1 ⟨rfl, hw1⟩
            subst hw1
            rw [HI.out]
            go_wp2_with fail
            go_ret3
            exact ⟨rfl, rfl⟩
          · have hn' : len - q = n := by have := HN.out; omega
            have h5' : (len : Int) ≤ q + 5 := by omega
            go_enter Try.func13, Try.ntmps13
            go_wp2_with fail
            refine (HK.out _).mono ?_
            rintro e w1 ⟨rfl, hw1⟩
            subst hw1
            rw [HI.out]
            go_wp2_with fail
            go_ret3
            exact ⟨rfl, rfl⟩
        · rcases Nat.eq_zero_or_pos k with hk0 | hk0
          · have hk0' : ¬ (0 : Int) < k := by omega
            have hkn0 : ¬ (k : Int) < 0 := by omega
            have HZ : Hid (¬ (0 < k ∧ x = 0)) := hz
            clear hk0 hz
            by_cases h5 : q + 5 < len
            · obtain rfl : n = 5 := by have := HN.out; omega
              clear HN
              have h5' : ¬ (len : Int) ≤ q + 5 := by omega
              have e5 : (q + 5 : Int).toNat - q = 5 := by omega
              go_enter Try.func13, Try.ntmps13
              go_wp2_with fail
              refine (HK.out _).mono ?_
              rintro e w1 ⟨rfl, hw1⟩
              subst hw1
              rw [HI.out]
              go_wp2_with fail
              go_loopw [9, 49] (fun mm i wr => ∃ j : Nat, j ≤ k + 1 ∧ i = .int .i64 j ∧ mm = .int .i64 (valG (g.take j)) ∧ wr = w1) (fun _ i _ => k + 1 - (intOf i).toNat)
              case atStart => exact ⟨0, by omega, rfl, by simp [valG], rfl⟩
              case round =>
                obtain ⟨j, hj, rfl, rfl, rfl⟩ := hrel
                by_cases hlt : j < k + 1
                · have hjg : j < g.length := by have := HGL.out; omega
                  obtain ⟨b', o', e', _, _, hc⟩ := hG.2.2 j hjg
                  injection e' with e'
                  injection e' with e1 e2
                  subst e1 e2
                  have hx := hokG g[j] (List.getElem_mem _)
                  have HV : Hid (_ = _) := valG_take g j hjg
                  have hv := valG_lt (g.take j)
                  have hj4 : j ≤ 4 := by omega
                  obtain ⟨x, hgx⟩ : ∃ x, g[j] = x := ⟨_, rfl⟩
                  rw [hgx] at hc hx HV
                  clear hgx
                  go_wp2_with fail
                  go_roundw
                  case rel =>
                    refine ⟨j + 1, by omega, by go_num, ?_, by first | rfl | trivial⟩
                    rw [HV.out, shl_val _ _ _ hj4 (by rw [List.length_take, Nat.min_eq_left (by omega)] at hv; exact hv)]
                  case measure => simp [intOf]; omega
                · obtain rfl : j = k + 1 := by omega
                  have hv := valG_lt (g.take (k + 1))
                  have hv' : valG (g.take (k + 1)) ≤ 34359738368 := by
                    rw [List.length_take] at hv
                    have e1 : (128 : Nat) ^ (min (k + 1) g.length) ≤ 128 ^ 5 := Nat.pow_le_pow_right (by omega) (by omega)
                    have e2 : (128 : Nat) ^ 5 = 34359738368 := by decide
                    omega
                  have K2 := signed_any _ hv' wr
                  obtain ⟨s, hs⟩ : ∃ s, sgn (valG (g.take (k + 1))) = s := ⟨_, rfl⟩
                  rw [hs] at K2
                  have HS : Hid (_ = s) := hs
                  have HD : Hid (g.getD k 0 = x) := hgd
                  have hb1 : -9223372036854775808 ≤ s ∧ s ≤ 9223372036854775807 := by rw [← hs]; unfold sgn; split <;> omega
                  clear hs hv
                  go_wp2_with fail
                  refine K2.mono ?_
                  rintro e w2 ⟨rfl, hw2⟩
                  subst hw2
                  clear K2
                  rcases (by omega : s < -1000000000 ∨ 1000000000 < s ∨ (-1000000000 ≤ s ∧ s ≤ 1000000000)) with hr | hr | ⟨hr, hr'⟩
                  · go_wp2_with fail
                    go_ret3
                    exact ⟨by rw [getN_bad _ HII.out (Or.inr (Or.inl (by rw [HS.out]; exact hr)))]; rfl, rfl⟩
                  · have hr2 : ¬ s < -1000000000 := by omega
                    go_wp2_with fail
                    go_ret3
                    exact ⟨by rw [getN_bad _ HII.out (Or.inr (Or.inr (by rw [HS.out]; exact hr)))]; rfl, rfl⟩
                  · have hr2 : ¬ s < -1000000000 := by omega
                    have hr3 : ¬ 1000000000 < s := by omega
                    go_wp2_with fail
                    go_ret3
                    exact ⟨by rw [getN_good _ HII.out (by rw [HS.out, HD.out]; intro h; rcases h with h | h | h; exact HZ.out h; omega; omega), HS.out]; rfl, rfl⟩
            · have hn' : len - q = n := by have := HN.out; omega
              have h5' : (len : Int) ≤ q + 5 := by omega
              go_enter Try.func13, Try.ntmps13
              go_wp2_with fail
              refine (HK.out _).mono ?_
              rintro e w1 ⟨rfl, hw1⟩
              subst hw1
              rw [HI.out]
              go_wp2_with fail
              go_loopw [9, 49] (fun mm i wr => ∃ j : Nat, j ≤ k + 1 ∧ i = .int .i64 j ∧ mm = .int .i64 (valG (g.take j)) ∧ wr = w1) (fun _ i _ => k + 1 - (intOf i).toNat)
              case atStart => exact ⟨0, by omega, rfl, by simp [valG], rfl⟩
              case round =>
                obtain ⟨j, hj, rfl, rfl, rfl⟩ := hrel
                by_cases hlt : j < k + 1
                · have hjg : j < g.length := by have := HGL.out; omega
                  obtain ⟨b', o', e', _, _, hc⟩ := hG.2.2 j hjg
                  injection e' with e'
                  injection e' with e1 e2
                  subst e1 e2
                  have hx := hokG g[j] (List.getElem_mem _)
                  have HV : Hid (_ = _) := valG_take g j hjg
                  have hv := valG_lt (g.take j)
                  have hj4 : j ≤ 4 := by omega
                  obtain ⟨x, hgx⟩ : ∃ x, g[j] = x := ⟨_, rfl⟩
                  rw [hgx] at hc hx HV
                  clear hgx
                  go_wp2_with fail
                  go_roundw
                  case rel =>
                    refine ⟨j + 1, by omega, by go_num, ?_, by first | rfl | trivial⟩
                    rw [HV.out, shl_val _ _ _ hj4 (by rw [List.length_take, Nat.min_eq_left (by omega)] at hv; exact hv)]
                  case measure => simp [intOf]; omega
                · obtain rfl : j = k + 1 := by omega
                  have hv := valG_lt (g.take (k + 1))
                  have hv' : valG (g.take (k + 1)) ≤ 34359738368 := by
                    rw [List.length_take] at hv
                    have e1 : (128 : Nat) ^ (min (k + 1) g.length) ≤ 128 ^ 5 := Nat.pow_le_pow_right (by omega) (by omega)
                    have e2 : (128 : Nat) ^ 5 = 34359738368 := by decide
                    omega
                  have K2 := signed_any _ hv' wr
                  obtain ⟨s, hs⟩ : ∃ s, sgn (valG (g.take (k + 1))) = s := ⟨_, rfl⟩
                  rw [hs] at K2
                  have HS : Hid (_ = s) := hs
                  have HD : Hid (g.getD k 0 = x) := hgd
                  have hb1 : -9223372036854775808 ≤ s ∧ s ≤ 9223372036854775807 := by rw [← hs]; unfold sgn; split <;> omega
                  clear hs hv
                  go_wp2_with fail
                  refine K2.mono ?_
                  rintro e w2 ⟨rfl, hw2⟩
                  subst hw2
                  clear K2
                  rcases (by omega : s < -1000000000 ∨ 1000000000 < s ∨ (-1000000000 ≤ s ∧ s ≤ 1000000000)) with hr | hr | ⟨hr, hr'⟩
                  · go_wp2_with fail
                    go_ret3
                    exact ⟨by rw [getN_bad _ HII.out (Or.inr (Or.inl (by rw [HS.out]; exact hr)))]; rfl, rfl⟩
                  · have hr2 : ¬ s < -1000000000 := by omega
                    go_wp2_with fail
                    go_ret3
                    exact ⟨by rw [getN_bad _ HII.out (Or.inr (Or.inr (by rw [HS.out]; exact hr)))]; rfl, rfl⟩
                  · have hr2 : ¬ s < -1000000000 := by omega
                    have hr3 : ¬ 1000000000 < s := by omega
                    go_wp2_with fail
                    go_ret3
                    exact ⟨by rw [getN_good _ HII.out (by rw [HS.out, HD.out]; intro h; rcases h with h | h | h; exact HZ.out h; omega; omega), HS.out]; rfl, rfl⟩
          · have hx0 : (x == 0) = false := by simpa using fun e => hz ⟨hk0, e⟩
            have hk0' : (0 : Int) < k := by omega
            have hkn0 : ¬ (k : Int) < 0 := by omega
            have HZ : Hid (¬ (0 < k ∧ x = 0)) := hz
            clear hk0 hz
            by_cases h5 : q + 5 < len
            · obtain rfl : n = 5 := by have := HN.out; omega
              clear HN
              have h5' : ¬ (len : Int) ≤ q + 5 := by omega
              have e5 : (q + 5 : Int).toNat - q = 5 := by omega
              go_enter Try.func13, Try.ntmps13
              go_wp2_with fail
              refine (HK.out _).mono ?_
              rintro e w1 ⟨rfl, hw1⟩
              subst hw1
              rw [HI.out]
              go_wp2_with fail
              go_loopw [9, 49] (fun mm i wr => ∃ j : Nat, j ≤ k + 1 ∧ i = .int .i64 j ∧ mm = .int .i64 (valG (g.take j)) ∧ wr = w1) (fun _ i _ => k + 1 - (intOf i).toNat)
              case atStart => exact ⟨0, by omega, rfl, by simp [valG], rfl⟩
              case round =>
                obtain ⟨j, hj, rfl, rfl, rfl⟩ := hrel
                by_cases hlt : j < k + 1
                · have hjg : j < g.length := by have := HGL.out; omega
                  obtain ⟨b', o', e', _, _, hc⟩ := hG.2.2 j hjg
                  injection e' with e'
                  injection e' with e1 e2
                  subst e1 e2
                  have hx := hokG g[j] (List.getElem_mem _)
                  have HV : Hid (_ = _) := valG_take g j hjg
                  have hv := valG_lt (g.take j)
                  have hj4 : j ≤ 4 := by omega
                  obtain ⟨x, hgx⟩ : ∃ x, g[j] = x := ⟨_, rfl⟩
                  rw [hgx] at hc hx HV
                  clear hgx
                  go_wp2_with fail
                  go_roundw
                  case rel =>
                    refine ⟨j + 1, by omega, by go_num, ?_, by first | rfl | trivial⟩
                    rw [HV.out, shl_val _ _ _ hj4 (by rw [List.length_take, Nat.min_eq_left (by omega)] at hv; exact hv)]
                  case measure => simp [intOf]; omega
                · obtain rfl : j = k + 1 := by omega
                  have hv := valG_lt (g.take (k + 1))
                  have hv' : valG (g.take (k + 1)) ≤ 34359738368 := by
                    rw [List.length_take] at hv
                    have e1 : (128 : Nat) ^ (min (k + 1) g.length) ≤ 128 ^ 5 := Nat.pow_le_pow_right (by omega) (by omega)
                    have e2 : (128 : Nat) ^ 5 = 34359738368 := by decide
                    omega
                  have K2 := signed_any _ hv' wr
                  obtain ⟨s, hs⟩ : ∃ s, sgn (valG (g.take (k + 1))) = s := ⟨_, rfl⟩
                  rw [hs] at K2
                  have HS : Hid (_ = s) := hs
                  have HD : Hid (g.getD k 0 = x) := hgd
                  have hb1 : -9223372036854775808 ≤ s ∧ s ≤ 9223372036854775807 := by rw [← hs]; unfold sgn; split <;> omega
                  clear hs hv
                  go_wp2_with fail
                  refine K2.mono ?_
                  rintro e w2 ⟨rfl, hw2⟩
                  subst hw2
                  clear K2
                  rcases (by omega : s < -1000000000 ∨ 1000000000 < s ∨ (-1000000000 ≤ s ∧ s ≤ 1000000000)) with hr | hr | ⟨hr, hr'⟩
                  · go_wp2_with fail
                    go_ret3
                    exact ⟨by rw [getN_bad _ HII.out (Or.inr (Or.inl (by rw [HS.out]; exact hr)))]; rfl, rfl⟩
                  · have hr2 : ¬ s < -1000000000 := by omega
                    go_wp2_with fail
                    go_ret3
                    exact ⟨by rw [getN_bad _ HII.out (Or.inr (Or.inr (by rw [HS.out]; exact hr)))]; rfl, rfl⟩
                  · have hr2 : ¬ s < -1000000000 := by omega
                    have hr3 : ¬ 1000000000 < s := by omega
                    go_wp2_with fail
                    go_ret3
                    exact ⟨by rw [getN_good _ HII.out (by rw [HS.out, HD.out]; intro h; rcases h with h | h | h; exact HZ.out h; omega; omega), HS.out]; rfl, rfl⟩
            · have hn' : len - q = n := by have := HN.out; omega
              have h5' : (len : Int) ≤ q + 5 := by omega
              go_enter Try.func13, Try.ntmps13
              go_wp2_with fail
              refine (HK.out _).mono ?_
              rintro e w1 ⟨rfl, hw1⟩
              subst hw1
              rw [HI.out]
              go_wp2_with fail
              go_loopw [9, 49] (fun mm i wr => ∃ j : Nat, j ≤ k + 1 ∧ i = .int .i64 j ∧ mm = .int .i64 (valG (g.take j)) ∧ wr = w1) (fun _ i _ => k + 1 - (intOf i).toNat)
              case atStart => exact ⟨0, by omega, rfl, by simp [valG], rfl⟩
              case round =>
                obtain ⟨j, hj, rfl, rfl, rfl⟩ := hrel
                by_cases hlt : j < k + 1
                · have hjg : j < g.length := by have := HGL.out; omega
                  obtain ⟨b', o', e', _, _, hc⟩ := hG.2.2 j hjg
                  injection e' with e'
                  injection e' with e1 e2
                  subst e1 e2
                  have hx := hokG g[j] (List.getElem_mem _)
                  have HV : Hid (_ = _) := valG_take g j hjg
                  have hv := valG_lt (g.take j)
                  have hj4 : j ≤ 4 := by omega
                  obtain ⟨x, hgx⟩ : ∃ x, g[j] = x := ⟨_, rfl⟩
                  rw [hgx] at hc hx HV
                  clear hgx
                  go_wp2_with fail
                  go_roundw
                  case rel =>
                    refine ⟨j + 1, by omega, by go_num, ?_, by first | rfl | trivial⟩
                    rw [HV.out, shl_val _ _ _ hj4 (by rw [List.length_take, Nat.min_eq_left (by omega)] at hv; exact hv)]
                  case measure => simp [intOf]; omega
                · obtain rfl : j = k + 1 := by omega
                  have hv := valG_lt (g.take (k + 1))
                  have hv' : valG (g.take (k + 1)) ≤ 34359738368 := by
                    rw [List.length_take] at hv
                    have e1 : (128 : Nat) ^ (min (k + 1) g.length) ≤ 128 ^ 5 := Nat.pow_le_pow_right (by omega) (by omega)
                    have e2 : (128 : Nat) ^ 5 = 34359738368 := by decide
                    omega
                  have K2 := signed_any _ hv' wr
                  obtain ⟨s, hs⟩ : ∃ s, sgn (valG (g.take (k + 1))) = s := ⟨_, rfl⟩
                  rw [hs] at K2
                  have HS : Hid (_ = s) := hs
                  have HD : Hid (g.getD k 0 = x) := hgd
                  have hb1 : -9223372036854775808 ≤ s ∧ s ≤ 9223372036854775807 := by rw [← hs]; unfold sgn; split <;> omega
                  clear hs hv
                  go_wp2_with fail
                  refine K2.mono ?_
                  rintro e w2 ⟨rfl, hw2⟩
                  subst hw2
                  clear K2
                  rcases (by omega : s < -1000000000 ∨ 1000000000 < s ∨ (-1000000000 ≤ s ∧ s ≤ 1000000000)) with hr | hr | ⟨hr, hr'⟩
                  · go_wp2_with fail
                    go_ret3
                    exact ⟨by rw [getN_bad _ HII.out (Or.inr (Or.inl (by rw [HS.out]; exact hr)))]; rfl, rfl⟩
                  · have hr2 : ¬ s < -1000000000 := by omega
                    go_wp2_with fail
                    go_ret3
                    exact ⟨by rw [getN_bad _ HII.out (Or.inr (Or.inr (by rw [HS.out]; exact hr)))]; rfl, rfl⟩
                  · have hr2 : ¬ s < -1000000000 := by omega
                    have hr3 : ¬ 1000000000 < s := by omega
                    go_wp2_with fail
                    go_ret3
                    exact ⟨by rw [getN_good _ HII.out (by rw [HS.out, HD.out]; intro h; rcases h with h | h | h; exact HZ.out h; omega; omega), HS.out]; rfl, rfl⟩

end Go.Proofs.Ytlogpkebacmbiaa
