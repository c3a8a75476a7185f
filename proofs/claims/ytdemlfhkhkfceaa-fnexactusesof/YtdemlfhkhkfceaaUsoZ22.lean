/-
  Free names in the model: 'l2Binds'.
-/
import Derived.Test.YtdemlfhkhkfceaaUsoZ8
import Derived.Test.YtdemlfhkhkfceaaUsoZ11
import Derived.Test.YtdemlfhkhkfceaaUsoZ3
namespace Go.Proofs.Ytdemlfhkhkfceaa
open Go.RowKit
set_option linter.unusedVariables false
set_option linter.unusedSimpArgs false

set_option maxRecDepth 100000 in
set_option maxHeartbeats 1000000 in
theorem l2Binds_any (t : Tm) (a1 : Option Addr) (l1 c1 : Nat) (a2 : Option Addr) (l2 c2 : Nat) (a3 : Option Addr) (l3 c3 : Nat) (i : Nat) (hi : i ≤ 1000) (w : World) :
    Calls Try.prog 39 #[.agg #[.int .i64 t.K, .int .i64 t.N, .string t.S, .string t.Z, .int .i64 t.T.K, .int .i64 t.T.N, .slice a1 l1 c1, .slice a2 l2 c2, .slice a3 l3 c3], .int .i64 i] w fun e w' => LitE w w' e (bindsW t.K (bs t.S) (bs t.Z) i) := by
  by_cases h4 : t.K = 4
  · have HN : Hid (bindsW t.K (bs t.S) (bs t.Z) i = [bs t.S]) := by show _ = _; simp [bindsW, h4]
    rw [HN.out]
    go_enter Try.func39, Try.ntmps39
    go_wp2_with fail
    go_ret
    exact lit_1 _ _ _
  by_cases h7 : t.K = 7
  · have HN : Hid (bindsW t.K (bs t.S) (bs t.Z) i = [bs t.S]) := by show _ = _; simp [bindsW, h7]
    rw [HN.out]
    go_enter Try.func39, Try.ntmps39
    go_wp2_with fail
    go_ret
    exact lit_1 _ _ _
  by_cases h6 : t.K = 6
  · by_cases hi1 : i = 1
    · have HN : Hid (bindsW t.K (bs t.S) (bs t.Z) i = [bs t.S]) := by show _ = _; simp [bindsW, h6, hi1]
      have bi : ((i : Int) == 1) = true := by simp [hi1]
      rw [HN.out]
      clear hi1
      go_enter Try.func39, Try.ntmps39
      go_wp2_with fail
      go_ret
      exact lit_1 _ _ _
    · have HN : Hid (bindsW t.K (bs t.S) (bs t.Z) i = []) := by show _ = _; simp [bindsW, h6, hi1]
      have bi : ((i : Int) == 1) = false := by rw [beq_eq_false_iff_ne]; omega
      rw [HN.out]
      clear hi1
      go_enter Try.func39, Try.ntmps39
      go_wp2_with fail
      go_ret
      exact lit_0 _ _
  by_cases h17 : t.K = 17
  · by_cases hi1 : i = 1
    · have HN : Hid (bindsW t.K (bs t.S) (bs t.Z) i = [bs t.S]) := by show _ = _; simp [bindsW, h17, hi1]
      have bi : ((i : Int) == 1) = true := by simp [hi1]
      rw [HN.out]
      clear hi1
      go_enter Try.func39, Try.ntmps39
      go_wp2_with fail
      go_ret
      exact lit_1 _ _ _
    · have HN : Hid (bindsW t.K (bs t.S) (bs t.Z) i = []) := by show _ = _; simp [bindsW, h17, hi1]
      have bi : ((i : Int) == 1) = false := by rw [beq_eq_false_iff_ne]; omega
      rw [HN.out]
      clear hi1
      go_enter Try.func39, Try.ntmps39
      go_wp2_with fail
      go_ret
      exact lit_0 _ _
  by_cases h14 : t.K = 14
  · by_cases hi2 : i = 2
    · have HN : Hid (bindsW t.K (bs t.S) (bs t.Z) i = [bs t.S, bs t.Z]) := by show _ = _; simp [bindsW, h14, hi2]
      have bi : ((i : Int) == 2) = true := by simp [hi2]
      rw [HN.out]
      clear hi2
      go_enter Try.func39, Try.ntmps39
      go_wp2_with fail
      go_ret
      exact lit_2 _ _ _ _
    · have HN : Hid (bindsW t.K (bs t.S) (bs t.Z) i = []) := by show _ = _; simp [bindsW, h14, hi2]
      have bi : ((i : Int) == 2) = false := by rw [beq_eq_false_iff_ne]; omega
      rw [HN.out]
      clear hi2
      go_enter Try.func39, Try.ntmps39
      go_wp2_with fail
      go_ret
      exact lit_0 _ _
  have HN : Hid (bindsW t.K (bs t.S) (bs t.Z) i = []) := by show _ = _; simp [bindsW, h4, h7, h6, h17, h14]
  have b4 : (t.K == 4) = false := by simp [h4]
  have b7 : (t.K == 7) = false := by simp [h7]
  have b6 : (t.K == 6) = false := by simp [h6]
  have b17 : (t.K == 17) = false := by simp [h17]
  have b14 : (t.K == 14) = false := by simp [h14]
  clear h4 h7 h6 h17 h14
  rw [HN.out]
  go_enter Try.func39, Try.ntmps39
  go_wp2_with fail
  go_ret
  exact lit_0 _ _

end Go.Proofs.Ytdemlfhkhkfceaa

/-
  Free names in the model: 'l2Has', 'l2Binds'.
-/
namespace Go.Proofs.Ytdemlfhkhkfceaa
open Go.RowKit
set_option linter.unusedVariables false
set_option linter.unusedSimpArgs false

set_option maxRecDepth 100000 in
set_option maxHeartbeats 1000000 in
theorem l2Has_any {base : Nat} (v : Value) (P : List (List UInt8)) (s : ByteArray) (w : World) (h : Toks base w v P) (hl : P.length ≤ 100000) :
    Calls Try.prog 38 #[v, .string s] w fun e w' => e = .returned (.bool (decide (bs s ∈ P))) ∧ w' = w := by
  obtain ⟨ao, cap, rfl⟩ := toks_form h
  go_enter Try.func38, Try.ntmps38
  go_wp2_with fail
  go_loopw [5] (fun i wr => ∃ j : Nat, j ≤ P.length ∧ i = .int .i64 j ∧ wr = w ∧ Hid (∀ q (hq : q < P.length), q < j → P[q] ≠ bs s)) (fun i _ => P.length - (intOf i).toNat)
  case atStart => exact ⟨0, by omega, rfl, rfl, fun q hq hj => by omega⟩
  case round =>
    obtain ⟨j, hj, rfl, rfl, HN⟩ := hrel
    by_cases hlt : j < P.length
    · obtain ⟨g, cap', e, hg, hgw, hc⟩ := toks_at h j hlt
      injection e with e1 e2 e3
      subst e1
      subst e3
      rw [Nat.zero_add] at hc
      by_cases he : P[j] = bs s
      · have HE : Hid (decide (bs s ∈ P) = true) := by show _ = _; simp; rw [← he]; exact List.getElem_mem hlt
        rw [he, tk_bs] at hc
        clear he
        go_wp2_with fail
        go_ret
        exact ⟨ret_bool HE.out.symm, rfl⟩
      · have HN2 : Hid (∀ q (hq : q < P.length), q < j + 1 → P[q] ≠ bs s) := fun q hq hj2 => by
          by_cases e : q = j
          · subst e; exact he
          · exact HN.out q hq (by omega)
        obtain ⟨z, hz⟩ : ∃ z : ByteArray, tk P[j] = .string z := ⟨_, rfl⟩
        have hzs : ¬ z = s := fun e => he (by
          have : (⟨P[j].toArray⟩ : ByteArray) = z := by simpa [tk] using hz
          rw [e] at this
          rw [← this]; simp [bs])
        have hzl : ¬ z.toList = s.toList := fun e => hzs (ByteArray.ext (by rw [ByteArray.toList_eq, ByteArray.toList_eq] at e; exact Array.toList_inj.1 e))
        have hzb : (z.toList == s.toList) = false := by rw [beq_eq_false_iff_ne]; exact hzl
        rw [hz] at hc
        clear he hz hzl hzs
        go_wp2_with fail
        go_roundw
        case rel => exact ⟨j + 1, by omega, by go_num, by first | rfl | trivial, HN2⟩
        case measure => simp [intOf]; omega
    · have HE : Hid (decide (bs s ∈ P) = false) := by
        show _ = _
        rw [decide_eq_false_iff_not]
        intro hm
        obtain ⟨q, hq, e⟩ := List.getElem_of_mem hm
        exact HN.out q hq (by omega) e
      go_wp2_with fail
      go_ret
      exact ⟨ret_bool HE.out.symm, rfl⟩

end Go.Proofs.Ytdemlfhkhkfceaa
