/-
  Free names in the model: 'l2Has', 'l2Binds'.
-/
import Derived.Test.YtgckmnchlkgakaaAluLf00
import Derived.Test.YtgckmnchlkgakaaAluGa00
namespace Go.Proofs.Ytgckmnchlkgakaa
open Go.RowKit
set_option linter.unusedVariables false
set_option linter.unusedSimpArgs false

set_option maxRecDepth 100000 in
set_option maxHeartbeats 1000000 in
theorem l2Has_any {base : Nat} (v : Value) (P : List (List UInt8)) (s : ByteArray) (w : World) (h : Toks base w v P) (hl : P.length ≤ 100000) :
    Calls Try.prog 45 #[v, .string s] w fun e w' => e = .returned (.bool (decide (bs s ∈ P))) ∧ w' = w := by
  obtain ⟨ao, cap, rfl⟩ := toks_form h
  go_enter Try.func45, Try.ntmps45
  go_wp2_with fail
  go_loopw [5] (fun i wr => ∃ j : Nat, j ≤ P.length ∧ i = .int .i64 j ∧ wr = w ∧ Hid (∀ q (hq : q < P.length), q < j → P[q] ≠ bs s)) (fun i _ => P.length - (intOf i).toNat)
  case atStart => exact ⟨0, by omega, rfl, rfl, fun q hq hj => by omega⟩
  case round =>
    obtain ⟨j, hj, rfl, rfl, HN⟩ := hrel
    by_cases hlt : j < P.length
    · obtain ⟨g, cap', e, hg, hgw, hc⟩ := toks_at h j hlt
      injection e with e1 e2 e3
      subst e1
      subst e3
      rw [Nat.zero_add] at hc
      by_cases he : P[j] = bs s
      · have HE : Hid (decide (bs s ∈ P) = true) := by show _ = _; simp; rw [← he]; exact List.getElem_mem hlt
        rw [he, tk_bs] at hc
        clear he
        go_wp2_with fail
        go_ret
        exact ⟨ret_bool HE.out.symm, rfl⟩
      · have HN2 : Hid (∀ q (hq : q < P.length), q < j + 1 → P[q] ≠ bs s) := fun q hq hj2 => by
          by_cases e : q = j
          · subst e; exact he
          · exact HN.out q hq (by omega)
        obtain ⟨z, hz⟩ : ∃ z : ByteArray, tk P[j] = .string z := ⟨_, rfl⟩
        have hzs : ¬ z = s := fun e => he (by
          have : (⟨P[j].toArray⟩ : ByteArray) = z := by simpa [tk] using hz
          rw [e] at this
          rw [← this]; simp [bs])
        have hzl : ¬ z.toList = s.toList := fun e => hzs (ByteArray.ext (by rw [ByteArray.toList_eq, ByteArray.toList_eq] at e; exact Array.toList_inj.1 e))
        have hzb : (z.toList == s.toList) = false := by rw [beq_eq_false_iff_ne]; exact hzl
        rw [hz] at hc
        clear he hz hzl hzs
        go_wp2_with fail
        go_roundw
        case rel => exact ⟨j + 1, by omega, by go_num, by first | rfl | trivial, HN2⟩
        case measure => simp [intOf]; omega
    · have HE : Hid (decide (bs s ∈ P) = false) := by
        show _ = _
        rw [decide_eq_false_iff_not]
        intro hm
        obtain ⟨q, hq, e⟩ := List.getElem_of_mem hm
        exact HN.out q hq (by omega) e
      go_wp2_with fail
      go_ret
      exact ⟨ret_bool HE.out.symm, rfl⟩

end Go.Proofs.Ytgckmnchlkgakaa
