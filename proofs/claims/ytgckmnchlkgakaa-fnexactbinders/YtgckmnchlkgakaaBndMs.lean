/-
  Rows of names: held against each other; marked; and whether they still bear their marks.
-/
import Derived.Test.YtgckmnchlkgakaaBndMs0
import Derived.Test.YtgckmnchlkgakaaBndZ16
import Derived.Test.YtgckmnchlkgakaaBndGa00
import Derived.Test.YtgckmnchlkgakaaBndOb
import Derived.Test.YtgckmnchlkgakaaBndTr
import Derived.Deep.QuietTactic
import Derived.BigQuiet
import Derived.Test.YtgckmnchlkgakaaBndNw
import Derived.Deep.RegionWith
import Derived.Laws.IdiomStrings
namespace Go.Proofs.Ytgckmnchlkgakaa
open Go.RowKit
set_option linter.unusedVariables false
set_option linter.unusedSimpArgs false

set_option maxRecDepth 100000 in
set_option maxHeartbeats 1000000 in
theorem eqStringS_any {base base' : Nat} (v u : Value) (P Q : List (List UInt8)) (w : World) (h : Toks base w v P) (k : Toks base' w u Q) (hl : P.length ≤ 100000) (hl2 : Q.length ≤ 100000) :
    Calls Try.prog 12 #[v, u] w fun e w' => e = .returned (.bool (decide (P = Q))) ∧ Below w.heap.size w w' := by
  obtain ⟨ao, cap, rfl⟩ := toks_form h
  obtain ⟨ao', cap', rfl⟩ := toks_form k
  by_cases hn : P.length = Q.length
  · have hne : ((P.length : Int) != (Q.length : Int)) = false := by simp [hn]
    have HL : Hid (P.length = Q.length) := hn
    clear hn
    go_enter Try.func12, Try.ntmps12
    go_wp2_with fail
    go_loopw [5] (fun i wr => ∃ j : Nat, j ≤ P.length ∧ i = .int .i64 j ∧ Below w.heap.size w wr ∧ Hid (P.take j = Q.take j)) (fun i _ => P.length - (intOf i).toNat)
    case atStart => exact ⟨0, by omega, rfl, Below.refl _ _, rfl⟩
    case round =>
      obtain ⟨j, hj, rfl, hbr, HN⟩ := hrel
      by_cases hlt : j < P.length
      · obtain ⟨g, cp, e, hg, hgw, hc⟩ := toks_at (toks_bel h hbr) j hlt
        obtain ⟨g', cp', e', hg', hgw', hc'⟩ := toks_at (toks_bel k hbr) j (by have := HL.out; omega)
        injection e with e1 e2 e3
        injection e' with f1 f2 f3
        subst e1 e3 f1 f3
        rw [Nat.zero_add] at hc hc'
        unfold tk at hc hc'
        have hlq : j < Q.length := by have := HL.out; omega
        by_cases he : P[j] = Q[j]
        · have HN2 : Hid (P.take (j + 1) = Q.take (j + 1)) := by show _ = _; rw [List.take_succ_eq_append_getElem hlt, List.take_succ_eq_append_getElem (by have := HL.out; omega), HN.out, he]
          have hb : ((⟨P[j].toArray⟩ : ByteArray).toList != (⟨Q[j].toArray⟩ : ByteArray).toList) = false := by rw [he]; simp
          have hb2 : ((⟨P[j].toArray⟩ : ByteArray).toList == (⟨Q[j].toArray⟩ : ByteArray).toList) = true := by rw [he]; simp
          generalize (⟨P[j].toArray⟩ : ByteArray) = z1 at *
          generalize (⟨Q[j].toArray⟩ : ByteArray) = z2 at *
          clear he
          go_wp2_with fail
          go_quiet (fail)
          go_wp2_with fail
          go_roundw
          case rel => exact ⟨j + 1, by omega, by go_num, below_drewN hbr _, HN2⟩
          case measure => simp [intOf]; omega
        · have HE : Hid (decide (P = Q) = false) := by show _ = _; rw [decide_eq_false_iff_not]; intro e; subst e; exact he rfl
          have hb : ((⟨P[j].toArray⟩ : ByteArray).toList != (⟨Q[j].toArray⟩ : ByteArray).toList) = true := by rw [tk_list, tk_list, bne_iff_ne]; exact he
          have hb2 : ((⟨P[j].toArray⟩ : ByteArray).toList == (⟨Q[j].toArray⟩ : ByteArray).toList) = false := by rw [tk_list, tk_list, beq_eq_false_iff_ne]; exact he
          generalize (⟨P[j].toArray⟩ : ByteArray) = z1 at *
          generalize (⟨Q[j].toArray⟩ : ByteArray) = z2 at *
          clear he
          go_wp2_with fail
          go_quiet (fail)
          go_wp2_with fail
          go_ret
          exact ⟨ret_bool HE.out.symm, below_drewN hbr _⟩
      · have HE : Hid (decide (P = Q) = true) := by
          show _ = _
          rw [decide_eq_true_eq]
          have := HN.out
          have h2 := HL.out
          rwa [List.take_of_length_le (by omega), List.take_of_length_le (by omega)] at this
        go_wp2_with fail
        go_ret
        exact ⟨ret_bool HE.out.symm, hbr⟩
  · have HE : Hid (decide (P = Q) = false) := by show _ = _; rw [decide_eq_false_iff_not]; intro e; exact hn (by rw [e])
    have hne : ((P.length : Int) != (Q.length : Int)) = true := by rw [bne_iff_ne]; omega
    clear hn
    go_enter Try.func12, Try.ntmps12
    go_wp2_with fail
    go_ret
    exact ⟨ret_bool HE.out.symm, Below.refl _ _⟩

end Go.Proofs.Ytgckmnchlkgakaa
