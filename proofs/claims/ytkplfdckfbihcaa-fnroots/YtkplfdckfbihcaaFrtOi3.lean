/-
  The iterator 'objectsIn' over a row whose fields change, object behind object. No statement.
-/
import Derived.Test.YtkplfdckfbihcaaFrtOi2
import Derived.Test.YtkplfdckfbihcaaFrtRf2
namespace Go.Proofs.Ytkplfdckfbihcaa
open Go.RowKit Go.Shelf
set_option linter.unusedVariables false
set_option linter.unusedSimpArgs false

set_option maxRecDepth 100000 in
set_option maxHeartbeats 2000000 in
theorem objIn3_in (n : Nat) (hn : 1 ≤ n) (y Bs n₀ base len cap : Nat) (ao : Option Addr) (l : List Wrd) (hl : len = l.length) (hm : len ≤ 1048576) (hcap : len ≤ cap) (J Jx : List (OB l) → World → Prop)
    (hY : ∀ pre x W, J pre W → prs (pre ++ [x]) <+: allO l → YieldAt Fence.wide (n - 1) Try.prog y (encO ao x) W fun e W' =>
      (e = .returned (.bool true) ∧ J (pre ++ [x]) W' ∧ KpE n₀ Bs base ao len cap l W W') ∨ (e = .returned (.bool false) ∧ Jx (pre ++ [x]) W'))
    (W : World) (hBs : W.heap[Bs]? = some (.cells #[.slice ao len cap] 24 (0, 0))) (hc : WsE base W ao len cap l) (hn₀ : n₀ ≤ W.heap.size) (hJa : AbP W.heap.size (fun _ => none) J) (h0 : J [] W) :
    CallsIn Fence.wide n Try.prog 50 #[.func (.yield y) #[] #[], .pointer (some ⟨Bs, 0, none⟩)] W fun e W' => (∃ v, e = .returned v) ∧
      ((∃ ys, prs ys = allO l ∧ J ys W') ∨ (∃ pre, prs pre <+: allO l ∧ Jx pre W')) := by
  have HL : Hid (len = l.length) := hl
  clear hl
  have hB0 := row_cell hBs 0
  refine callsIn_of_wp Try.func50 rfl trivial ?_ rfl
  simp only [Try.ntmps50, List.size_toArray, List.length_cons, List.length_nil, Nat.reduceAdd, Nat.reduceSub, Array.replicate_succ, Array.replicate_zero, List.push_toArray, List.append_toArray, List.nil_append, List.cons_append]
  gi_wp2
  gi_loopw [3] (fun i wr => ∃ (a : Nat) (pre : List (OB l)), i = .int .i64 a ∧ Hid (vis l 0 (prs pre) a) ∧ J pre wr ∧ KpE n₀ Bs base ao len cap l W wr) (fun i _ => len - (intOf i).toNat)
  case atStart => exact ⟨0, [], rfl, (by show vis l 0 [] 0; rfl), h0, KpE.refl _ _ _ _ _ _ _ _⟩
  case round =>
    obtain ⟨a, pre, rfl, HV, hJ, hk⟩ := hrel
    have hBr := row_cell (hk.box _ _ _ hBs) 0
    have hszr := hk.bel.size
    have hszW : W.heap.size ≤ wr.heap.size := hszr
    have hnr : n₀ ≤ wr.heap.size := by omega
    by_cases hlt : a < len
    · obtain ⟨l', hsm, hW'⟩ := hk.wse hc
      have hl' : len = l'.length := by rw [HL.out]; exact same_len hsm
      have K := objectAt_any base wr.heap.size ao len cap l' a wr (Nat.le_refl _) (wors_is6 hl' hm hW') hm hcap hlt
      rw [ob_same hsm] at K
      clear hsm hW' hl'
      cases hob : ob l a with
      | none =>
        rw [hob] at K
        have HE : Hid (prs pre = allO l) := (full_all HV.out hob).1
        gi_wp2
        refine ⟨trivial, (callsIn_wide.2 K).mono ?_⟩
        rintro e w1 ⟨he, hb1⟩
        obtain rfl : e = .returned (.tuple #[.slice none 0 0, .bool false]) := he
        have hJ1 := hJa pre wr w1 hJ ⟨hb1.os, hb1.tape, hb1.output, hb1.size, fun k hk => hb1.block k (by omega), (fun k hk => by cases hk), rfl⟩
        clear K
        gi_wp2
        refine ⟨fun f h => trivial, ?_⟩
        gi_wp2
        refine bodyPost_ret (results_none rfl _ _ _) rfl ?_
        exact ⟨⟨_, rfl⟩, .inl ⟨_, HE.out, hJ1⟩⟩
      | some c =>
        rw [hob] at K
        have HV2 : Hid (vis l 0 (prs (pre ++ [(⟨(a, c), hob⟩ : OB l)])) (a + c + 1)) := by show vis _ _ _ _; rw [prs_snoc]; exact vis_snoc HV.out hob
        have hps : pre.length < len := by have := pre_short HV.out hob; rw [prs_len] at this; have := HL.out; omega
        have hac : a + c < len := by obtain ⟨_, _, h3⟩ := ob_some hob; have := HL.out; omega
        gi_wp2
        refine ⟨trivial, (callsIn_wide.2 K).mono ?_⟩
        rintro e w1 ⟨⟨b, o, rfl, rfl⟩, hb1⟩
        have hJ1 := hJa pre wr w1 hJ ⟨hb1.os, hb1.tape, hb1.output, hb1.size, fun k hk => hb1.block k (by omega), (fun k hk => by cases hk), rfl⟩
        have hk1 := hk.trans (KpE.of_below hb1 hnr)
        obtain ⟨fn, tmps, assign, body, hy, hR⟩ := hY pre ⟨(a, c), hob⟩ w1 hJ1 (pre_all HV2.out)
        dsimp only [encO, shf, Option.map] at hy
        clear K
        gi_wp2
        refine hR.mono ?_
        rintro e W3 (⟨rfl, hJ3, hk3⟩ | ⟨rfl, hJx3⟩)
        · gi_wp2
          go_roundw
          case rel => exact ⟨a + c + 1, pre ++ [⟨(a, c), hob⟩], by go_num, HV2, hJ3, hk1.trans hk3⟩
          case measure => simp [intOf]; omega
        · gi_wp2
          refine bodyPost_ret (results_none rfl _ _ _) rfl ?_
          exact ⟨⟨_, rfl⟩, .inr ⟨_, pre_all HV2.out, hJx3⟩⟩
    · have HE : Hid (prs pre = allO l) := (full_all HV.out (ob_out (by have := HL.out; omega))).1
      gi_wp2
      go_end0
      exact ⟨⟨_, rfl⟩, .inl ⟨_, HE.out, hJ⟩⟩

theorem objIn3_seq (n : Nat) (hn : 1 ≤ n) (Bs n₀ base len cap : Nat) (ao : Option Addr) (l : List Wrd) (hl : len = l.length) (hm : len ≤ 1048576) (hcap : len ≤ cap) (w : World) (hn₀ : n₀ ≤ w.heap.size)
    (hb : w.heap[Bs]? = some (.cells #[.slice ao len cap] 24 (0, 0))) (hc : WsE base w ao len cap l) :
    SeqQ n Try.prog 50 #[.pointer (some ⟨Bs, 0, none⟩)] (encO ao (l := l)) (KpE n₀ Bs base ao len cap l) (fun _ => none) (fun ys => prs ys = allO l) (fun pre => prs pre <+: allO l) (fun pre => prs pre <+: allO l) w := fun y J Jx W hW _ hJa _ hY h0 =>
  objIn3_in n hn y Bs n₀ base len cap ao l hl hm hcap J Jx hY W ((hW.block Bs (Array.getElem?_eq_some_iff.1 hb).1).trans hb) ((KpE.of_below (n₀ := n₀) (Bs := Bs) hW hn₀).wse hc) (Nat.le_trans hn₀ hW.size) hJa h0

end Go.Proofs.Ytkplfdckfbihcaa
