/-
  The program's iterator 'objectsIn': what it hands to the loop's body.
-/
import Derived.Test.YtaljpbgggembmaaDoorShxHo2
import Derived.Test.YtaljpbgggembmaaDoorShxKpb
namespace Go.Proofs.YtaljpbgggembmaaDoor
open Go.RowKit Go.Shelf
set_option linter.unusedVariables false
set_option linter.unusedSimpArgs false

attribute [local go_sem] Oper.semAt_some

/-- The place of a word of a row. -/
def shf (ao : Option Addr) (n : Nat) : Option Addr := ao.map fun ad => ⟨ad.block, ad.off + n * 2, none⟩
/-- An object of these words: its place, and how many fields it has. -/
abbrev OB (l : List Wrd) := { x : Nat × Nat // ob l x.1 = some x.2 }
def prs {l : List Wrd} (pre : List (OB l)) : List (Nat × Nat) := pre.map (·.1)
theorem prs_snoc {l : List Wrd} (pre : List (OB l)) (x : OB l) : prs (pre ++ [x]) = prs pre ++ [x.1] := by simp [prs]
theorem prs_len {l : List Wrd} (pre : List (OB l)) : (prs pre).length = pre.length := by simp [prs]
/-- What a round is handed: an object's place, and its words. -/
def encO (ao : Option Addr) {l : List Wrd} (x : OB l) : Array Value := #[.int .i64 x.1.1, .slice (shf ao x.1.1) (x.1.2 + 1) (x.1.2 + 1)]

set_option maxRecDepth 100000 in
set_option maxHeartbeats 2000000 in
theorem objIn1_in (n : Nat) (hn : 1 ≤ n) (y Bs n₀ len cap : Nat) (ao : Option Addr) (l : List Wrd) (hm : len ≤ 1048576) (hcap : len ≤ cap) (J Jx : List (OB l) → World → Prop)
    (hY : ∀ pre x W, J pre W → pre.length < len → YieldAt Fence.wide (n - 1) Tryd.prog y (encO ao x) W fun e W' =>
      (e = .returned (.bool true) ∧ J (pre ++ [x]) W' ∧ KpB n₀ Bs W W') ∨ (e = .returned (.bool false) ∧ Jx (pre ++ [x]) W'))
    (W : World) (hBs : W.heap[Bs]? = some (.cells #[.slice ao len cap] 29 (0, 0))) (hc : Ws 0 n₀ W ao len l) (hn₀ : n₀ ≤ W.heap.size) (hJa : AbidesFrom W.heap.size J) (h0 : J [] W) :
    CallsIn Fence.wide n Tryd.prog 40 #[.func (.yield y) #[] #[], .pointer (some ⟨Bs, 0, none⟩)] W fun e W' => (∃ v, e = .returned v) ∧
      ((∃ ys, prs ys = allO l ∧ J ys W') ∨ (∃ pre, prs pre <+: allO l ∧ Jx pre W')) := by
  have HL : Hid (len = l.length) := hc.1
  have hB0 := row_cell hBs 0
  refine callsIn_of_wp Tryd.func40 rfl trivial ?_ rfl
  simp only [Tryd.ntmps40, List.size_toArray, List.length_cons, List.length_nil, Nat.reduceAdd, Nat.reduceSub, Array.replicate_succ, Array.replicate_zero, List.push_toArray, List.append_toArray, List.nil_append, List.cons_append]
  gi_wp2
  gi_loopw [3] (fun i wr => ∃ (a : Nat) (pre : List (OB l)), i = .int .i64 a ∧ Hid (vis l 0 (prs pre) a) ∧ J pre wr ∧ KpB n₀ Bs W wr) (fun i _ => len - (intOf i).toNat)
  case atStart => exact ⟨0, [], rfl, (by show vis l 0 [] 0; rfl), h0, KpB.refl _ _ _⟩
  case round =>
    obtain ⟨a, pre, rfl, HV, hJ, hk⟩ := hrel
    have hBr := row_cell (hk.box _ _ _ hBs) 0
    have hszr := hk.bel.size
    have hnr : n₀ ≤ wr.heap.size := by omega
    by_cases hlt : a < len
    · have K := objectAt_any 0 n₀ ao len cap l a wr hnr (hc.keep (fun k _ hkk => hk.bel.block k hkk) (Nat.le_refl _) (Nat.le_refl _)) hm hcap hlt
      cases hob : ob l a with
      | none =>
        rw [hob] at K
        have HE : Hid (prs pre = allO l) := (full_all HV.out hob).1
        gi_wp2
        refine ⟨trivial, (callsIn_wide.2 K).mono ?_⟩
        rintro e w1 ⟨he, hb1⟩
        obtain rfl : e = .returned (.tuple #[.slice none 0 0, .bool false]) := he
        have hJ1 := hJa pre wr w1 none hJ (grown_belK hb1) (fun r e => by cases e)
        clear K
        gi_wp2
        refine ⟨fun f h => trivial, ?_⟩
        gi_wp2
        refine bodyPost_ret (results_none rfl _ _ _) rfl ?_
        exact ⟨⟨_, rfl⟩, .inl ⟨_, HE.out, hJ1⟩⟩
      | some c =>
        rw [hob] at K
        have HV2 : Hid (vis l 0 (prs (pre ++ [(⟨(a, c), hob⟩ : OB l)])) (a + c + 1)) := by show vis _ _ _ _; rw [prs_snoc]; exact vis_snoc HV.out hob
        have hps : pre.length < len := by have := pre_short HV.out hob; rw [prs_len] at this; have := HL.out; omega
        have hac : a + c < len := by obtain ⟨_, _, h3⟩ := ob_some hob; have := HL.out; omega
        gi_wp2
        refine ⟨trivial, (callsIn_wide.2 K).mono ?_⟩
        rintro e w1 ⟨⟨b, o, rfl, rfl⟩, hb1⟩
        have hJ1 := hJa pre wr w1 none hJ (grown_belK hb1) (fun r e => by cases e)
        have hk1 := hk.trans (KpB.of_below hb1 hnr)
        obtain ⟨fn, tmps, assign, body, hy, hR⟩ := hY pre ⟨(a, c), hob⟩ w1 hJ1 hps
        dsimp only [encO, shf, Option.map] at hy
        clear K
        gi_wp2
        refine hR.mono ?_
        rintro e W3 (⟨rfl, hJ3, hk3⟩ | ⟨rfl, hJx3⟩)
        · gi_wp2
          go_roundw
          case rel => exact ⟨a + c + 1, pre ++ [⟨(a, c), hob⟩], by go_num, HV2, hJ3, hk1.trans hk3⟩
          case measure => simp [intOf]; omega
        · gi_wp2
          refine bodyPost_ret (results_none rfl _ _ _) rfl ?_
          exact ⟨⟨_, rfl⟩, .inr ⟨_, pre_all HV2.out, hJx3⟩⟩
    · have HE : Hid (prs pre = allO l) := (full_all HV.out (ob_out (by have := HL.out; omega))).1
      gi_wp2
      go_end0
      exact ⟨⟨_, rfl⟩, .inl ⟨_, HE.out, hJ⟩⟩

set_option maxHeartbeats 1000000 in
theorem objIn_in (n : Nat) (a : Option Addr) (len cap : Nat) (w : World) :
    CallsIn Fence.wide n Tryd.prog 33 #[.slice a len cap] w fun e w' => e = .returned (.func (.func 40) #[] #[.pointer (some ⟨w.heap.size, 0, none⟩)]) ∧ w' = w.alloc (.cells #[.slice a len cap] 29) := by
  refine callsIn_of_wp Tryd.func33 rfl trivial ?_ rfl
  simp only [Tryd.ntmps33, List.size_toArray, List.length_cons, List.length_nil, Nat.reduceAdd, Nat.reduceSub, Array.replicate_succ, Array.replicate_zero, List.push_toArray, List.append_toArray, List.nil_append, List.cons_append]
  gi_wp2
  go_ret
  exact ⟨rfl, rfl⟩

theorem objIn_stops (n : Nat) (hn : 1 ≤ n) (Bs n₀ len cap : Nat) (ao : Option Addr) (l : List Wrd) (hm : len ≤ 1048576) (hcap : len ≤ cap) (w : World) (hn₀ : n₀ ≤ w.heap.size)
    (hb : w.heap[Bs]? = some (.cells #[.slice ao len cap] 29 (0, 0))) (hc : Ws 0 n₀ w ao len l) :
    SeqStopsK Fence.wide n Tryd.prog 40 #[.pointer (some ⟨Bs, 0, none⟩)] (encO ao (l := l)) (KpB n₀ Bs) (fun ys => prs ys = allO l) (fun pre => prs pre <+: allO l) len w := fun y J Jx W hW hJa _ hY h0 =>
  objIn1_in n hn y Bs n₀ len cap ao l hm hcap J Jx hY W ((hW.block Bs (Array.getElem?_eq_some_iff.1 hb).1).trans hb) (hc.keep (fun k _ hk => hW.block k (by omega)) (Nat.le_refl _) (Nat.le_refl _)) (Nat.le_trans hn₀ hW.size) hJa h0

end Go.Proofs.YtaljpbgggembmaaDoor
