/-
  The program's iterator 'objectsIn': what it hands to the loop's body.
-/
import Derived.Test.YtapamdjoipofmaaDoorFcdZ7
import Derived.Test.YtapamdjoipofmaaDoorFcdZ3
namespace Go.Proofs.YtapamdjoipofmaaDoor
open Go.RowKit Go.Shelf
set_option linter.unusedVariables false
set_option linter.unusedSimpArgs false

attribute [local go_sem] Oper.semAt_some

/-- The place of a word of a row. -/
def shf (ao : Option Addr) (n : Nat) : Option Addr := ao.map fun ad => ⟨ad.block, ad.off + n * 2, none⟩
/-- An object of these words: its place, and how many fields it has. -/
abbrev OB (l : List Wrd) := { x : Nat × Nat // ob l x.1 = some x.2 }
def prs {l : List Wrd} (pre : List (OB l)) : List (Nat × Nat) := pre.map (·.1)
theorem prs_snoc {l : List Wrd} (pre : List (OB l)) (x : OB l) : prs (pre ++ [x]) = prs pre ++ [x.1] := by simp [prs]
theorem prs_len {l : List Wrd} (pre : List (OB l)) : (prs pre).length = pre.length := by simp [prs]
/-- What a round is handed: an object's place, and its words. -/
def encO (ao : Option Addr) {l : List Wrd} (x : OB l) : Array Value := #[.int .i64 x.1.1, .slice (shf ao x.1.1) (x.1.2 + 1) (x.1.2 + 1)]

set_option maxRecDepth 100000 in
set_option maxHeartbeats 2000000 in
theorem objIn1_in (n : Nat) (hn : 1 ≤ n) (y Bs n₀ len cap : Nat) (ao : Option Addr) (l : List Wrd) (hm : len ≤ 1048576) (hcap : len ≤ cap) (J Jx : List (OB l) → World → Prop)
    (hY : ∀ pre x W, J pre W → pre.length < len → YieldAt Fence.wide (n - 1) Tryd.prog y (encO ao x) W fun e W' =>
      (e = .returned (.bool true) ∧ J (pre ++ [x]) W' ∧ KpB n₀ Bs W W') ∨ (e = .returned (.bool false) ∧ Jx (pre ++ [x]) W'))
    (W : World) (hBs : W.heap[Bs]? = some (.cells #[.slice ao len cap] 24 (0, 0))) (hc : Ws 0 n₀ W ao len l) (hn₀ : n₀ ≤ W.heap.size) (hJa : AbidesFrom W.heap.size J) (h0 : J [] W) :
    CallsIn Fence.wide n Tryd.prog 36 #[.func (.yield y) #[] #[], .pointer (some ⟨Bs, 0, none⟩)] W fun e W' => (∃ v, e = .returned v) ∧
      ((∃ ys, prs ys = allO l ∧ J ys W') ∨ (∃ pre, prs pre <+: allO l ∧ Jx pre W')) := by
  have HL : Hid (len = l.length) := hc.1
  have hB0 := row_cell hBs 0
  refine callsIn_of_wp Tryd.func36 rfl trivial ?_ rfl
  simp only [Tryd.ntmps36, List.size_toArray, List.length_cons, List.length_nil, Nat.reduceAdd, Nat.reduceSub, Array.replicate_succ, Array.replicate_zero, List.push_toArray, List.append_toArray, List.nil_append, List.cons_append]
  gi_wp2
  gi_loopw [3] (fun i wr => ∃ (a : Nat) (pre : List (OB l)), i = .int .i64 a ∧ Hid (vis l 0 (prs pre) a) ∧ J pre wr ∧ KpB n₀ Bs W wr) (fun i _ => len - (intOf i).toNat)
  case atStart => exact ⟨0, [], rfl, (by show vis l 0 [] 0; rfl), h0, KpB.refl _ _ _⟩
  case round =>
    obtain ⟨a, pre, rfl, HV, hJ, hk⟩ := hrel
    have hBr := row_cell (hk.box _ _ _ hBs) 0
    have hszr := hk.bel.size
    have hnr : n₀ ≤ wr.heap.size := by omega
    by_cases hlt : a < len
    · have K := objectAt_any 0 n₀ ao len cap l a wr hnr (hc.keep (fun k _ hkk => hk.bel.block k hkk) (Nat.le_refl _) (Nat.le_refl _)) hm hcap hlt
      cases hob : ob l a with
      | none =>
        rw [hob] at K
        have HE : Hid (prs pre = allO l) := (full_all HV.out hob).1
        gi_wp2
        refine ⟨trivial, (callsIn_wide.2 K).mono ?_⟩
        rintro e w1 ⟨he, hb1⟩
        obtain rfl : e = .returned (.tuple #[.slice none 0 0, .bool false]) := he
        have hJ1 := hJa pre wr w1 none hJ (grown_belK hb1) (fun r e => by cases e)
        clear K
        gi_wp2
        refine ⟨fun f h => trivial, ?_⟩
        gi_wp2
        refine bodyPost_ret (results_none rfl _ _ _) rfl ?_
        exact ⟨⟨_, rfl⟩, .inl ⟨_, HE.out, hJ1⟩⟩
      | some c =>
        rw [hob] at K
        have HV2 : Hid (vis l 0 (prs (pre ++ [(⟨(a, c), hob⟩ : OB l)])) (a + c + 1)) := by show vis _ _ _ _; rw [prs_snoc]; exact vis_snoc HV.out hob
        have hps : pre.length < len := by have := pre_short HV.out hob; rw [prs_len] at this; have := HL.out; omega
        have hac : a + c < len := by obtain ⟨_, _, h3⟩ := ob_some hob; have := HL.out; omega
        gi_wp2
        refine ⟨trivial, (callsIn_wide.2 K).mono ?_⟩
        rintro e w1 ⟨⟨b, o, rfl, rfl⟩, hb1⟩
        have hJ1 := hJa pre wr w1 none hJ (grown_belK hb1) (fun r e => by cases e)
        have hk1 := hk.trans (KpB.of_below hb1 hnr)
        obtain ⟨fn, tmps, assign, body, hy, hR⟩ := hY pre ⟨(a, c), hob⟩ w1 hJ1 hps
        dsimp only [encO, shf, Option.map] at hy
        clear K
        gi_wp2
        refine hR.mono ?_
        rintro e W3 (⟨rfl, hJ3, hk3⟩ | ⟨rfl, hJx3⟩)
        · gi_wp2
          go_roundw
          case rel => exact ⟨a + c + 1, pre ++ [⟨(a, c), hob⟩], by go_num, HV2, hJ3, hk1.trans hk3⟩
          case measure => simp [intOf]; omega
        · gi_wp2
          refine bodyPost_ret (results_none rfl _ _ _) rfl ?_
          exact ⟨⟨_, rfl⟩, .inr ⟨_, pre_all HV2.out, hJx3⟩⟩
    · have HE : Hid (prs pre = allO l) := (full_all HV.out (ob_out (by have := HL.out; omega))).1
      gi_wp2
      go_end0
      exact ⟨⟨_, rfl⟩, .inl ⟨_, HE.out, hJ⟩⟩

set_option maxHeartbeats 1000000 in
theorem objIn_in (n : Nat) (a : Option Addr) (len cap : Nat) (w : World) :
    CallsIn Fence.wide n Tryd.prog 20 #[.slice a len cap] w fun e w' => e = .returned (.func (.func 36) #[] #[.pointer (some ⟨w.heap.size, 0, none⟩)]) ∧ w' = w.alloc (.cells #[.slice a len cap] 24) := by
  refine callsIn_of_wp Tryd.func20 rfl trivial ?_ rfl
  simp only [Tryd.ntmps20, List.size_toArray, List.length_cons, List.length_nil, Nat.reduceAdd, Nat.reduceSub, Array.replicate_succ, Array.replicate_zero, List.push_toArray, List.append_toArray, List.nil_append, List.cons_append]
  gi_wp2
  go_ret
  exact ⟨rfl, rfl⟩

theorem objIn_stops (n : Nat) (hn : 1 ≤ n) (Bs n₀ len cap : Nat) (ao : Option Addr) (l : List Wrd) (hm : len ≤ 1048576) (hcap : len ≤ cap) (w : World) (hn₀ : n₀ ≤ w.heap.size)
    (hb : w.heap[Bs]? = some (.cells #[.slice ao len cap] 24 (0, 0))) (hc : Ws 0 n₀ w ao len l) :
    SeqStopsK Fence.wide n Tryd.prog 36 #[.pointer (some ⟨Bs, 0, none⟩)] (encO ao (l := l)) (KpB n₀ Bs) (fun ys => prs ys = allO l) (fun pre => prs pre <+: allO l) len w := fun y J Jx W hW hJa _ hY h0 =>
  objIn1_in n hn y Bs n₀ len cap ao l hm hcap J Jx hY W ((hW.block Bs (Array.getElem?_eq_some_iff.1 hb).1).trans hb) (hc.keep (fun k _ hk => hW.block k (by omega)) (Nat.le_refl _) (Nat.le_refl _)) (Nat.le_trans hn₀ hW.size) hJa h0

end Go.Proofs.YtapamdjoipofmaaDoor

/-
  Worlds in which nothing has changed but some blocks. No walk, no statement.
-/
namespace Go.Proofs.YtapamdjoipofmaaDoor
open Go.RowKit Go.Shelf
set_option linter.unusedVariables false
set_option linter.unusedSimpArgs false

/-- Nothing that was there has changed but these blocks. -/
structure Oth (D : List Nat) (W0 W : World) : Prop where
  os : W.os = W0.os
  tape : W.tape = W0.tape
  output : W.output = W0.output
  size : W0.heap.size ≤ W.heap.size
  block : ∀ k, k < W0.heap.size → k ∉ D → W.heap[k]? = W0.heap[k]?
theorem Oth.refl (D : List Nat) (W : World) : Oth D W W := ⟨rfl, rfl, rfl, Nat.le_refl _, fun _ _ _ => rfl⟩
theorem Oth.below {D : List Nat} {W0 W W' : World} (h : Oth D W0 W) (hb : Below W.heap.size W W') : Oth D W0 W' :=
  ⟨hb.os.trans h.os, hb.tape.trans h.tape, hb.output.trans h.output, Nat.le_trans h.size hb.size, fun k hk hd => (hb.block k (Nat.lt_of_lt_of_le hk h.size)).trans (h.block k hk hd)⟩
theorem Oth.set {D : List Nat} {W0 W : World} (h : Oth D W0 W) {g : Nat} (hg : g ∈ D) (o : Nat) (v : Value) : Oth D W0 (W.setCell ⟨g, o, none⟩ v) :=
  ⟨h.os, h.tape, h.output, by simpa using h.size, fun k hk hd => (row_other _ _ _ (fun e => hd (by rw [e]; exact hg))).trans (h.block k hk hd)⟩
theorem Oth.new {D : List Nat} {W0 W : World} (h : Oth D W0 W) {g : Nat} (hg : W0.heap.size ≤ g) (o : Nat) (v : Value) : Oth D W0 (W.setCell ⟨g, o, none⟩ v) :=
  ⟨h.os, h.tape, h.output, by simpa using h.size, fun k hk hd => (row_other _ _ _ (by omega)).trans (h.block k hk hd)⟩
theorem Oth.alloc {D : List Nat} {W0 W : World} (h : Oth D W0 W) (o : Obj) : Oth D W0 (W.alloc o) := h.below ((Below.refl _ _).alloc (Nat.le_refl _) o)
theorem Oth.drewN {D : List Nat} {W0 W : World} (h : Oth D W0 W) (n : Nat) : Oth D W0 (W.drewN n) := ⟨h.os, h.tape, h.output, h.size, h.block⟩
theorem Oth.drew {D : List Nat} {W0 W : World} (h : Oth D W0 W) : Oth D W0 W.drew := ⟨h.os, h.tape, h.output, h.size, h.block⟩
theorem Oth.toBelow {D : List Nat} {W0 W : World} (h : Oth D W0 W) {n : Nat} (hn : n ≤ W0.heap.size) (hd : ∀ d ∈ D, n ≤ d) : Below n W0 W :=
  ⟨h.os, h.tape, h.output, h.size, fun k hk => h.block k (by omega) (fun e => by have := hd k e; omega)⟩
theorem Oth.put {D : List Nat} {W0 W : World} (h : Oth D W0 W) {l : Nat} (hl : W0.heap.size ≤ l) (o : Obj) : Oth D W0 (W.putObj l o) := by
  have hg := grownBy_putObj' W l o
  exact ⟨hg.os.trans h.os, hg.tape.trans h.tape, hg.output.trans h.output, Nat.le_trans h.size hg.size, fun k hk hd => (World.putObj_heap_other (by omega)).trans (h.block k hk hd)⟩
theorem ownFrom_oth {β : Type} {D : List Nat} {W0 : World} {B : Nat} (hB : W0.heap.size ≤ B) : OwnFrom B (fun (_ : β) W => Oth D W0 W) :=
  fun _ W W' row hs hg hr => ⟨hg.os.trans hs.os, hg.tape.trans hs.tape, hg.output.trans hs.output, Nat.le_trans hs.size hg.size, fun k hk hd =>
    (hg.block k (Nat.lt_of_lt_of_le hk hs.size) (fun e => by have := (hr k e.symm).1; omega)).trans (hs.block k hk hd)⟩
theorem keeps_set {W : World} {g o : Nat} {v : Value} : KeepsOthers W (W.setCell ⟨g, o, none⟩ v) := KeepsOthers.setCell _ _ _
theorem keeps_below {W W' : World} (h : Below W.heap.size W W') : KeepsOthers W W' := ⟨h.size, fun k o hk _ => (h.block k (Array.getElem?_eq_some_iff.1 hk).1).trans hk⟩
theorem oth_join {D : List Nat} {W0 W W' : World} (h : Oth [] W0 W) (k : Oth D W W') : Oth D W0 W' :=
  ⟨k.os.trans h.os, k.tape.trans h.tape, k.output.trans h.output, Nat.le_trans h.size k.size, fun i hi hd => (k.block i (Nat.lt_of_lt_of_le hi h.size) hd).trans (h.block i hi (by simp))⟩

end Go.Proofs.YtapamdjoipofmaaDoor

/-
  The model's 'l1In', at any numbers.
-/
namespace Go.Proofs.YtapamdjoipofmaaDoor
open Go.RowKit
set_option linter.unusedVariables false
set_option linter.unusedSimpArgs false

set_option maxHeartbeats 400000 in
theorem l1In_all (x a b : Int) (w : World) : Calls Tryd.prog 43 #[.int .i64 x, .int .i64 a, .int .i64 b] w fun e w' => e = .returned (.bool (decide (a ≤ x) && decide (x ≤ b))) ∧ w' = w := by
  obtain ⟨ans, hans⟩ : ∃ c, (decide (a ≤ x) && decide (x ≤ b)) = c := ⟨_, rfl⟩
  rw [hans]
  have HA : Hid ((decide (a ≤ x) && decide (x ≤ b)) = ans) := hans
  clear hans
  by_cases h0 : a ≤ x
  · by_cases h1 : x ≤ b
    · have HE : Hid (ans = true) := by show _ = _; rw [← HA.out]; simp [h0, h1]
      go_enter Tryd.func43, Tryd.ntmps43
      go_wp2_with fail
      go_ret
      exact ⟨ret_bool (by rw [HE.out]), rfl⟩
    · have HE : Hid (ans = false) := by show _ = _; rw [← HA.out]; simp [h0, h1]
      go_enter Tryd.func43, Tryd.ntmps43
      go_wp2_with fail
      go_ret
      exact ⟨ret_bool (by rw [HE.out]), rfl⟩
  · have HE : Hid (ans = false) := by show _ = _; rw [← HA.out]; simp [h0]
    go_enter Tryd.func43, Tryd.ntmps43
    go_wp2_with fail
    go_ret
    exact ⟨ret_bool (by rw [HE.out]), rfl⟩

end Go.Proofs.YtapamdjoipofmaaDoor
