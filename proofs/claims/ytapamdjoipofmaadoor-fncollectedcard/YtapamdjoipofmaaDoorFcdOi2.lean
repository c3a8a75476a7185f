/-
  The iterator 'objectsIn' over a row whose fields change while it goes: its heads stay. No statement.
-/
import Derived.Test.YtapamdjoipofmaaDoorFcdCl0
import Derived.Test.YtapamdjoipofmaaDoorFcdZ8
namespace Go.Proofs.YtapamdjoipofmaaDoor
open Go.RowKit Go.Shelf
set_option linter.unusedVariables false
set_option linter.unusedSimpArgs false

/-- Heads are where heads were. -/
def Sam (l' l : List Wrd) : Prop := l'.map cntH = l.map cntH
theorem same_len {l' l : List Wrd} (h : Sam l' l) : l.length = l'.length := by
  have := congrArg List.length h
  simpa using this.symm
theorem ob_same {l' l : List Wrd} (h : Sam l' l) {a : Nat} : ob l' a = ob l a := by
  have hl := same_len h
  have hg : (l'[a]?).map cntH = (l[a]?).map cntH := by rw [← List.getElem?_map, ← List.getElem?_map, show l'.map cntH = _ from h]
  unfold ob
  cases h1 : l'[a]? with
  | none =>
    have : l[a]? = none := by rw [List.getElem?_eq_none_iff] at h1 ⊢; omega
    rw [this]
  | some x =>
    cases h2 : l[a]? with
    | none => rw [h1, h2] at hg; cases hg
    | some y =>
      rw [h1, h2] at hg
      simp only [Option.map_some, Option.some.injEq] at hg
      simp only [hg, hl]
/-- The row lies there, its heads as they were. -/
def WsE (base : Nat) (W : World) (ao : Option Addr) (len cap : Nat) (l : List Wrd) : Prop := ∃ l', Sam l' l ∧ Wors base W (.slice ao len cap) l'
/-- What a round that goes on keeps: what lay below n₀, one box, and that row's heads. -/
structure KpE (n₀ Bs base : Nat) (ao : Option Addr) (len cap : Nat) (l : List Wrd) (W W' : World) : Prop where
  bel : Below n₀ W W'
  box : ∀ c t fr, W.heap[Bs]? = some (.cells c t fr) → W'.heap[Bs]? = some (.cells c t fr)
  wse : WsE base W ao len cap l → WsE base W' ao len cap l
theorem KpE.refl (n₀ Bs base : Nat) (ao : Option Addr) (len cap : Nat) (l : List Wrd) (W : World) : KpE n₀ Bs base ao len cap l W W := ⟨Below.refl _ _, fun _ _ _ h => h, fun h => h⟩
theorem KpE.trans {n₀ Bs base : Nat} {ao : Option Addr} {len cap : Nat} {l : List Wrd} {A B C : World} (h : KpE n₀ Bs base ao len cap l A B) (k : KpE n₀ Bs base ao len cap l B C) : KpE n₀ Bs base ao len cap l A C := ⟨h.bel.trans k.bel, fun c t fr hc => k.box c t fr (h.box c t fr hc), fun hw => k.wse (h.wse hw)⟩
theorem KpE.of_below {n₀ Bs base : Nat} {ao : Option Addr} {len cap : Nat} {l : List Wrd} {W W' : World} (hb : Below W.heap.size W W') (hn : n₀ ≤ W.heap.size) : KpE n₀ Bs base ao len cap l W W' :=
  ⟨hb.mono hn, fun c t fr hc => (hb.block _ (Array.getElem?_eq_some_iff.1 hc).1).trans hc, fun ⟨l', h1, h2⟩ => ⟨l', h1, wors_bel h2 hb⟩⟩
theorem KpE.put {n₀ Bs base B : Nat} {ao : Option Addr} {len cap : Nat} {l : List Wrd} (hB : n₀ ≤ B) (W : World) (k : Nat) (o o' : Obj) (hl : B ≤ k) (h : W.heap[k]? = some o) (ho : o.isCells = false) : KpE n₀ Bs base ao len cap l W (W.putObj k o') := by
  have hg := grownBy_putObj' W k o'
  have hcs : ∀ (q : Nat) (c : Array Value) (t : TypeId) (fr : Nat × Nat), W.heap[q]? = some (Obj.cells c t fr) → (W.putObj k o').heap[q]? = W.heap[q]? := fun q c t fr hc => World.putObj_heap_other (fun e => by
    subst e
    rw [hc] at h
    cases h
    cases ho)
  refine ⟨⟨hg.os, hg.tape, hg.output, hg.size, fun q hq => World.putObj_heap_other (by omega)⟩, fun c t fr hc => (hcs _ _ _ _ hc).trans hc, fun ⟨l', h1, h2⟩ => ⟨l', h1, wors_keep h2 (fun g hgo => ?_)⟩⟩
  obtain ⟨c, t, fr, hc⟩ := wors_cs h2 hgo
  exact hcs _ _ _ _ hc

set_option maxRecDepth 100000 in
set_option maxHeartbeats 2000000 in
theorem objIn2_in (n : Nat) (hn : 1 ≤ n) (y Bs n₀ base len cap : Nat) (ao : Option Addr) (l : List Wrd) (hl : len = l.length) (hm : len ≤ 1048576) (hcap : len ≤ cap) (J Jx : List (OB l) → World → Prop)
    (hY : ∀ pre x W, J pre W → pre.length < len → YieldAt Fence.wide (n - 1) Tryd.prog y (encO ao x) W fun e W' =>
      (e = .returned (.bool true) ∧ J (pre ++ [x]) W' ∧ KpE n₀ Bs base ao len cap l W W') ∨ (e = .returned (.bool false) ∧ Jx (pre ++ [x]) W'))
    (W : World) (hBs : W.heap[Bs]? = some (.cells #[.slice ao len cap] 24 (0, 0))) (hc : WsE base W ao len cap l) (hn₀ : n₀ ≤ W.heap.size) (hJa : AbidesFrom W.heap.size J) (h0 : J [] W) :
    CallsIn Fence.wide n Tryd.prog 36 #[.func (.yield y) #[] #[], .pointer (some ⟨Bs, 0, none⟩)] W fun e W' => (∃ v, e = .returned v) ∧
      ((∃ ys, prs ys = allO l ∧ J ys W') ∨ (∃ pre, prs pre <+: allO l ∧ Jx pre W')) := by
  have HL : Hid (len = l.length) := hl
  clear hl
  have hB0 := row_cell hBs 0
  refine callsIn_of_wp Tryd.func36 rfl trivial ?_ rfl
  simp only [Tryd.ntmps36, List.size_toArray, List.length_cons, List.length_nil, Nat.reduceAdd, Nat.reduceSub, Array.replicate_succ, Array.replicate_zero, List.push_toArray, List.append_toArray, List.nil_append, List.cons_append]
  gi_wp2
  gi_loopw [3] (fun i wr => ∃ (a : Nat) (pre : List (OB l)), i = .int .i64 a ∧ Hid (vis l 0 (prs pre) a) ∧ J pre wr ∧ KpE n₀ Bs base ao len cap l W wr) (fun i _ => len - (intOf i).toNat)
  case atStart => exact ⟨0, [], rfl, (by show vis l 0 [] 0; rfl), h0, KpE.refl _ _ _ _ _ _ _ _⟩
  case round =>
    obtain ⟨a, pre, rfl, HV, hJ, hk⟩ := hrel
    have hBr := row_cell (hk.box _ _ _ hBs) 0
    have hszr := hk.bel.size
    have hnr : n₀ ≤ wr.heap.size := by omega
    by_cases hlt : a < len
    · obtain ⟨l', hsm, hW'⟩ := hk.wse hc
      have hl' : len = l'.length := by rw [HL.out]; exact same_len hsm
      have K := objectAt_any base wr.heap.size ao len cap l' a wr (Nat.le_refl _) (wors_is6 hl' hm hW') hm hcap hlt
      rw [ob_same hsm] at K
      clear hsm hW' hl'
      cases hob : ob l a with
      | none =>
        rw [hob] at K
        have HE : Hid (prs pre = allO l) := (full_all HV.out hob).1
        gi_wp2
        refine ⟨trivial, (callsIn_wide.2 K).mono ?_⟩
        rintro e w1 ⟨he, hb1⟩
        obtain rfl : e = .returned (.tuple #[.slice none 0 0, .bool false]) := he
        have hJ1 := hJa pre wr w1 none hJ (grown_belK hb1) (fun r e => by cases e)
        clear K
        gi_wp2
        refine ⟨fun f h => trivial, ?_⟩
        gi_wp2
        refine bodyPost_ret (results_none rfl _ _ _) rfl ?_
        exact ⟨⟨_, rfl⟩, .inl ⟨_, HE.out, hJ1⟩⟩
      | some c =>
        rw [hob] at K
        have HV2 : Hid (vis l 0 (prs (pre ++ [(⟨(a, c), hob⟩ : OB l)])) (a + c + 1)) := by show vis _ _ _ _; rw [prs_snoc]; exact vis_snoc HV.out hob
        have hps : pre.length < len := by have := pre_short HV.out hob; rw [prs_len] at this; have := HL.out; omega
        have hac : a + c < len := by obtain ⟨_, _, h3⟩ := ob_some hob; have := HL.out; omega
        gi_wp2
        refine ⟨trivial, (callsIn_wide.2 K).mono ?_⟩
        rintro e w1 ⟨⟨b, o, rfl, rfl⟩, hb1⟩
        have hJ1 := hJa pre wr w1 none hJ (grown_belK hb1) (fun r e => by cases e)
        have hk1 := hk.trans (KpE.of_below hb1 hnr)
        obtain ⟨fn, tmps, assign, body, hy, hR⟩ := hY pre ⟨(a, c), hob⟩ w1 hJ1 hps
        dsimp only [encO, shf, Option.map] at hy
        clear K
        gi_wp2
        refine hR.mono ?_
        rintro e W3 (⟨rfl, hJ3, hk3⟩ | ⟨rfl, hJx3⟩)
        · gi_wp2
          go_roundw
          case rel => exact ⟨a + c + 1, pre ++ [⟨(a, c), hob⟩], by go_num, HV2, hJ3, hk1.trans hk3⟩
          case measure => simp [intOf]; omega
        · gi_wp2
          refine bodyPost_ret (results_none rfl _ _ _) rfl ?_
          exact ⟨⟨_, rfl⟩, .inr ⟨_, pre_all HV2.out, hJx3⟩⟩
    · have HE : Hid (prs pre = allO l) := (full_all HV.out (ob_out (by have := HL.out; omega))).1
      gi_wp2
      go_end0
      exact ⟨⟨_, rfl⟩, .inl ⟨_, HE.out, hJ⟩⟩

theorem objIn2_stops (n : Nat) (hn : 1 ≤ n) (Bs n₀ base len cap : Nat) (ao : Option Addr) (l : List Wrd) (hl : len = l.length) (hm : len ≤ 1048576) (hcap : len ≤ cap) (w : World) (hn₀ : n₀ ≤ w.heap.size)
    (hb : w.heap[Bs]? = some (.cells #[.slice ao len cap] 24 (0, 0))) (hc : WsE base w ao len cap l) :
    SeqStopsK Fence.wide n Tryd.prog 36 #[.pointer (some ⟨Bs, 0, none⟩)] (encO ao (l := l)) (KpE n₀ Bs base ao len cap l) (fun ys => prs ys = allO l) (fun pre => prs pre <+: allO l) len w := fun y J Jx W hW hJa _ hY h0 =>
  objIn2_in n hn y Bs n₀ base len cap ao l hl hm hcap J Jx hY W ((hW.block Bs (Array.getElem?_eq_some_iff.1 hb).1).trans hb) ((KpE.of_below (n₀ := n₀) (Bs := Bs) hW hn₀).wse hc) (Nat.le_trans hn₀ hW.size) hJa h0

end Go.Proofs.YtapamdjoipofmaaDoor
