/-
  As Rf, where the iterator tells of what it hands over that it comes next. No statement.
-/
import Derived.Test.YtapamdjoipofmaaDoorFcdRf
import Derived.Test.YtapamdjoipofmaaDoorFcdOi2
namespace Go.Proofs.YtapamdjoipofmaaDoor
open Go.RowKit Go.Shelf
set_option linter.unusedVariables false
set_option linter.unusedSimpArgs false

/-- The contract of an iterator with memory of its own. -/
def SeqQ {α : Type} (n : Nat) (P : Program) (g : Nat) (lb : Array Value) (encs : α → Array Value) (Kp : World → World → Prop) (own : World → Option Nat) (S Sp : List α → Prop) (Ok : List α → Prop) (w : World) : Prop :=
  ∀ (y : Nat) (J Jx : List α → World → Prop) (W : World), Below w.heap.size w W → own W = none → AbP W.heap.size own J → AbP W.heap.size own Jx →
    (∀ pre x W1, J pre W1 → Ok (pre ++ [x]) → YieldAt Fence.wide (n - 1) P y (encs x) W1 fun e W' => (e = .returned (.bool true) ∧ J (pre ++ [x]) W' ∧ Kp W1 W') ∨ (e = .returned (.bool false) ∧ Jx (pre ++ [x]) W')) →
    J [] W → CallsIn Fence.wide n P g (#[.func (.yield y) #[] #[]] ++ lb) W fun e W' => (∃ v, e = .returned v) ∧ ((∃ xs, S xs ∧ J xs W') ∨ (∃ pre, Sp pre ∧ Jx pre W'))

section
variable {α : Type} {n : Nat} {P : Program}

/-- The loop's statement over such an iterator. -/
theorem wpIn_range_ok {g : Operand} {ps : Array Tmp} {assign body : Code} {Q : Exit → Act → World → Prop} {a : Act} {w : World} (h1 : 1 ≤ n) {gf : Nat} {lb : Array Value} (hg : a.eval g = .func (.func gf) #[] lb) (eg : ∀ args w, (callFunc gf args).run P w = .ok (.enter gf args) w)
    {encs : α → Array Value} {Kp : World → World → Prop} {own : World → Option Nat} {S Sp : List α → Prop} {Ok : List α → Prop} (hseq : SeqQ (n - 1) P gf lb encs Kp own S Sp Ok w) (hon : ∀ o o', own ((w.alloc o).alloc o') = none)
    (hKt : ∀ {A B C : World}, Kp A B → Kp B C → Kp A C) (hKb : ∀ (W : World) (l : Nat) (o o' : Obj), w.heap.size ≤ l → W.heap[l]? = some o → o.isCells = false → Kp W (W.putObj l o')) (hps : ∀ x, (encs x).size = ps.size)
    (I : List α → World → Prop) (Ix : Code → List α → World → Prop) (hI : OwnFrom w.heap.size I) (hIx : ∀ c, OwnFrom w.heap.size (Ix c)) (hIp : AbP (w.heap.size + 2) own I) (hIxp : ∀ c, AbP (w.heap.size + 2) own (Ix c)) (h0 : I [] w) (Ax : α → Act)
    (hassign : ∀ (l : Nat) (x : α) (W : World) (K : Act → World → Prop), K (Ax x) W → assign.wpIn (Fence.wide.inRound l) (n - 1 - 1) P (Exit.then K (fun _ _ _ => False)) { tmps := (ps.zip (encs x)).foldl (fun t (p, v) => t.setIfInBounds p v) a.tmps, defers := [] } W)
    (hbody : ∀ (l : Nat) (pre : List α) (x : α) (W : World), I pre W → Ok (pre ++ [x]) → body.wpIn (Fence.wide.inRound l) (n - 1 - 1) P (ownPostG w.heap.size Kp I Ix (pre ++ [x]) W) (Ax x) W)
    (hdone : ∀ (D : Nat) (xs : List α) (W : World), w.heap.size ≤ D → S xs → I xs W → W.heap[D]? = some (.deferred (some [])) → Q .normal { a with defers := { target := .collected D, args := #[] } :: a.defers } W)
    (hstop : ∀ (D : Nat) (c : Code) (pre : List α) (W : World), w.heap.size ≤ D → Sp pre → Ix c pre W → W.heap[D]? = some (.deferred (some [])) → c.wpIn Fence.wide n P Q { a with defers := { target := .collected D, args := #[] } :: a.defers } W) :
    (Code.rangeFunc g ps assign body).wpIn Fence.wide n P Q a w := by
  have hDl : ∀ {W W' : World} {o : Obj}, W.heap[w.heap.size + 1]? = some o → w.heap.size + 1 < W.heap.size := fun h => (Array.getElem?_eq_some_iff.1 h).1
  refine wpIn_rangeFunc fun fn hfn => ?_
  let rec0 : LoopState → Option Code → Loop := fun st pe => { state := st, pending := pe, fn, tmps := a.tmps, params := ps, assign, body, defers := w.heap.size }
  obtain ⟨R, hR⟩ : ∃ R : LoopState → Option Code → Loop, R = fun st pe => { state := st, pending := pe, fn, tmps := a.tmps, params := ps, assign, body, defers := w.heap.size } := ⟨_, rfl⟩
  clear rec0
  obtain ⟨V, hV⟩ : ∃ V, V = (w.alloc (.deferred (some []))).alloc (.loop (R .ready none)) := ⟨_, rfl⟩
  have vS : V.heap.size = w.heap.size + 2 := by rw [hV]; simp
  have vL : V.heap[w.heap.size + 1]? = some (.loop (R .ready none)) := by rw [hV]; exact heap_new (by simp)
  have vD : V.heap[w.heap.size]? = some (.deferred (some [])) := by rw [hV, Below.heap_alloc _ _ _ (by simp)]; exact heap_new rfl
  have vB : Below w.heap.size w V := by rw [hV]; exact ((Below.refl _ w).alloc (Nat.le_refl _) _).alloc (by simp) _
  have vI : I [] V := by rw [hV]; exact hI.alloc _ (hI.alloc _ h0)
  have vO : own V = none := by rw [hV]; exact hon _ _
  refine ⟨w.heap.size + 1, [{ target := .collected w.heap.size, args := #[] }], V, { target := .fn (.func gf) lb, args := #[.func (.yield (w.heap.size + 1)) #[] #[]] }, V, gf, #[.func (.yield (w.heap.size + 1)) #[] #[]] ++ lb, V, ?enter, ?res, fun _ _ => trivial, ?inv, fun _ => h1, ?call⟩
  case enter => rw [hV, hR]; exact run_enterLoop_outer _ _ _ _ _
  case res => simp only [resolve, hg]; simp [go_sem]
  case inv => simp [invoke, go_sem, eg]
  case call =>
    -- the record and the block for what is deferred lie below what is the iterator's own
    have ab : ∀ (T : List α → World → Prop) (st : Loop), AbP (w.heap.size + 2) own T → AbP V.heap.size own (fun pre W => T pre W ∧ W.heap[w.heap.size + 1]? = some (.loop st) ∧ W.heap[w.heap.size]? = some (.deferred (some []))) := fun T st hT s A B hA hp => by
      rw [vS] at hp
      exact ⟨hT s A B hA.1 hp, (hp.low _ (by omega)).trans hA.2.1, (hp.low _ (by omega)).trans hA.2.2⟩
    refine (hseq (w.heap.size + 1) (fun pre W => I pre W ∧ W.heap[w.heap.size + 1]? = some (.loop (R .ready none)) ∧ W.heap[w.heap.size]? = some (.deferred (some [])))
      (fun pre W => ∃ c, Ix c pre W ∧ W.heap[w.heap.size + 1]? = some (.loop (R .done (some c))) ∧ W.heap[w.heap.size]? = some (.deferred (some []))) V vB vO (ab I _ hIp)
      (fun s A B hA hp => by obtain ⟨c, hc⟩ := hA; exact ⟨c, ab (Ix c) _ (hIxp c) s A B hc hp⟩) ?round ⟨vI, vL, vD⟩).mono ?behind
    case round =>
      rintro pre x W ⟨hi, hl, hk⟩ hlen
      have hy := run_yield (P := P) (args := encs x) hl (by rw [hR]; exact hps x)
      rw [hR] at hy
      refine ⟨fn, _, assign, body, hy, roundIn_of_wpIn hfn (hassign _ x W _ ?_)⟩
      refine ⟨_, run_beginRound hl (by rw [hR]), ?_⟩
      obtain ⟨Y, hY⟩ : ∃ Y, Y = W.putObj (w.heap.size + 1) (.loop { R .ready none with state := .busy }) := ⟨_, rfl⟩
      have yL : Y.heap[w.heap.size + 1]? = some (.loop { R .ready none with state := .busy }) := by rw [hY]; exact World.putObj_heap_same (hDl (W' := W) hl)
      have yD : Y.heap[w.heap.size]? = some (.deferred (some [])) := by rw [hY]; exact (World.putObj_heap_other (by omega)).trans hk
      have yK : Kp W Y := by rw [hY]; exact hKb _ _ _ _ (by omega) hl rfl
      have yI : I pre Y := by rw [hY]; exact hI.putObj _ hi (by omega) hl rfl
      rw [← hY]
      have ends : ∀ (j : Option Code) (Z : World), KeepsFrom w.heap.size Y Z → (Instr.endRound (w.heap.size + 1) j).run P Z = .ok (.bool j.isNone) (Z.putObj (w.heap.size + 1) (.loop (R (if j.isNone then .ready else .done) j))) ∧ Z.heap[w.heap.size + 1]? = some (.loop { R .ready none with state := .busy }) ∧
          (Z.putObj (w.heap.size + 1) (.loop (R (if j.isNone then .ready else .done) j))).heap[w.heap.size + 1]? = some (.loop (R (if j.isNone then .ready else .done) j)) ∧ (Z.putObj (w.heap.size + 1) (.loop (R (if j.isNone then .ready else .done) j))).heap[w.heap.size]? = some (.deferred (some [])) := by
        intro j Z hZ
        have zL := hZ.same _ _ (by omega) yL rfl
        have zr := run_endRound (P := P) j zL
        refine ⟨by rw [hR] at zr ⊢; exact zr, zL, World.putObj_heap_same (hDl (W' := Z) zL), (World.putObj_heap_other (by omega)).trans (hZ.same _ _ (Nat.le_refl _) yD rfl)⟩
      refine wpIn_mono (hbody _ pre x _ yI hlen) fun e a3 Z hp => ?_
      cases e with
      | normal =>
        obtain ⟨hz, hkp, hi3⟩ := hp
        obtain ⟨hr, zL, zL2, zD⟩ := ends none Z hz
        exact ⟨_, _, hr, .inl ⟨rfl, ⟨hI.putObj _ hi3 (by omega) zL rfl, zL2, zD⟩, hKt (hKt yK hkp) (hKb _ _ _ _ (by omega) zL rfl)⟩⟩
      | ret =>
        obtain ⟨hz, hi3⟩ := hp
        obtain ⟨hr, zL, zL2, zD⟩ := ends (some .ret) Z hz
        exact ⟨_, _, hr, .inr ⟨rfl, .ret, (hIx _).putObj _ hi3 (by omega) zL rfl, zL2, zD⟩⟩
      | exit id =>
        obtain ⟨hz, hi3⟩ := hp
        obtain ⟨hr, zL, zL2, zD⟩ := ends (some (.exit id)) Z hz
        exact ⟨_, _, hr, .inr ⟨rfl, .exit id, (hIx _).putObj _ hi3 (by omega) zL rfl, zL2, zD⟩⟩
      | goto t =>
        obtain ⟨hz, hi3⟩ := hp
        obtain ⟨hr, zL, zL2, zD⟩ := ends (some (.goto t)) Z hz
        exact ⟨_, _, hr, .inr ⟨rfl, .goto t, (hIx _).putObj _ hi3 (by omega) zL rfl, zL2, zD⟩⟩
      | panic ch => exact hp.elim
      | outgrown => exact hp.elim
    case behind =>
      rintro e Z ⟨⟨v, rfl⟩, hZ⟩
      rcases hZ with ⟨xs, hS, hi, hl, hk⟩ | ⟨pre, hSp, c, hi, hl, hk⟩
      · exact ⟨none, _, by have := run_endLoop (P := P) hl (by rw [hR]; simp); rw [hR] at this; exact this, hdone _ xs _ (Nat.le_refl _) hS (hI.putObj _ hi (by omega) hl rfl) ((World.putObj_heap_other (by omega)).trans hk)⟩
      · exact ⟨some c, _, by have := run_endLoop (P := P) hl (by rw [hR]; simp); rw [hR] at this; exact this, hstop _ c pre _ (Nat.le_refl _) hSp ((hIx c).putObj _ hi (by omega) hl rfl) ((World.putObj_heap_other (by omega)).trans hk)⟩
end

end Go.Proofs.YtapamdjoipofmaaDoor

/-
  The iterator 'objectsIn' over a row whose fields change, object behind object. No statement.
-/
namespace Go.Proofs.YtapamdjoipofmaaDoor
open Go.RowKit Go.Shelf
set_option linter.unusedVariables false
set_option linter.unusedSimpArgs false

set_option maxRecDepth 100000 in
set_option maxHeartbeats 2000000 in
theorem objIn3_in (n : Nat) (hn : 1 ≤ n) (y Bs n₀ base len cap : Nat) (ao : Option Addr) (l : List Wrd) (hl : len = l.length) (hm : len ≤ 1048576) (hcap : len ≤ cap) (J Jx : List (OB l) → World → Prop)
    (hY : ∀ pre x W, J pre W → prs (pre ++ [x]) <+: allO l → YieldAt Fence.wide (n - 1) Tryd.prog y (encO ao x) W fun e W' =>
      (e = .returned (.bool true) ∧ J (pre ++ [x]) W' ∧ KpE n₀ Bs base ao len cap l W W') ∨ (e = .returned (.bool false) ∧ Jx (pre ++ [x]) W'))
    (W : World) (hBs : W.heap[Bs]? = some (.cells #[.slice ao len cap] 24 (0, 0))) (hc : WsE base W ao len cap l) (hn₀ : n₀ ≤ W.heap.size) (hJa : AbP W.heap.size (fun _ => none) J) (h0 : J [] W) :
    CallsIn Fence.wide n Tryd.prog 36 #[.func (.yield y) #[] #[], .pointer (some ⟨Bs, 0, none⟩)] W fun e W' => (∃ v, e = .returned v) ∧
      ((∃ ys, prs ys = allO l ∧ J ys W') ∨ (∃ pre, prs pre <+: allO l ∧ Jx pre W')) := by
  have HL : Hid (len = l.length) := hl
  clear hl
  have hB0 := row_cell hBs 0
  refine callsIn_of_wp Tryd.func36 rfl trivial ?_ rfl
  simp only [Tryd.ntmps36, List.size_toArray, List.length_cons, List.length_nil, Nat.reduceAdd, Nat.reduceSub, Array.replicate_succ, Array.replicate_zero, List.push_toArray, List.append_toArray, List.nil_append, List.cons_append]
  gi_wp2
  gi_loopw [3] (fun i wr => ∃ (a : Nat) (pre : List (OB l)), i = .int .i64 a ∧ Hid (vis l 0 (prs pre) a) ∧ J pre wr ∧ KpE n₀ Bs base ao len cap l W wr) (fun i _ => len - (intOf i).toNat)
  case atStart => exact ⟨0, [], rfl, (by show vis l 0 [] 0; rfl), h0, KpE.refl _ _ _ _ _ _ _ _⟩
  case round =>
    obtain ⟨a, pre, rfl, HV, hJ, hk⟩ := hrel
    have hBr := row_cell (hk.box _ _ _ hBs) 0
    have hszr := hk.bel.size
    have hszW : W.heap.size ≤ wr.heap.size := hszr
    have hnr : n₀ ≤ wr.heap.size := by omega
    by_cases hlt : a < len
    · obtain ⟨l', hsm, hW'⟩ := hk.wse hc
      have hl' : len = l'.length := by rw [HL.out]; exact same_len hsm
      have K := objectAt_any base wr.heap.size ao len cap l' a wr (Nat.le_refl _) (wors_is6 hl' hm hW') hm hcap hlt
      rw [ob_same hsm] at K
      clear hsm hW' hl'
      cases hob : ob l a with
      | none =>
        rw [hob] at K
        have HE : Hid (prs pre = allO l) := (full_all HV.out hob).1
        gi_wp2
        refine ⟨trivial, (callsIn_wide.2 K).mono ?_⟩
        rintro e w1 ⟨he, hb1⟩
        obtain rfl : e = .returned (.tuple #[.slice none 0 0, .bool false]) := he
        have hJ1 := hJa pre wr w1 hJ ⟨hb1.os, hb1.tape, hb1.output, hb1.size, fun k hk => hb1.block k (by omega), (fun k hk => by cases hk), rfl⟩
        clear K
        gi_wp2
        refine ⟨fun f h => trivial, ?_⟩
        gi_wp2
        refine bodyPost_ret (results_none rfl _ _ _) rfl ?_
        exact ⟨⟨_, rfl⟩, .inl ⟨_, HE.out, hJ1⟩⟩
      | some c =>
        rw [hob] at K
        have HV2 : Hid (vis l 0 (prs (pre ++ [(⟨(a, c), hob⟩ : OB l)])) (a + c + 1)) := by show vis _ _ _ _; rw [prs_snoc]; exact vis_snoc HV.out hob
        have hps : pre.length < len := by have := pre_short HV.out hob; rw [prs_len] at this; have := HL.out; omega
        have hac : a + c < len := by obtain ⟨_, _, h3⟩ := ob_some hob; have := HL.out; omega
        gi_wp2
        refine ⟨trivial, (callsIn_wide.2 K).mono ?_⟩
        rintro e w1 ⟨⟨b, o, rfl, rfl⟩, hb1⟩
        have hJ1 := hJa pre wr w1 hJ ⟨hb1.os, hb1.tape, hb1.output, hb1.size, fun k hk => hb1.block k (by omega), (fun k hk => by cases hk), rfl⟩
        have hk1 := hk.trans (KpE.of_below hb1 hnr)
        obtain ⟨fn, tmps, assign, body, hy, hR⟩ := hY pre ⟨(a, c), hob⟩ w1 hJ1 (pre_all HV2.out)
        dsimp only [encO, shf, Option.map] at hy
        clear K
        gi_wp2
        refine hR.mono ?_
        rintro e W3 (⟨rfl, hJ3, hk3⟩ | ⟨rfl, hJx3⟩)
        · gi_wp2
          go_roundw
          case rel => exact ⟨a + c + 1, pre ++ [⟨(a, c), hob⟩], by go_num, HV2, hJ3, hk1.trans hk3⟩
          case measure => simp [intOf]; omega
        · gi_wp2
          refine bodyPost_ret (results_none rfl _ _ _) rfl ?_
          exact ⟨⟨_, rfl⟩, .inr ⟨_, pre_all HV2.out, hJx3⟩⟩
    · have HE : Hid (prs pre = allO l) := (full_all HV.out (ob_out (by have := HL.out; omega))).1
      gi_wp2
      go_end0
      exact ⟨⟨_, rfl⟩, .inl ⟨_, HE.out, hJ⟩⟩

theorem objIn3_seq (n : Nat) (hn : 1 ≤ n) (Bs n₀ base len cap : Nat) (ao : Option Addr) (l : List Wrd) (hl : len = l.length) (hm : len ≤ 1048576) (hcap : len ≤ cap) (w : World) (hn₀ : n₀ ≤ w.heap.size)
    (hb : w.heap[Bs]? = some (.cells #[.slice ao len cap] 24 (0, 0))) (hc : WsE base w ao len cap l) :
    SeqQ n Tryd.prog 36 #[.pointer (some ⟨Bs, 0, none⟩)] (encO ao (l := l)) (KpE n₀ Bs base ao len cap l) (fun _ => none) (fun ys => prs ys = allO l) (fun pre => prs pre <+: allO l) (fun pre => prs pre <+: allO l) w := fun y J Jx W hW _ hJa _ hY h0 =>
  objIn3_in n hn y Bs n₀ base len cap ao l hl hm hcap J Jx hY W ((hW.block Bs (Array.getElem?_eq_some_iff.1 hb).1).trans hb) ((KpE.of_below (n₀ := n₀) (Bs := Bs) hW hn₀).wse hc) (Nat.le_trans hn₀ hW.size) hJa h0

end Go.Proofs.YtapamdjoipofmaaDoor
