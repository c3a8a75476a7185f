/-
  A loop over an iterator that keeps memory of its own in cells: what the caller owes. No statement.
-/
import Derived.Test.YtapamdjoipofmaaDoorFcdZ8
namespace Go.Proofs.YtapamdjoipofmaaDoor
open Go.RowKit Go.Shelf
set_option linter.unusedVariables false
set_option linter.unusedSimpArgs false

/-- A step of the iterator's own: what lay below m, and the row that the caller owns, is as it was. -/
structure Prv (m : Nat) (own : World → Option Nat) (A B : World) : Prop where
  os : B.os = A.os
  tape : B.tape = A.tape
  output : B.output = A.output
  size : A.heap.size ≤ B.heap.size
  low : ∀ k, k < m → B.heap[k]? = A.heap[k]?
  row : ∀ k, own A = some k → B.heap[k]? = A.heap[k]?
  same : own B = own A
theorem Prv.refl (m : Nat) (own : World → Option Nat) (A : World) : Prv m own A A := ⟨rfl, rfl, rfl, Nat.le_refl _, fun _ _ => rfl, fun _ _ => rfl, rfl⟩
theorem Prv.trans {m : Nat} {own : World → Option Nat} {A B C : World} (h : Prv m own A B) (k : Prv m own B C) : Prv m own A C :=
  ⟨k.os.trans h.os, k.tape.trans h.tape, k.output.trans h.output, Nat.le_trans h.size k.size, fun i hi => (k.low i hi).trans (h.low i hi), fun i hi => (k.row i (h.same.trans hi)).trans (h.row i hi), k.same.trans h.same⟩

/-- It abides the iterator's own steps. -/
def AbP {β : Type} (m : Nat) (own : World → Option Nat) (J : β → World → Prop) : Prop := ∀ s A B, J s A → Prv m own A B → J s B

/-- The contract of an iterator with memory of its own. -/
def SeqP {α : Type} (n : Nat) (P : Program) (g : Nat) (lb : Array Value) (encs : α → Array Value) (Kp : World → World → Prop) (own : World → Option Nat) (S Sp : List α → Prop) (N : Nat) (w : World) : Prop :=
  ∀ (y : Nat) (J Jx : List α → World → Prop) (W : World), Below w.heap.size w W → own W = none → AbP W.heap.size own J → AbP W.heap.size own Jx →
    (∀ pre x W1, J pre W1 → pre.length < N → YieldAt Fence.wide (n - 1) P y (encs x) W1 fun e W' => (e = .returned (.bool true) ∧ J (pre ++ [x]) W' ∧ Kp W1 W') ∨ (e = .returned (.bool false) ∧ Jx (pre ++ [x]) W')) →
    J [] W → CallsIn Fence.wide n P g (#[.func (.yield y) #[] #[]] ++ lb) W fun e W' => (∃ v, e = .returned v) ∧ ((∃ xs, S xs ∧ J xs W') ∨ (∃ pre, Sp pre ∧ Jx pre W'))

section
variable {α : Type} {n : Nat} {P : Program}

/-- The loop's statement over such an iterator. -/
theorem wpIn_range_prv {g : Operand} {ps : Array Tmp} {assign body : Code} {Q : Exit → Act → World → Prop} {a : Act} {w : World} (h1 : 1 ≤ n) {gf : Nat} {lb : Array Value} (hg : a.eval g = .func (.func gf) #[] lb) (eg : ∀ args w, (callFunc gf args).run P w = .ok (.enter gf args) w)
    {encs : α → Array Value} {Kp : World → World → Prop} {own : World → Option Nat} {S Sp : List α → Prop} {N : Nat} (hseq : SeqP (n - 1) P gf lb encs Kp own S Sp N w) (hon : ∀ o o', own ((w.alloc o).alloc o') = none)
    (hKt : ∀ {A B C : World}, Kp A B → Kp B C → Kp A C) (hKb : ∀ (W : World) (l : Nat) (o o' : Obj), w.heap.size ≤ l → W.heap[l]? = some o → o.isCells = false → Kp W (W.putObj l o')) (hps : ∀ x, (encs x).size = ps.size)
    (I : List α → World → Prop) (Ix : Code → List α → World → Prop) (hI : OwnFrom w.heap.size I) (hIx : ∀ c, OwnFrom w.heap.size (Ix c)) (hIp : AbP (w.heap.size + 2) own I) (hIxp : ∀ c, AbP (w.heap.size + 2) own (Ix c)) (h0 : I [] w) (Ax : α → Act)
    (hassign : ∀ (l : Nat) (x : α) (W : World) (K : Act → World → Prop), K (Ax x) W → assign.wpIn (Fence.wide.inRound l) (n - 1 - 1) P (Exit.then K (fun _ _ _ => False)) { tmps := (ps.zip (encs x)).foldl (fun t (p, v) => t.setIfInBounds p v) a.tmps, defers := [] } W)
    (hbody : ∀ (l : Nat) (pre : List α) (x : α) (W : World), I pre W → pre.length < N → body.wpIn (Fence.wide.inRound l) (n - 1 - 1) P (ownPostG w.heap.size Kp I Ix (pre ++ [x]) W) (Ax x) W)
    (hdone : ∀ (D : Nat) (xs : List α) (W : World), w.heap.size ≤ D → S xs → I xs W → W.heap[D]? = some (.deferred (some [])) → Q .normal { a with defers := { target := .collected D, args := #[] } :: a.defers } W)
    (hstop : ∀ (D : Nat) (c : Code) (pre : List α) (W : World), w.heap.size ≤ D → Sp pre → Ix c pre W → W.heap[D]? = some (.deferred (some [])) → c.wpIn Fence.wide n P Q { a with defers := { target := .collected D, args := #[] } :: a.defers } W) :
    (Code.rangeFunc g ps assign body).wpIn Fence.wide n P Q a w := by
  have hDl : ∀ {W W' : World} {o : Obj}, W.heap[w.heap.size + 1]? = some o → w.heap.size + 1 < W.heap.size := fun h => (Array.getElem?_eq_some_iff.1 h).1
  refine wpIn_rangeFunc fun fn hfn => ?_
  let rec0 : LoopState → Option Code → Loop := fun st pe => { state := st, pending := pe, fn, tmps := a.tmps, params := ps, assign, body, defers := w.heap.size }
  obtain ⟨R, hR⟩ : ∃ R : LoopState → Option Code → Loop, R = fun st pe => { state := st, pending := pe, fn, tmps := a.tmps, params := ps, assign, body, defers := w.heap.size } := ⟨_, rfl⟩
  clear rec0
  obtain ⟨V, hV⟩ : ∃ V, V = (w.alloc (.deferred (some []))).alloc (.loop (R .ready none)) := ⟨_, rfl⟩
  have vS : V.heap.size = w.heap.size + 2 := by rw [hV]; simp
  have vL : V.heap[w.heap.size + 1]? = some (.loop (R .ready none)) := by rw [hV]; exact heap_new (by simp)
  have vD : V.heap[w.heap.size]? = some (.deferred (some [])) := by rw [hV, Below.heap_alloc _ _ _ (by simp)]; exact heap_new rfl
  have vB : Below w.heap.size w V := by rw [hV]; exact ((Below.refl _ w).alloc (Nat.le_refl _) _).alloc (by simp) _
  have vI : I [] V := by rw [hV]; exact hI.alloc _ (hI.alloc _ h0)
  have vO : own V = none := by rw [hV]; exact hon _ _
  refine ⟨w.heap.size + 1, [{ target := .collected w.heap.size, args := #[] }], V, { target := .fn (.func gf) lb, args := #[.func (.yield (w.heap.size + 1)) #[] #[]] }, V, gf, #[.func (.yield (w.heap.size + 1)) #[] #[]] ++ lb, V, ?enter, ?res, fun _ _ => trivial, ?inv, fun _ => h1, ?call⟩
  case enter => rw [hV, hR]; exact run_enterLoop_outer _ _ _ _ _
  case res => simp only [resolve, hg]; simp [go_sem]
  case inv => simp [invoke, go_sem, eg]
  case call =>
    -- the record and the block for what is deferred lie below what is the iterator's own
    have ab : ∀ (T : List α → World → Prop) (st : Loop), AbP (w.heap.size + 2) own T → AbP V.heap.size own (fun pre W => T pre W ∧ W.heap[w.heap.size + 1]? = some (.loop st) ∧ W.heap[w.heap.size]? = some (.deferred (some []))) := fun T st hT s A B hA hp => by
      rw [vS] at hp
      exact ⟨hT s A B hA.1 hp, (hp.low _ (by omega)).trans hA.2.1, (hp.low _ (by omega)).trans hA.2.2⟩
    refine (hseq (w.heap.size + 1) (fun pre W => I pre W ∧ W.heap[w.heap.size + 1]? = some (.loop (R .ready none)) ∧ W.heap[w.heap.size]? = some (.deferred (some [])))
      (fun pre W => ∃ c, Ix c pre W ∧ W.heap[w.heap.size + 1]? = some (.loop (R .done (some c))) ∧ W.heap[w.heap.size]? = some (.deferred (some []))) V vB vO (ab I _ hIp)
      (fun s A B hA hp => by obtain ⟨c, hc⟩ := hA; exact ⟨c, ab (Ix c) _ (hIxp c) s A B hc hp⟩) ?round ⟨vI, vL, vD⟩).mono ?behind
    case round =>
      rintro pre x W ⟨hi, hl, hk⟩ hlen
      have hy := run_yield (P := P) (args := encs x) hl (by rw [hR]; exact hps x)
      rw [hR] at hy
      refine ⟨fn, _, assign, body, hy, roundIn_of_wpIn hfn (hassign _ x W _ ?_)⟩
      refine ⟨_, run_beginRound hl (by rw [hR]), ?_⟩
      obtain ⟨Y, hY⟩ : ∃ Y, Y = W.putObj (w.heap.size + 1) (.loop { R .ready none with state := .busy }) := ⟨_, rfl⟩
      have yL : Y.heap[w.heap.size + 1]? = some (.loop { R .ready none with state := .busy }) := by rw [hY]; exact World.putObj_heap_same (hDl (W' := W) hl)
      have yD : Y.heap[w.heap.size]? = some (.deferred (some [])) := by rw [hY]; exact (World.putObj_heap_other (by omega)).trans hk
      have yK : Kp W Y := by rw [hY]; exact hKb _ _ _ _ (by omega) hl rfl
      have yI : I pre Y := by rw [hY]; exact hI.putObj _ hi (by omega) hl rfl
      rw [← hY]
      have ends : ∀ (j : Option Code) (Z : World), KeepsFrom w.heap.size Y Z → (Instr.endRound (w.heap.size + 1) j).run P Z = .ok (.bool j.isNone) (Z.putObj (w.heap.size + 1) (.loop (R (if j.isNone then .ready else .done) j))) ∧ Z.heap[w.heap.size + 1]? = some (.loop { R .ready none with state := .busy }) ∧
          (Z.putObj (w.heap.size + 1) (.loop (R (if j.isNone then .ready else .done) j))).heap[w.heap.size + 1]? = some (.loop (R (if j.isNone then .ready else .done) j)) ∧ (Z.putObj (w.heap.size + 1) (.loop (R (if j.isNone then .ready else .done) j))).heap[w.heap.size]? = some (.deferred (some [])) := by
        intro j Z hZ
        have zL := hZ.same _ _ (by omega) yL rfl
        have zr := run_endRound (P := P) j zL
        refine ⟨by rw [hR] at zr ⊢; exact zr, zL, World.putObj_heap_same (hDl (W' := Z) zL), (World.putObj_heap_other (by omega)).trans (hZ.same _ _ (Nat.le_refl _) yD rfl)⟩
      refine wpIn_mono (hbody _ pre x _ yI hlen) fun e a3 Z hp => ?_
      cases e with
      | normal =>
        obtain ⟨hz, hkp, hi3⟩ := hp
        obtain ⟨hr, zL, zL2, zD⟩ := ends none Z hz
        exact ⟨_, _, hr, .inl ⟨rfl, ⟨hI.putObj _ hi3 (by omega) zL rfl, zL2, zD⟩, hKt (hKt yK hkp) (hKb _ _ _ _ (by omega) zL rfl)⟩⟩
      | ret =>
        obtain ⟨hz, hi3⟩ := hp
        obtain ⟨hr, zL, zL2, zD⟩ := ends (some .ret) Z hz
        exact ⟨_, _, hr, .inr ⟨rfl, .ret, (hIx _).putObj _ hi3 (by omega) zL rfl, zL2, zD⟩⟩
      | exit id =>
        obtain ⟨hz, hi3⟩ := hp
        obtain ⟨hr, zL, zL2, zD⟩ := ends (some (.exit id)) Z hz
        exact ⟨_, _, hr, .inr ⟨rfl, .exit id, (hIx _).putObj _ hi3 (by omega) zL rfl, zL2, zD⟩⟩
      | goto t =>
        obtain ⟨hz, hi3⟩ := hp
        obtain ⟨hr, zL, zL2, zD⟩ := ends (some (.goto t)) Z hz
        exact ⟨_, _, hr, .inr ⟨rfl, .goto t, (hIx _).putObj _ hi3 (by omega) zL rfl, zL2, zD⟩⟩
      | panic ch => exact hp.elim
      | outgrown => exact hp.elim
    case behind =>
      rintro e Z ⟨⟨v, rfl⟩, hZ⟩
      rcases hZ with ⟨xs, hS, hi, hl, hk⟩ | ⟨pre, hSp, c, hi, hl, hk⟩
      · exact ⟨none, _, by have := run_endLoop (P := P) hl (by rw [hR]; simp); rw [hR] at this; exact this, hdone _ xs _ (Nat.le_refl _) hS (hI.putObj _ hi (by omega) hl rfl) ((World.putObj_heap_other (by omega)).trans hk)⟩
      · exact ⟨some c, _, by have := run_endLoop (P := P) hl (by rw [hR]; simp); rw [hR] at this; exact this, hstop _ c pre _ (Nat.le_refl _) hSp ((hIx c).putObj _ hi (by omega) hl rfl) ((World.putObj_heap_other (by omega)).trans hk)⟩
end

end Go.Proofs.YtapamdjoipofmaaDoor
