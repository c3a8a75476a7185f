/-
  Terms as forms: the value that 'formOf' answers of a term that is right; no memory is in it but that of its types.
-/
import Derived.Test.YtgckmnchlkgakaaNdaTn
import Derived.Test.YtgckmnchlkgakaaNdaTr
import Derived.Deep.WholeRow
import Derived.Deep.MidRow
import Derived.Deep.AppendLies
import Derived.Lib.Join
import Derived.Lib.ItoaLen
namespace Go.Proofs.Ytgckmnchlkgakaa
open Go.RowKit
set_option linter.unusedVariables false
set_option linter.unusedSimpArgs false

theorem nodesM_inv {l : Nat} {t : Tm} {m : Nat} (h : nodesM (l + 1) t = some m) : nodeM t = true ∧ ∀ j (hj : j < t.A.length), ∃ a, nodesM l t.A[j] = some a := by
  simp only [nodesM] at h
  cases hn : nodeM t with
  | false => simp [hn] at h
  | true =>
    refine ⟨rfl, fun j hj => ?_⟩
    simp only [hn, if_true] at h
    cases hg : nodesG (nodesM l) t.A with
    | none => simp [hg] at h
    | some s =>
      cases hj' : nodesM l t.A[j] with
      | some a => exact ⟨a, rfl⟩
      | none => rw [nodesG_none (nodesM l) t.A j hj hj'] at hg; cases hg

theorem okM_some {t : Tm} (h : okM t = true) : ∃ m, nodesM 24 t = some m ∧ m ≤ 150 := by
  unfold okM at h
  cases hm : nodesM 24 t with
  | none => simp [hm, lid] at h
  | some m =>
    refine ⟨m, rfl, ?_⟩
    by_cases h6 : m ≤ 150
    · exact h6
    · simp [hm, lid, h6] at h

end Go.Proofs.Ytgckmnchlkgakaa

/-
  The binders of a term, and all terms within it, in plain words; what a call leaves that changes no block but a few of its own.
-/
namespace Go.Proofs.Ytgckmnchlkgakaa
open Go.RowKit
set_option linter.unusedVariables false
set_option linter.unusedSimpArgs false

/-- All terms within a term, itself first, from the front. -/
def allW : Tm → List Tm
  | ⟨k, n, s, z, t, ts, a⟩ => ⟨k, n, s, z, t, ts, a⟩ :: (a.attach.map fun ⟨x, _⟩ => allW x).flatten
theorem allW_eq (t : Tm) : allW t = t :: (t.A.map allW).flatten := by
  cases t; rw [allW]; simp

theorem allW_lenG {f : Tm → Option Nat} (hf : ∀ t m, f t = some m → (allW t).length = m) : ∀ (ts : List Tm) (m : Nat), nodesG f ts = some m → ((ts.map allW).flatten).length = m := by
  intro ts
  induction ts with
  | nil => intro m h; simp [nodesG] at h; simp [h]
  | cons t ts ih =>
    intro m h
    simp only [nodesG] at h
    cases ht : f t with
    | none => simp [ht] at h
    | some a =>
      cases hz : nodesG f ts with
      | none => simp [ht, hz] at h
      | some b =>
        simp [ht, hz] at h
        have h1 := hf t a ht
        have h2 := ih b hz
        simp only [List.map_cons, List.flatten_cons, List.length_append]
        omega

theorem allW_len : ∀ (l : Nat) (t : Tm) (m : Nat), nodesM l t = some m → (allW t).length = m := by
  intro l
  induction l with
  | zero => intro t m h; simp [nodesM] at h
  | succ l ih =>
    intro t m h
    have hn := (nodesM_inv h).1
    simp only [nodesM, hn, if_true] at h
    cases hz : nodesG (nodesM l) t.A with
    | none => simp [hz] at h
    | some b =>
      simp [hz] at h
      have h1 := allW_lenG ih t.A b hz
      rw [allW_eq, List.length_cons, h1]
      omega

/-- Those of the parts ahead of the j-th. -/
def preW (t : Tm) (j : Nat) : List Tm := ((t.A.take j).map allW).flatten
theorem preW_zero (t : Tm) : preW t 0 = [] := rfl
theorem preW_succ (t : Tm) (j : Nat) (hj : j < t.A.length) : preW t (j + 1) = preW t j ++ allW t.A[j] := by
  unfold preW
  rw [List.take_succ_eq_append_getElem hj, List.map_append, List.flatten_append]
  simp only [List.map_cons, List.map_nil, List.flatten_cons, List.flatten_nil, List.append_nil]
theorem preW_all (t : Tm) (j : Nat) (hj : t.A.length ≤ j) : allW t = t :: preW t j := by
  unfold preW
  rw [List.take_of_length_le hj, allW_eq]
theorem preW_len {l : Nat} {t : Tm} {m : Nat} (h : nodesM (l + 1) t = some m) (j : Nat) (hj : j < t.A.length) {a : Nat} (ha : nodesM l t.A[j] = some a) : (preW t j).length + 1 + a ≤ m := by
  have h1 := allW_len _ t m h
  have h2 := allW_len _ _ a ha
  have h3 := preW_all t t.A.length (Nat.le_refl _)
  have h4 := congrArg List.length h3
  have h5 : (preW t (j + 1)).length ≤ (preW t t.A.length).length := by
    unfold preW
    have e : t.A.take t.A.length = t.A.take (j + 1) ++ (t.A.drop (j + 1)) := by rw [List.take_length, List.take_append_drop]
    rw [e, List.map_append, List.flatten_append, List.length_append]
    omega
  have h6 := congrArg List.length (preW_succ t j hj)
  rw [List.length_append] at h6
  rw [List.length_cons] at h4
  omega

/-- From w to w' no block has changed but those of F; those of F' are of F, or new. -/
structure Kf (F : Nat → Prop) (w : World) (F' : Nat → Prop) (w' : World) : Prop where
  os : w'.os = w.os
  tape : w'.tape = w.tape
  output : w'.output = w.output
  size : w.heap.size ≤ w'.heap.size
  block : ∀ k, k < w.heap.size → ¬ F k → w'.heap[k]? = w.heap[k]?
  own : ∀ k, F' k → F k ∨ w.heap.size ≤ k

theorem Kf.trans {F F' F'' : Nat → Prop} {w w' w'' : World} (h : Kf F w F' w') (k : Kf F' w' F'' w'') : Kf F w F'' w'' := by
  refine ⟨k.os.trans h.os, k.tape.trans h.tape, k.output.trans h.output, Nat.le_trans h.size k.size, fun i hi h1 => ?_, fun i hi => ?_⟩
  · exact (k.block i (Nat.lt_of_lt_of_le hi h.size) (fun e => by rcases h.own i e with e | e; exact h1 e; omega)).trans (h.block i hi h1)
  · rcases k.own i hi with e | e
    · exact h.own i e
    · exact Or.inr (Nat.le_trans h.size e)
theorem Kf.of_below {F : Nat → Prop} {w w' : World} (h : Below w.heap.size w w') : Kf F w F w' :=
  ⟨h.os, h.tape, h.output, h.size, fun k hk _ => h.block k hk, fun k hk => Or.inl hk⟩
theorem Kf.below {base : Nat} {F F' : Nat → Prop} {w w' : World} (h : Kf F w F' w') (hF : ∀ k, F k → base ≤ k) (hb : base ≤ w.heap.size) : Below base w w' :=
  ⟨h.os, h.tape, h.output, h.size, fun k hk => h.block k (by omega) (fun e => by have := hF k e; omega)⟩

theorem cell_1 {w : World} {b : Nat} {a0 : Value} {t : TypeId} {fr : Nat × Nat} (h : w.heap[b]? = some (.cells #[a0] t fr)) : w.cell? ⟨b, 0, none⟩ = some a0 := row_cell h 0

end Go.Proofs.Ytgckmnchlkgakaa

/-
  Laws for single operations of a plain region: 'append' by the equation of its run; a whole struct read out of a row, and laid into a block that was made last. No walk.
-/
namespace Go.Proofs.Ytgckmnchlkgakaa
open Go.RowKit
set_option linter.unusedVariables false
set_option linter.unusedSimpArgs false

/-- 'append' in a plain region, by the equation of its run. -/
theorem list_run {P : Program} {ops : Array Oper} {rest : List Oper} {o : Oper} {a : Act} {W w2 : World} {Q : Exit → Act → World → Prop} {t ty : TypeId} {v u r : Value} (hrun : (Builtin.append_ #[t, t] ty #[v, u]).run P W = .ok r w2) (hgd : o.guard = none) (s x : Operand)
    (ho : o.op = .call { callee := .builtin .append, args := #[s, x], argTypes := #[t, t] }) (hty : o.type = ty) (hs : a.eval s = v) (hx : a.eval x = u) (h : wpList P ops Q rest (a.put o.dst r) w2) : wpList P ops Q (o :: rest) a W :=
  wpList_plain hgd fun _ hK => by
    unfold Oper.wp execOp
    simp only [ho, hty, resolve, invoke, builtin, Sem.run_bind, Sem.run_pure, Result.andThen_ok, List.map_toArray, List.map_cons, List.map_nil, hs, hx, hrun]
    exact hK _ _ h

/-- 'append' at a step of a region that draws, by the equation of its run. -/
theorem step_run {P : Program} {ops : Array Oper} {o : Oper} {a : Act} {W w2 : World} {K : Act → World → Prop} {Q : Exit → Act → World → Prop} {E : Prop} {t ty : TypeId} {v u r : Value} (hrun : (Builtin.append_ #[t, t] ty #[v, u]).run P W = .ok r w2) (hgd : o.guard = none) (s x : Operand)
    (ho : o.op = .call { callee := .builtin .append, args := #[s, x], argTypes := #[t, t] }) (hty : o.type = ty) (hs : a.eval s = v) (hx : a.eval x = u) (h : K (a.put o.dst r) w2) :
    if Region.wanted o (yielded ops a.tmps) = true then Oper.wp P o a W K Q else E := by
  have hw : Region.wanted o (yielded ops a.tmps) = true := by simp [Region.wanted, hgd]
  rw [if_pos hw]
  unfold Oper.wp execOp
  simp only [ho, hty, resolve, invoke, builtin, Sem.run_bind, Sem.run_pure, Result.andThen_ok, List.map_toArray, List.map_cons, List.map_nil, hs, hx, hrun]
  exact h

end Go.Proofs.Ytgckmnchlkgakaa

/-
  Rows of tokens that can be appended to; plain facts on joined tokens. No walk, no statement.
-/
namespace Go.Proofs.Ytgckmnchlkgakaa
open Go.RowKit
set_option linter.unusedVariables false
set_option linter.unusedSimpArgs false

/-- A token as a value. -/
def tk (l : List UInt8) : Value := .string ⟨l.toArray⟩

/-- A row of tokens that can be appended to. -/
def Toks (base : Nat) (wr : World) (v : Value) (P : List (List UInt8)) : Prop := wr.ownsRow base 9 1 v P.length (P.map tk)

end Go.Proofs.Ytgckmnchlkgakaa
