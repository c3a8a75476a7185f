/-
  Instructions, pieces and codes as plain values, and what it is that they lie in memory. No walk, no statement.
-/
import Derived.Test.YtchdmpipfmedaaaIr
namespace Go.Proofs.Ytchdmpipfmedaaa
open Go.RowKit
set_option linter.unusedVariables false
set_option linter.unusedSimpArgs false

structure Insn where
  Op : Int
  D : Int
  X : Int
  Y : Int
  N : Int
  L : List Int
  To : Int

structure Pc where
  Lam : Int
  In : Int
  Regs : Int
  Ins : List Insn

structure Cd where
  Funs : List Pc
  Main : Pc

def cI (i : Insn) : Nat := i.L.length
def sI (l : List Insn) : Nat := (l.map cI).sum
def cP (p : Pc) : Nat := p.Ins.length + sI p.Ins
def sP (l : List Pc) : Nat := (l.map cP).sum
def cC (c : Cd) : Nat := c.Funs.length + sP c.Funs + cP c.Main

theorem sI_take (l : List Insn) (k : Nat) (h : k < l.length) : sI (l.take (k + 1)) = sI (l.take k) + cI l[k] := by
  rw [List.take_succ_eq_append_getElem h]; simp only [sI, List.map_append, List.sum_append, List.map_cons, List.map_nil, List.sum_cons, List.sum_nil]; omega
theorem sI_take_le (l : List Insn) (k : Nat) : sI (l.take k) ≤ sI l := by
  have h := congrArg sI (List.take_append_drop k l)
  simp only [sI, List.map_append, List.sum_append] at *; omega
theorem sI_get (l : List Insn) (k : Nat) (h : k < l.length) : cI l[k] ≤ sI l := by
  have h1 := sI_take l k h
  have h2 := sI_take_le l (k + 1)
  omega
theorem sP_take (l : List Pc) (k : Nat) (h : k < l.length) : sP (l.take (k + 1)) = sP (l.take k) + cP l[k] := by
  rw [List.take_succ_eq_append_getElem h]; simp only [sP, List.map_append, List.sum_append, List.map_cons, List.map_nil, List.sum_cons, List.sum_nil]; omega
theorem sP_take_le (l : List Pc) (k : Nat) : sP (l.take k) ≤ sP l := by
  have h := congrArg sP (List.take_append_drop k l)
  simp only [sP, List.map_append, List.sum_append] at *; omega
theorem sP_get (l : List Pc) (k : Nat) (h : k < l.length) : cP l[k] ≤ sP l := by
  have h1 := sP_take l k h
  have h2 := sP_take_le l (k + 1)
  omega

/-- Seven cells of a block: an instruction whose list is this slice. -/
structure Sev (w : World) (b o : Nat) (i : Insn) (ao : Option Addr) (len cap : Nat) : Prop where
  c0 : w.cell? ⟨b, o, none⟩ = some (.int .i64 i.Op)
  c1 : w.cell? ⟨b, o + 1, none⟩ = some (.int .i64 i.D)
  c2 : w.cell? ⟨b, o + 2, none⟩ = some (.int .i64 i.X)
  c3 : w.cell? ⟨b, o + 3, none⟩ = some (.int .i64 i.Y)
  c4 : w.cell? ⟨b, o + 4, none⟩ = some (.int .i64 i.N)
  c5 : w.cell? ⟨b, o + 5, none⟩ = some (.slice ao len cap)
  c6 : w.cell? ⟨b, o + 6, none⟩ = some (.int .i64 i.To)

theorem Sev.cells {w w' : World} {b o : Nat} {i : Insn} {ao : Option Addr} {len cap : Nat} (h : Sev w b o i ao len cap) (k : ∀ p, o ≤ p → p < o + 7 → w'.cell? ⟨b, p, none⟩ = w.cell? ⟨b, p, none⟩) : Sev w' b o i ao len cap :=
  ⟨(k _ (by omega) (by omega)).trans h.c0, (k _ (by omega) (by omega)).trans h.c1, (k _ (by omega) (by omega)).trans h.c2, (k _ (by omega) (by omega)).trans h.c3, (k _ (by omega) (by omega)).trans h.c4, (k _ (by omega) (by omega)).trans h.c5, (k _ (by omega) (by omega)).trans h.c6⟩
theorem Sev.block {w w' : World} {b o : Nat} {i : Insn} {ao : Option Addr} {len cap : Nat} (h : Sev w b o i ao len cap) (k : w'.heap[b]? = w.heap[b]?) : Sev w' b o i ao len cap := h.cells fun p _ _ => World.cell?_of_block k

/-- An instruction in memory. -/
def ElI (L B : Nat) (w : World) (b o : Nat) (i : Insn) : Prop := ∃ ao len cap, Sev w b o i ao len cap ∧ Is L B w ao len i.L

/-- A slice of instructions. -/
def Iss (L B : Nat) (w : World) (ao : Option Addr) (len : Nat) (l : List Insn) : Prop :=
  len = l.length ∧ len ≤ 9223372036854775807 ∧ ∀ i (_ : i < l.length), ∃ b o, ao = some ⟨b, o, none⟩ ∧ L ≤ b ∧ b < B ∧ ElI L B w b (o + i * 7) l[i]

theorem Iss.keep {L B L' B' : Nat} {w w' : World} (hb : ∀ k, L ≤ k → k < B → w'.heap[k]? = w.heap[k]?) (hL : L' ≤ L) (hB : B ≤ B') {ao : Option Addr} {len : Nat} {l : List Insn} (h : Iss L B w ao len l) : Iss L' B' w' ao len l := by
  refine ⟨h.1, h.2.1, fun i hi => ?_⟩
  obtain ⟨b, o, e, h1, h2, ao', len', cap', h3, h4⟩ := h.2.2 i hi
  exact ⟨b, o, e, by omega, by omega, ao', len', cap', h3.block (hb b h1 h2), h4.keep hb hL hB⟩
theorem Iss.below {L B : Nat} {w w' : World} (hb : Below w.heap.size w w') (hB : B ≤ w.heap.size) {ao : Option Addr} {len : Nat} {l : List Insn} (h : Iss L B w ao len l) : Iss L B w' ao len l :=
  h.keep (fun k _ hk => hb.block k (by omega)) (Nat.le_refl _) (Nat.le_refl _)
theorem Iss.drew {L B : Nat} {w : World} {ao : Option Addr} {len : Nat} {l : List Insn} (h : Iss L B w ao len l) : Iss L B w.drew ao len l := h.keep (w := w) (w' := w.drew) (fun _ _ _ => rfl) (Nat.le_refl _) (Nat.le_refl _)

/-- Four cells of a block: a piece whose instructions are this slice. -/
structure Fou (w : World) (b o : Nat) (p : Pc) (ao : Option Addr) (len cap : Nat) : Prop where
  c0 : w.cell? ⟨b, o, none⟩ = some (.int .i64 p.Lam)
  c1 : w.cell? ⟨b, o + 1, none⟩ = some (.int .i64 p.In)
  c2 : w.cell? ⟨b, o + 2, none⟩ = some (.int .i64 p.Regs)
  c3 : w.cell? ⟨b, o + 3, none⟩ = some (.slice ao len cap)

theorem Fou.cells {w w' : World} {b o : Nat} {i : Pc} {ao : Option Addr} {len cap : Nat} (h : Fou w b o i ao len cap) (k : ∀ p, o ≤ p → p < o + 4 → w'.cell? ⟨b, p, none⟩ = w.cell? ⟨b, p, none⟩) : Fou w' b o i ao len cap :=
  ⟨(k _ (by omega) (by omega)).trans h.c0, (k _ (by omega) (by omega)).trans h.c1, (k _ (by omega) (by omega)).trans h.c2, (k _ (by omega) (by omega)).trans h.c3⟩
theorem Fou.block {w w' : World} {b o : Nat} {i : Pc} {ao : Option Addr} {len cap : Nat} (h : Fou w b o i ao len cap) (k : w'.heap[b]? = w.heap[b]?) : Fou w' b o i ao len cap := h.cells fun p _ _ => World.cell?_of_block k

def ElP (L B : Nat) (w : World) (b o : Nat) (p : Pc) : Prop := ∃ ao len cap, Fou w b o p ao len cap ∧ Iss L B w ao len p.Ins

/-- A slice of pieces. -/
def Pss (L B : Nat) (w : World) (ao : Option Addr) (len : Nat) (l : List Pc) : Prop :=
  len = l.length ∧ len ≤ 9223372036854775807 ∧ ∀ i (_ : i < l.length), ∃ b o, ao = some ⟨b, o, none⟩ ∧ L ≤ b ∧ b < B ∧ ElP L B w b (o + i * 4) l[i]

theorem Pss.keep {L B L' B' : Nat} {w w' : World} (hb : ∀ k, L ≤ k → k < B → w'.heap[k]? = w.heap[k]?) (hL : L' ≤ L) (hB : B ≤ B') {ao : Option Addr} {len : Nat} {l : List Pc} (h : Pss L B w ao len l) : Pss L' B' w' ao len l := by
  refine ⟨h.1, h.2.1, fun i hi => ?_⟩
  obtain ⟨b, o, e, h1, h2, ao', len', cap', h3, h4⟩ := h.2.2 i hi
  exact ⟨b, o, e, by omega, by omega, ao', len', cap', h3.block (hb b h1 h2), h4.keep hb hL hB⟩
theorem Pss.below {L B : Nat} {w w' : World} (hb : Below w.heap.size w w') (hB : B ≤ w.heap.size) {ao : Option Addr} {len : Nat} {l : List Pc} (h : Pss L B w ao len l) : Pss L B w' ao len l :=
  h.keep (fun k _ hk => hb.block k (by omega)) (Nat.le_refl _) (Nat.le_refl _)
theorem Pss.drew {L B : Nat} {w : World} {ao : Option Addr} {len : Nat} {l : List Pc} (h : Pss L B w ao len l) : Pss L B w.drew ao len l := h.keep (w := w) (w' := w.drew) (fun _ _ _ => rfl) (Nat.le_refl _) (Nat.le_refl _)

/-- An int of 64 bits. -/
def in64 (n : Int) : Prop := -9223372036854775808 ≤ n ∧ n ≤ 9223372036854775807

/-- All numbers of an instruction, as its text has them. -/
def allI (i : Insn) : List Int := [i.Op, i.D, i.X, i.Y, i.N, i.To] ++ i.L
def okI (i : Insn) : Prop := ∀ x ∈ allI i, in64 x
def okP (p : Pc) : Prop := in64 p.Lam ∧ in64 p.In ∧ in64 p.Regs ∧ ∀ i ∈ p.Ins, okI i
def okC (c : Cd) : Prop := okP c.Main ∧ ∀ p ∈ c.Funs, okP p

end Go.Proofs.Ytchdmpipfmedaaa
