/-
  When a term is right, in plain words: names, shapes of kinds, one node, nodes down to a depth. No walk.
-/
import Derived.Test.YtgckmnchlkgakaaLmbNw
import Derived.Test.YtgckmnchlkgakaaLmbTm
import Derived.PlainAid
namespace Go.Proofs.Ytgckmnchlkgakaa
open Go.RowKit Go.PlainAid
set_option linter.unusedVariables false
set_option linter.unusedSimpArgs false

def isLow (x : Int) : Bool := decide (97 ≤ x ∧ x ≤ 122)
def isDig (x : Int) : Bool := decide (48 ≤ x ∧ x ≤ 57)
def chOk (x : Int) : Bool := isLow x || isDig x || decide (x = 46)
def allB (s : ByteArray) (n : Nat) (f : Int → Bool) : Bool := (List.range n).all fun i => f (bt s i)
def nameW (s : ByteArray) : Bool := decide (1 ≤ s.size) && decide (s.size ≤ 8) && isLow (bt s 0) && allB s s.size chOk

theorem allB_succ (s : ByteArray) (n : Nat) (f : Int → Bool) : allB s (n + 1) f = (allB s n f && f (bt s n)) := by
  simp [allB, List.range_succ, List.all_append]
theorem allB_false {s : ByteArray} {n : Nat} {f : Int → Bool} (k : Nat) (h : k < n) (hf : f (bt s k) = false) : allB s n f = false := by
  rw [Bool.eq_false_iff]; intro h1
  have := List.all_eq_true.1 h1 k (List.mem_range.2 h)
  simp only [hf] at this; cases this
def isNil (s : ByteArray) : Bool := s.toList.isEmpty

def kOk (k : Int) : Bool := decide (1 ≤ k ∧ k ≤ 17)
def shN (k : Int) : Int := if k = 3 ∨ k = 4 ∨ k = 6 ∨ k = 7 ∨ k = 17 then 1 else if k = 14 then 2 else 0
def shL (k : Int) : Int := if k = 1 then -1000000 else if k = 15 then 1 else 0
def shM (k : Int) : Int := if k = 1 then 1000000 else if k = 2 then 1 else if k = 6 ∨ k = 7 then 2 else if k = 15 then 5 else 0
def shT (k : Int) : Bool := decide (k = 4 ∨ k = 7 ∨ k = 12 ∨ k = 16)
def shS (k : Int) : Int := if k = 3 then 2 else 0
def shP (k : Int) : Int := if k = 4 ∨ k = 10 ∨ k = 11 ∨ k = 16 then 1 else if k = 5 ∨ k = 6 ∨ k = 7 ∨ k = 9 ∨ k = 13 ∨ k = 15 ∨ k = 17 then 2 else if k = 8 ∨ k = 14 then 3 else 0

theorem shN_bd (k : Int) : 0 ≤ shN k ∧ shN k ≤ 2 := by unfold shN; (repeat' split) <;> omega
theorem shL_bd (k : Int) : -1000000 ≤ shL k ∧ shL k ≤ 1 := by unfold shL; (repeat' split) <;> omega
theorem shM_bd (k : Int) : 0 ≤ shM k ∧ shM k ≤ 1000000 := by unfold shM; (repeat' split) <;> omega
theorem shS_bd (k : Int) : 0 ≤ shS k ∧ shS k ≤ 2 := by unfold shS; (repeat' split) <;> omega
theorem shP_bd (k : Int) : 0 ≤ shP k ∧ shP k ≤ 3 := by unfold shP; (repeat' split) <;> omega

def namesB (n : Int) (s z : ByteArray) : Bool := if n = 0 then isNil s && isNil z else if n = 1 then nameW s && isNil z else nameW s && nameW z && !(s.toList == z.toList)
def zeroT (t : Tr) : Bool := (t.K == 0) && (t.N == 0) && ((t.A.length : Int) == 0)
def typesB (k : Int) (t : Tr) (ts : List Tr) : Bool := (if shT k then okT t else zeroT t) && decide ((ts.length : Int) ≤ shS k) && ts.all okT
def fixB (k : Int) (a : List Tm) : Bool := if k = 7 then (match a with | x :: _ => decide (x.K = 4) | [] => false) else true

/-- One node, without its parts. -/
def nodeM (t : Tm) : Bool := kOk t.K && decide (shL t.K ≤ t.N ∧ t.N ≤ shM t.K) && decide ((t.A.length : Int) = shP t.K) && fixB t.K t.A && namesB (shN t.K) t.S t.Z && typesB t.K t.T t.Ts

theorem nodeM_len {t : Tm} (h : nodeM t = true) : t.A.length ≤ 3 := by
  simp only [nodeM, Bool.and_eq_true, decide_eq_true_eq] at h
  have := shP_bd t.K
  omega

def nodesG (f : Tm → Option Nat) : List Tm → Option Nat
  | [] => some 0
  | t :: ts => match f t, nodesG f ts with
    | some a, some b => some (a + b)
    | _, _ => none

/-- How many nodes a term has that is right down to a depth. -/
def nodesM : Nat → Tm → Option Nat
  | 0, _ => none
  | l + 1, t => if nodeM t then (nodesG (nodesM l) t.A).map (1 + ·) else none

theorem nodesG_append (f : Tm → Option Nat) (a b : List Tm) : nodesG f (a ++ b) = match nodesG f a, nodesG f b with | some x, some y => some (x + y) | _, _ => none := by
  induction a with
  | nil => simp only [List.nil_append, nodesG]; cases nodesG f b <;> simp
  | cons t a ih =>
    simp only [List.cons_append, nodesG, ih]
    cases f t <;> cases nodesG f a <;> cases nodesG f b <;> simp [Nat.add_assoc]

theorem nodesG_take (f : Tm → Option Nat) (l : List Tm) (k : Nat) (h : k < l.length) (m : Nat) (hm : nodesG f (l.take k) = some m) : nodesG f (l.take (k + 1)) = (f l[k]).map (m + ·) := by
  rw [List.take_succ_eq_append_getElem h, nodesG_append, hm]
  simp only [nodesG]
  cases f l[k] <;> simp

theorem nodesG_none (f : Tm → Option Nat) (l : List Tm) (k : Nat) (h : k < l.length) (hf : f l[k] = none) : nodesG f l = none := by
  have e : l = l.take k ++ l[k] :: l.drop (k + 1) := by simp
  rw [e, nodesG_append]
  simp only [nodesG, hf]
  cases nodesG f (l.take k) <;> rfl

theorem nodesG_part (f : Tm → Option Nat) (l : List Tm) (k : Nat) (h : k < l.length) (m a s : Nat) (hm : nodesG f (l.take k) = some m) (ha : f l[k] = some a) (hs : nodesG f l = some s) : m + a ≤ s := by
  have h1 := nodesG_take f l k h m hm
  rw [ha] at h1
  have e := congrArg (nodesG f) (List.take_append_drop (k + 1) l)
  rw [nodesG_append, h1, hs] at e
  simp only [Option.map_some] at e
  cases hd : nodesG f (l.drop (k + 1)) with
  | none => simp [hd] at e
  | some x => simp [hd] at e; omega

theorem nodesM_pos (l : Nat) (t : Tm) (m : Nat) (h : nodesM l t = some m) : 1 ≤ m := by
  cases l with
  | zero => simp [nodesM] at h
  | succ l =>
    simp only [nodesM] at h
    split at h
    · cases h1 : nodesG (nodesM l) t.A with
      | none => simp [h1] at h
      | some s => simp [h1] at h; omega
    · simp at h

/-- The count with a lid: none above it. -/
def lid (most : Nat) : Option Nat → Option Nat
  | some m => if m ≤ most then some m else none
  | none => none

/-- How many nodes a term has, 0 of what is not right. -/
def nodesTm (t : Tm) : Nat := (lid 150 (nodesM 24 t)).getD 0
def okM (t : Tm) : Bool := (lid 150 (nodesM 24 t)).isSome

end Go.Proofs.Ytgckmnchlkgakaa
