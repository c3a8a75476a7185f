/-
  When a term is right, in plain words: names, shapes of kinds, one node, nodes down to a depth. No walk.
-/
import Derived.Test.YthmmapahobkhnaaPmNw
import Derived.Test.YthmmapahobkhnaaPmZ6
import Derived.PlainAid
import Derived.Test.YthmmapahobkhnaaPmZ5
import Derived.Lib.Join
namespace Go.Proofs.Ythmmapahobkhnaa
open Go.RowKit Go.PlainAid
set_option linter.unusedVariables false
set_option linter.unusedSimpArgs false

def isLow (x : Int) : Bool := decide (97 ≤ x ∧ x ≤ 122)
def isDig (x : Int) : Bool := decide (48 ≤ x ∧ x ≤ 57)
def chOk (x : Int) : Bool := isLow x || isDig x || decide (x = 46)
def allB (s : ByteArray) (n : Nat) (f : Int → Bool) : Bool := (List.range n).all fun i => f (bt s i)
def nameW (s : ByteArray) : Bool := decide (1 ≤ s.size) && decide (s.size ≤ 8) && isLow (bt s 0) && allB s s.size chOk

theorem allB_succ (s : ByteArray) (n : Nat) (f : Int → Bool) : allB s (n + 1) f = (allB s n f && f (bt s n)) := by
  simp [allB, List.range_succ, List.all_append]
theorem allB_false {s : ByteArray} {n : Nat} {f : Int → Bool} (k : Nat) (h : k < n) (hf : f (bt s k) = false) : allB s n f = false := by
  rw [Bool.eq_false_iff]; intro h1
  have := List.all_eq_true.1 h1 k (List.mem_range.2 h)
  simp only [hf] at this; cases this
theorem allB_get {s : ByteArray} {n : Nat} {f : Int → Bool} (h : allB s n f = true) (k : Nat) (hk : k < n) : f (bt s k) = true := List.all_eq_true.1 h k (List.mem_range.2 hk)

def isNil (s : ByteArray) : Bool := s.toList.isEmpty

def kOk (k : Int) : Bool := decide (1 ≤ k ∧ k ≤ 17)
def shN (k : Int) : Int := if k = 3 ∨ k = 4 ∨ k = 6 ∨ k = 7 ∨ k = 17 then 1 else if k = 14 then 2 else 0
def shL (k : Int) : Int := if k = 1 then -1000000 else if k = 15 then 1 else 0
def shM (k : Int) : Int := if k = 1 then 1000000 else if k = 2 then 1 else if k = 6 ∨ k = 7 then 2 else if k = 15 then 5 else 0
def shT (k : Int) : Bool := decide (k = 4 ∨ k = 7 ∨ k = 12 ∨ k = 16)
def shS (k : Int) : Int := if k = 3 then 2 else 0
def shP (k : Int) : Int := if k = 4 ∨ k = 10 ∨ k = 11 ∨ k = 16 then 1 else if k = 5 ∨ k = 6 ∨ k = 7 ∨ k = 9 ∨ k = 13 ∨ k = 15 ∨ k = 17 then 2 else if k = 8 ∨ k = 14 then 3 else 0

theorem shN_bd (k : Int) : 0 ≤ shN k ∧ shN k ≤ 2 := by unfold shN; (repeat' split) <;> omega
theorem shL_bd (k : Int) : -1000000 ≤ shL k ∧ shL k ≤ 1 := by unfold shL; (repeat' split) <;> omega
theorem shM_bd (k : Int) : 0 ≤ shM k ∧ shM k ≤ 1000000 := by unfold shM; (repeat' split) <;> omega
theorem shS_bd (k : Int) : 0 ≤ shS k ∧ shS k ≤ 2 := by unfold shS; (repeat' split) <;> omega
theorem shP_bd (k : Int) : 0 ≤ shP k ∧ shP k ≤ 3 := by unfold shP; (repeat' split) <;> omega

def namesB (n : Int) (s z : ByteArray) : Bool := if n = 0 then isNil s && isNil z else if n = 1 then nameW s && isNil z else nameW s && nameW z && !(s.toList == z.toList)
def zeroT (t : Tr) : Bool := (t.K == 0) && (t.N == 0) && ((t.A.length : Int) == 0)
def typesB (k : Int) (t : Tr) (ts : List Tr) : Bool := (if shT k then okT t else zeroT t) && decide ((ts.length : Int) ≤ shS k) && ts.all okT
def fixB (k : Int) (a : List Tm) : Bool := if k = 7 then (match a with | x :: _ => decide (x.K = 4) | [] => false) else true

/-- One node, without its parts. -/
def nodeM (t : Tm) : Bool := kOk t.K && decide (shL t.K ≤ t.N ∧ t.N ≤ shM t.K) && decide ((t.A.length : Int) = shP t.K) && fixB t.K t.A && namesB (shN t.K) t.S t.Z && typesB t.K t.T t.Ts

theorem nodeM_len {t : Tm} (h : nodeM t = true) : t.A.length ≤ 3 := by
  simp only [nodeM, Bool.and_eq_true, decide_eq_true_eq] at h
  have := shP_bd t.K
  omega

def nodesG (f : Tm → Option Nat) : List Tm → Option Nat
  | [] => some 0
  | t :: ts => match f t, nodesG f ts with
    | some a, some b => some (a + b)
    | _, _ => none

/-- How many nodes a term has that is right down to a depth. -/
def nodesM : Nat → Tm → Option Nat
  | 0, _ => none
  | l + 1, t => if nodeM t then (nodesG (nodesM l) t.A).map (1 + ·) else none

theorem nodesG_append (f : Tm → Option Nat) (a b : List Tm) : nodesG f (a ++ b) = match nodesG f a, nodesG f b with | some x, some y => some (x + y) | _, _ => none := by
  induction a with
  | nil => simp only [List.nil_append, nodesG]; cases nodesG f b <;> simp
  | cons t a ih =>
    simp only [List.cons_append, nodesG, ih]
    cases f t <;> cases nodesG f a <;> cases nodesG f b <;> simp [Nat.add_assoc]

theorem nodesG_take (f : Tm → Option Nat) (l : List Tm) (k : Nat) (h : k < l.length) (m : Nat) (hm : nodesG f (l.take k) = some m) : nodesG f (l.take (k + 1)) = (f l[k]).map (m + ·) := by
  rw [List.take_succ_eq_append_getElem h, nodesG_append, hm]
  simp only [nodesG]
  cases f l[k] <;> simp

theorem nodesG_none (f : Tm → Option Nat) (l : List Tm) (k : Nat) (h : k < l.length) (hf : f l[k] = none) : nodesG f l = none := by
  have e : l = l.take k ++ l[k] :: l.drop (k + 1) := by simp
  rw [e, nodesG_append]
  simp only [nodesG, hf]
  cases nodesG f (l.take k) <;> rfl

theorem nodesG_part (f : Tm → Option Nat) (l : List Tm) (k : Nat) (h : k < l.length) (m a s : Nat) (hm : nodesG f (l.take k) = some m) (ha : f l[k] = some a) (hs : nodesG f l = some s) : m + a ≤ s := by
  have h1 := nodesG_take f l k h m hm
  rw [ha] at h1
  have e := congrArg (nodesG f) (List.take_append_drop (k + 1) l)
  rw [nodesG_append, h1, hs] at e
  simp only [Option.map_some] at e
  cases hd : nodesG f (l.drop (k + 1)) with
  | none => simp [hd] at e
  | some x => simp [hd] at e; omega

theorem nodesM_pos (l : Nat) (t : Tm) (m : Nat) (h : nodesM l t = some m) : 1 ≤ m := by
  cases l with
  | zero => simp [nodesM] at h
  | succ l =>
    simp only [nodesM] at h
    split at h
    · cases h1 : nodesG (nodesM l) t.A with
      | none => simp [h1] at h
      | some s => simp [h1] at h; omega
    · simp at h

/-- The count with a lid: none above it. -/
def lid (most : Nat) : Option Nat → Option Nat
  | some m => if m ≤ most then some m else none
  | none => none

/-- How many nodes a term has, 0 of what is not right. -/
def nodesTm (t : Tm) : Nat := (lid 150 (nodesM 24 t)).getD 0
def okM (t : Tm) : Bool := (lid 150 (nodesM 24 t)).isSome

end Go.Proofs.Ythmmapahobkhnaa

/-
  What 'varsWithin', 'VarsOf', 'Ground' of the program, and 'l1Vars', 'VarsOf', 'Ground' of the model come to.
-/
namespace Go.Proofs.Ythmmapahobkhnaa
open Go.RowKit
set_option linter.unusedVariables false
set_option linter.unusedSimpArgs false

/-- What it means that a tree is right down to l levels, for its root and its parts. -/
theorem nodesW_inv {l : Nat} {k n : Int} {ts : List Tr} {m : Nat} (h : nodesW (l + 1) ⟨k, n, ts⟩ = some m) : nodeOk k n ts.length = true ∧ ∀ j (hj : j < ts.length), ∃ a, nodesW l ts[j] = some a := by
  simp only [nodesW] at h
  split at h
  · rename_i hok
    refine ⟨hok, fun j hj => ?_⟩
    cases hf : nodesW l ts[j] with
    | some a => exact ⟨a, rfl⟩
    | none => rw [nodesL_none _ _ j hj hf] at h; simp at h
  · simp at h

end Go.Proofs.Ythmmapahobkhnaa

/-
  The tokens and the text of a type, in plain words: no walk, no statement.
-/
namespace Go.Proofs.Ythmmapahobkhnaa
open Go.RowKit
set_option linter.unusedVariables false
set_option linter.unusedSimpArgs false

/-- The one token of a node. -/
def tokOf (k n : Int) : List UInt8 := if k = 1 then [105] else if k = 2 then [98] else if k = 3 then (if n = 0 then [118, 48] else [118, 49]) else if k = 4 then [102] else if k = 5 then [112] else [108]

/-- The tokens of a type, from the front. -/
def toksW : Nat → Tr → List (List UInt8)
  | 0, _ => []
  | l + 1, ⟨k, n, ts⟩ => tokOf k n :: (ts.map (toksW l)).flatten

/-- Its text. -/
def textW : Nat → Tr → List UInt8
  | 0, _ => []
  | l + 1, ⟨k, n, ts⟩ => tokOf k n ++ (ts.map fun t => 32 :: textW l t).flatten

def toksTo (l : Nat) (k n : Int) (ts : List Tr) (j : Nat) : List (List UInt8) := tokOf k n :: ((ts.take j).map (toksW l)).flatten
def textTo (l : Nat) (k n : Int) (ts : List Tr) (j : Nat) : List UInt8 := tokOf k n ++ ((ts.take j).map fun t => 32 :: textW l t).flatten

theorem toksTo_zero (l : Nat) (k n : Int) (ts : List Tr) : toksTo l k n ts 0 = [tokOf k n] := by simp [toksTo]
theorem toksTo_succ (l : Nat) (k n : Int) (ts : List Tr) (j : Nat) (h : j < ts.length) : toksTo l k n ts (j + 1) = toksTo l k n ts j ++ toksW l ts[j] := by
  unfold toksTo; rw [List.take_succ_eq_append_getElem h, List.map_append, List.flatten_append]; simp only [List.map_cons, List.map_nil, List.flatten_cons, List.flatten_nil, List.append_nil, List.cons_append]
theorem toksTo_all (l : Nat) (k n : Int) (ts : List Tr) (j : Nat) (h : ts.length ≤ j) : toksTo l k n ts j = toksW (l + 1) ⟨k, n, ts⟩ := by
  unfold toksTo; rw [List.take_of_length_le h]; rfl
theorem textTo_zero (l : Nat) (k n : Int) (ts : List Tr) : textTo l k n ts 0 = tokOf k n := by simp [textTo]
theorem textTo_succ (l : Nat) (k n : Int) (ts : List Tr) (j : Nat) (h : j < ts.length) : textTo l k n ts (j + 1) = textTo l k n ts j ++ 32 :: textW l ts[j] := by
  unfold textTo; rw [List.take_succ_eq_append_getElem h, List.map_append, List.flatten_append]; simp only [List.map_cons, List.map_nil, List.flatten_cons, List.flatten_nil, List.append_nil, List.append_assoc]
theorem textTo_all (l : Nat) (k n : Int) (ts : List Tr) (j : Nat) (h : ts.length ≤ j) : textTo l k n ts j = textW (l + 1) ⟨k, n, ts⟩ := by
  unfold textTo; rw [List.take_of_length_le h]; rfl

theorem toks_tail : ∀ (l : Nat) (t : Tr) (m : Nat), nodesW l t = some m → Lib.joinTail [32] (toksW l t) = 32 :: textW l t := by
  intro l
  induction l with
  | zero => intro t m h; simp [nodesW] at h
  | succ l ih =>
    intro t m h
    obtain ⟨k, n, ts⟩ := t
    obtain ⟨_, hp⟩ := nodesW_inv h
    have hs : ∀ x ∈ ts, Lib.joinTail [32] (toksW l x) = 32 :: textW l x := by
      intro x hx
      obtain ⟨j, hj, rfl⟩ := List.mem_iff_getElem.1 hx
      obtain ⟨a, ha⟩ := hp j hj
      exact ih _ a ha
    have hj : ∀ ys : List Tr, (∀ x ∈ ys, Lib.joinTail [32] (toksW l x) = 32 :: textW l x) → Lib.joinTail [32] (ys.map (toksW l)).flatten = (ys.map fun t => 32 :: textW l t).flatten := by
      intro ys
      induction ys with
      | nil => intro _; rfl
      | cons y ys ihy =>
        intro hy
        have h1 := hy y (by simp)
        have h2 := ihy fun x hx => hy x (by simp [hx])
        unfold Lib.joinTail at h1 h2 ⊢
        simp only [List.map_cons, List.flatten_cons, List.map_append, List.flatten_append]
        rw [h1, h2]
    show Lib.joinTail [32] (tokOf k n :: (ts.map (toksW l)).flatten) = 32 :: (tokOf k n ++ (ts.map fun t => 32 :: textW l t).flatten)
    have h3 := hj ts hs
    unfold Lib.joinTail at h3 ⊢
    rw [List.map_cons, List.flatten_cons, h3]
    rfl

theorem toks_joinT (l : Nat) (t : Tr) (m : Nat) (h : nodesW l t = some m) : Lib.join (toksW l t) [32] = textW l t := by
  have ht := toks_tail l t m h
  cases l with
  | zero => simp [nodesW] at h
  | succ l =>
    obtain ⟨k, n, ts⟩ := t
    have e : toksW (l + 1) ⟨k, n, ts⟩ = tokOf k n :: (ts.map (toksW l)).flatten := rfl
    rw [e] at ht ⊢
    rw [Lib.join_cons]
    unfold Lib.joinTail at ht ⊢
    rw [List.map_cons, List.flatten_cons] at ht
    have := List.cons.inj ht
    exact this.2

/-- As many tokens as nodes, each of two bytes at most. -/
theorem toks_len : ∀ (l : Nat) (t : Tr) (m : Nat), nodesW l t = some m → (toksW l t).length = m := by
  intro l
  induction l with
  | zero => intro t m h; simp [nodesW] at h
  | succ l ih =>
    intro t m h
    obtain ⟨k, n, ts⟩ := t
    have hn : ∀ (ys : List Tr) (s : Nat), nodesL (nodesW l) ys = some s → ((ys.map (toksW l)).flatten).length = s := by
      intro ys
      induction ys with
      | nil => intro s h; simp [nodesL] at h; simp [← h]
      | cons y ys ihy =>
        intro s h
        simp only [nodesL] at h
        cases hy : nodesW l y with
        | none => simp [hy] at h
        | some a =>
          cases hz : nodesL (nodesW l) ys with
          | none => simp [hy, hz] at h
          | some b =>
            simp [hy, hz] at h
            simp only [List.map_cons, List.flatten_cons, List.length_append]
            rw [ih y a hy, ihy b hz]
            exact h
    obtain ⟨hk, _⟩ := nodesW_inv h
    simp only [nodesW, hk] at h
    cases hz : nodesL (nodesW l) ts with
    | none => simp [hz] at h
    | some b =>
      simp [hz] at h
      have := hn ts b hz
      simp only [toksW, List.length_cons]
      omega

theorem tokOf_len (k n : Int) : (tokOf k n).length ≤ 2 := by unfold tokOf; (repeat' split) <;> simp

theorem toksW_each : ∀ (l : Nat) (t : Tr), ∀ x ∈ toksW l t, x.length ≤ 2 := by
  intro l
  induction l with
  | zero => intro t x hx; simp [toksW] at hx
  | succ l ih =>
    intro t x hx
    obtain ⟨k, n, ts⟩ := t
    simp only [toksW, List.mem_cons, List.mem_flatten, List.mem_map] at hx
    rcases hx with rfl | ⟨_, ⟨y, _, rfl⟩, hx⟩
    · exact tokOf_len k n
    · exact ih y x hx

theorem textW_len (l : Nat) (t : Tr) (m : Nat) (h : nodesW l t = some m) : (textW l t).length ≤ 3 * m := by
  have h1 := toks_tail l t m h
  have h2 := congrArg List.length h1
  rw [Lib.joinTail_length] at h2
  have h3 := toks_len l t m h
  have h4 : ∀ ys : List (List UInt8), (∀ x ∈ ys, x.length ≤ 2) → Lib.lens ys ≤ 2 * ys.length := by
    intro ys
    induction ys with
    | nil => intro _; simp [Lib.lens]
    | cons y ys ih =>
      intro hy
      have a := hy y (by simp)
      have b := ih fun x hx => hy x (by simp [hx])
      simp only [Lib.lens, List.map_cons, List.sum_cons, List.length_cons] at b ⊢
      omega
  have h5 := h4 _ (toksW_each l t)
  simp only [List.length_cons, List.length_nil] at h2
  omega

/-- Where a piece of P's length and the type's nodes are: the tokens of some parts are no more. -/
theorem toksTo_len {l : Nat} {k n : Int} {ts : List Tr} {m : Nat} (h : nodesW (l + 1) ⟨k, n, ts⟩ = some m) (j : Nat) (hj : j < ts.length) : (toksTo l k n ts j).length + (toksW l ts[j]).length ≤ m := by
  have h1 := toks_len _ _ _ h
  have e := congrArg List.length (toksTo_succ l k n ts j hj)
  rw [List.length_append] at e
  have e2 : (toksTo l k n ts (j + 1)).length ≤ (toksW (l + 1) ⟨k, n, ts⟩).length := by
    show (tokOf k n :: ((ts.take (j + 1)).map (toksW l)).flatten).length ≤ (tokOf k n :: (ts.map (toksW l)).flatten).length
    have := congrArg (fun x => ((x.map (toksW l)).flatten).length) (List.take_append_drop (j + 1) ts)
    simp only [List.map_append, List.flatten_append, List.length_append] at this
    simp only [List.length_cons]
    omega
  omega

theorem part_le {l : Nat} {k n : Int} {ts : List Tr} {m a : Nat} (h : nodesW (l + 1) ⟨k, n, ts⟩ = some m) (j : Nat) (hj : j < ts.length) (ha : nodesW l ts[j] = some a) : a ≤ m := by
  have h1 := toksTo_len h j hj
  have h2 := toks_len _ _ _ ha
  omega

theorem textTo_len {l : Nat} {k n : Int} {ts : List Tr} {m : Nat} (h : nodesW (l + 1) ⟨k, n, ts⟩ = some m) (j : Nat) (hj : j < ts.length) : (textTo l k n ts j).length + 1 + (textW l ts[j]).length ≤ 3 * m := by
  have h1 := textW_len _ _ _ h
  have e := congrArg List.length (textTo_succ l k n ts j hj)
  rw [List.length_append, List.length_cons] at e
  have e2 : (textTo l k n ts (j + 1)).length ≤ (textW (l + 1) ⟨k, n, ts⟩).length := by
    show (tokOf k n ++ ((ts.take (j + 1)).map fun t => 32 :: textW l t).flatten).length ≤ (tokOf k n ++ (ts.map fun t => 32 :: textW l t).flatten).length
    have := congrArg (fun x => ((x.map fun t => 32 :: textW l t).flatten).length) (List.take_append_drop (j + 1) ts)
    simp only [List.map_append, List.flatten_append, List.length_append] at this
    simp only [List.length_append]
    omega
  omega

def txT (t : Tr) : List UInt8 := if okT t = true then textW 6 t else []

theorem okT_le {t : Tr} (h : okT t = true) : ∃ m, nodesW 6 t = some m ∧ m ≤ 60 := by
  cases hm : nodesW 6 t with
  | none => simp [okT, nodesT, hm] at h
  | some m =>
    refine ⟨m, rfl, ?_⟩
    by_cases h6 : m ≤ 60
    · exact h6
    · simp [okT, nodesT, hm, h6] at h

end Go.Proofs.Ythmmapahobkhnaa

/-
  Terms as forms: the value that 'formOf' answers of a term that is right; no memory is in it but that of its types.
-/
namespace Go.Proofs.Ythmmapahobkhnaa
open Go.RowKit
set_option linter.unusedVariables false
set_option linter.unusedSimpArgs false

theorem nodesM_inv {l : Nat} {t : Tm} {m : Nat} (h : nodesM (l + 1) t = some m) : nodeM t = true ∧ ∀ j (hj : j < t.A.length), ∃ a, nodesM l t.A[j] = some a := by
  simp only [nodesM] at h
  cases hn : nodeM t with
  | false => simp [hn] at h
  | true =>
    refine ⟨rfl, fun j hj => ?_⟩
    simp only [hn, if_true] at h
    cases hg : nodesG (nodesM l) t.A with
    | none => simp [hg] at h
    | some s =>
      cases hj' : nodesM l t.A[j] with
      | some a => exact ⟨a, rfl⟩
      | none => rw [nodesG_none (nodesM l) t.A j hj hj'] at hg; cases hg

theorem nodeM_kinds {t : Tm} (h : nodeM t = true) : 1 ≤ t.K ∧ t.K ≤ 17 ∧ (t.A.length : Int) = shP t.K := by
  simp only [nodeM, Bool.and_eq_true, decide_eq_true_eq, kOk] at h
  exact ⟨h.1.1.1.1.1.1, h.1.1.1.1.1.2, h.1.1.1.2⟩

theorem okM_some {t : Tm} (h : okM t = true) : ∃ m, nodesM 24 t = some m ∧ m ≤ 150 := by
  unfold okM at h
  cases hm : nodesM 24 t with
  | none => simp [hm, lid] at h
  | some m =>
    refine ⟨m, rfl, ?_⟩
    by_cases h6 : m ≤ 150
    · exact h6
    · simp [hm, lid, h6] at h

end Go.Proofs.Ythmmapahobkhnaa
