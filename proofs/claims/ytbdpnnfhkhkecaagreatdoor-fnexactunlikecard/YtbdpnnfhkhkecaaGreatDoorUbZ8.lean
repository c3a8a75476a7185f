/-
  When a term is right, in plain words: names, shapes of kinds, one node, nodes down to a depth. No walk.
-/
import Derived.Test.YtbdpnnfhkhkecaaGreatDoorUbZ6
import Derived.Test.YtbdpnnfhkhkecaaGreatDoorUbZ7
import Derived.PlainAid
namespace Go.Proofs.YtbdpnnfhkhkecaaGreatDoor
open Go.RowKit Go.PlainAid
set_option linter.unusedVariables false
set_option linter.unusedSimpArgs false

def isLow (x : Int) : Bool := decide (97 ≤ x ∧ x ≤ 122)
def isDig (x : Int) : Bool := decide (48 ≤ x ∧ x ≤ 57)
def chOk (x : Int) : Bool := isLow x || isDig x || decide (x = 46)
def allB (s : ByteArray) (n : Nat) (f : Int → Bool) : Bool := (List.range n).all fun i => f (bt s i)
def nameW (s : ByteArray) : Bool := decide (1 ≤ s.size) && decide (s.size ≤ 8) && isLow (bt s 0) && allB s s.size chOk

theorem allB_succ (s : ByteArray) (n : Nat) (f : Int → Bool) : allB s (n + 1) f = (allB s n f && f (bt s n)) := by
  simp [allB, List.range_succ, List.all_append]
theorem allB_false {s : ByteArray} {n : Nat} {f : Int → Bool} (k : Nat) (h : k < n) (hf : f (bt s k) = false) : allB s n f = false := by
  rw [Bool.eq_false_iff]; intro h1
  have := List.all_eq_true.1 h1 k (List.mem_range.2 h)
  simp only [hf] at this; cases this
theorem allB_get {s : ByteArray} {n : Nat} {f : Int → Bool} (h : allB s n f = true) (k : Nat) (hk : k < n) : f (bt s k) = true := List.all_eq_true.1 h k (List.mem_range.2 hk)

def isNil (s : ByteArray) : Bool := s.toList.isEmpty

def kOk (k : Int) : Bool := decide (1 ≤ k ∧ k ≤ 17)
def shN (k : Int) : Int := if k = 3 ∨ k = 4 ∨ k = 6 ∨ k = 7 ∨ k = 17 then 1 else if k = 14 then 2 else 0
def shL (k : Int) : Int := if k = 1 then -1000000 else if k = 15 then 1 else 0
def shM (k : Int) : Int := if k = 1 then 1000000 else if k = 2 then 1 else if k = 6 ∨ k = 7 then 2 else if k = 15 then 5 else 0
def shT (k : Int) : Bool := decide (k = 4 ∨ k = 7 ∨ k = 12 ∨ k = 16)
def shS (k : Int) : Int := if k = 3 then 2 else 0
def shP (k : Int) : Int := if k = 4 ∨ k = 10 ∨ k = 11 ∨ k = 16 then 1 else if k = 5 ∨ k = 6 ∨ k = 7 ∨ k = 9 ∨ k = 13 ∨ k = 15 ∨ k = 17 then 2 else if k = 8 ∨ k = 14 then 3 else 0

theorem shN_bd (k : Int) : 0 ≤ shN k ∧ shN k ≤ 2 := by unfold shN; (repeat' split) <;> omega
theorem shL_bd (k : Int) : -1000000 ≤ shL k ∧ shL k ≤ 1 := by unfold shL; (repeat' split) <;> omega
theorem shM_bd (k : Int) : 0 ≤ shM k ∧ shM k ≤ 1000000 := by unfold shM; (repeat' split) <;> omega
theorem shS_bd (k : Int) : 0 ≤ shS k ∧ shS k ≤ 2 := by unfold shS; (repeat' split) <;> omega
theorem shP_bd (k : Int) : 0 ≤ shP k ∧ shP k ≤ 3 := by unfold shP; (repeat' split) <;> omega

def namesB (n : Int) (s z : ByteArray) : Bool := if n = 0 then isNil s && isNil z else if n = 1 then nameW s && isNil z else nameW s && nameW z && !(s.toList == z.toList)
def zeroT (t : Tr) : Bool := (t.K == 0) && (t.N == 0) && ((t.A.length : Int) == 0)
def typesB (k : Int) (t : Tr) (ts : List Tr) : Bool := (if shT k then okT t else zeroT t) && decide ((ts.length : Int) ≤ shS k) && ts.all okT
def fixB (k : Int) (a : List Tm) : Bool := if k = 7 then (match a with | x :: _ => decide (x.K = 4) | [] => false) else true

/-- One node, without its parts. -/
def nodeM (t : Tm) : Bool := kOk t.K && decide (shL t.K ≤ t.N ∧ t.N ≤ shM t.K) && decide ((t.A.length : Int) = shP t.K) && fixB t.K t.A && namesB (shN t.K) t.S t.Z && typesB t.K t.T t.Ts

theorem nodeM_len {t : Tm} (h : nodeM t = true) : t.A.length ≤ 3 := by
  simp only [nodeM, Bool.and_eq_true, decide_eq_true_eq] at h
  have := shP_bd t.K
  omega

def nodesG (f : Tm → Option Nat) : List Tm → Option Nat
  | [] => some 0
  | t :: ts => match f t, nodesG f ts with
    | some a, some b => some (a + b)
    | _, _ => none

/-- How many nodes a term has that is right down to a depth. -/
def nodesM : Nat → Tm → Option Nat
  | 0, _ => none
  | l + 1, t => if nodeM t then (nodesG (nodesM l) t.A).map (1 + ·) else none

theorem nodesG_append (f : Tm → Option Nat) (a b : List Tm) : nodesG f (a ++ b) = match nodesG f a, nodesG f b with | some x, some y => some (x + y) | _, _ => none := by
  induction a with
  | nil => simp only [List.nil_append, nodesG]; cases nodesG f b <;> simp
  | cons t a ih =>
    simp only [List.cons_append, nodesG, ih]
    cases f t <;> cases nodesG f a <;> cases nodesG f b <;> simp [Nat.add_assoc]

theorem nodesG_take (f : Tm → Option Nat) (l : List Tm) (k : Nat) (h : k < l.length) (m : Nat) (hm : nodesG f (l.take k) = some m) : nodesG f (l.take (k + 1)) = (f l[k]).map (m + ·) := by
  rw [List.take_succ_eq_append_getElem h, nodesG_append, hm]
  simp only [nodesG]
  cases f l[k] <;> simp

theorem nodesG_none (f : Tm → Option Nat) (l : List Tm) (k : Nat) (h : k < l.length) (hf : f l[k] = none) : nodesG f l = none := by
  have e : l = l.take k ++ l[k] :: l.drop (k + 1) := by simp
  rw [e, nodesG_append]
  simp only [nodesG, hf]
  cases nodesG f (l.take k) <;> rfl

theorem nodesG_part (f : Tm → Option Nat) (l : List Tm) (k : Nat) (h : k < l.length) (m a s : Nat) (hm : nodesG f (l.take k) = some m) (ha : f l[k] = some a) (hs : nodesG f l = some s) : m + a ≤ s := by
  have h1 := nodesG_take f l k h m hm
  rw [ha] at h1
  have e := congrArg (nodesG f) (List.take_append_drop (k + 1) l)
  rw [nodesG_append, h1, hs] at e
  simp only [Option.map_some] at e
  cases hd : nodesG f (l.drop (k + 1)) with
  | none => simp [hd] at e
  | some x => simp [hd] at e; omega

theorem nodesM_pos (l : Nat) (t : Tm) (m : Nat) (h : nodesM l t = some m) : 1 ≤ m := by
  cases l with
  | zero => simp [nodesM] at h
  | succ l =>
    simp only [nodesM] at h
    split at h
    · cases h1 : nodesG (nodesM l) t.A with
      | none => simp [h1] at h
      | some s => simp [h1] at h; omega
    · simp at h

/-- The count with a lid: none above it. -/
def lid (most : Nat) : Option Nat → Option Nat
  | some m => if m ≤ most then some m else none
  | none => none

/-- How many nodes a term has, 0 of what is not right. -/
def nodesTm (t : Tm) : Nat := (lid 150 (nodesM 24 t)).getD 0
def okM (t : Tm) : Bool := (lid 150 (nodesM 24 t)).isSome

end Go.Proofs.YtbdpnnfhkhkecaaGreatDoor

/-
  Terms as forms: the value that 'formOf' answers of a term that is right; no memory is in it but that of its types.
-/
namespace Go.Proofs.YtbdpnnfhkhkecaaGreatDoor
open Go.RowKit
set_option linter.unusedVariables false
set_option linter.unusedSimpArgs false

theorem nodesM_inv {l : Nat} {t : Tm} {m : Nat} (h : nodesM (l + 1) t = some m) : nodeM t = true ∧ ∀ j (hj : j < t.A.length), ∃ a, nodesM l t.A[j] = some a := by
  simp only [nodesM] at h
  cases hn : nodeM t with
  | false => simp [hn] at h
  | true =>
    refine ⟨rfl, fun j hj => ?_⟩
    simp only [hn, if_true] at h
    cases hg : nodesG (nodesM l) t.A with
    | none => simp [hg] at h
    | some s =>
      cases hj' : nodesM l t.A[j] with
      | some a => exact ⟨a, rfl⟩
      | none => rw [nodesG_none (nodesM l) t.A j hj hj'] at hg; cases hg

theorem nodeM_kinds {t : Tm} (h : nodeM t = true) : 1 ≤ t.K ∧ t.K ≤ 17 ∧ (t.A.length : Int) = shP t.K := by
  simp only [nodeM, Bool.and_eq_true, decide_eq_true_eq, kOk] at h
  exact ⟨h.1.1.1.1.1.1, h.1.1.1.1.1.2, h.1.1.1.2⟩

theorem okM_some {t : Tm} (h : okM t = true) : ∃ m, nodesM 24 t = some m ∧ m ≤ 150 := by
  unfold okM at h
  cases hm : nodesM 24 t with
  | none => simp [hm, lid] at h
  | some m =>
    refine ⟨m, rfl, ?_⟩
    by_cases h6 : m ≤ 150
    · exact h6
    · simp [hm, lid, h6] at h

end Go.Proofs.YtbdpnnfhkhkecaaGreatDoor

/-
  Free names: 'gatherBound', and free names in plain words.
-/
namespace Go.Proofs.YtbdpnnfhkhkecaaGreatDoor
open Go.RowKit
set_option linter.unusedVariables false
set_option linter.unusedSimpArgs false

/-- The names that a term binds in its i-th part. -/
def bindsW (k : Int) (s z : List UInt8) (i : Nat) : List (List UInt8) := if k = 4 ∨ k = 7 ∨ (k = 6 ∧ i = 1) ∨ (k = 17 ∧ i = 1) then [s] else if k = 14 ∧ i = 2 then [s, z] else []

def freeF (f : Tm → List (List UInt8) → List (List UInt8) → List (List UInt8)) (k : Int) (s z : List UInt8) : Nat → List Tm → List (List UInt8) → List (List UInt8) → List (List UInt8)
  | _, [], _, Fr => Fr
  | i, t :: ts, Bd, Fr => freeF f k s z (i + 1) ts Bd (f t (Bd ++ bindsW k s z i) Fr)

/-- The free names of a term behind those that are there. -/
def freeW : Nat → Tm → List (List UInt8) → List (List UInt8) → List (List UInt8)
  | 0, _, _, Fr => Fr
  | l + 1, t, Bd, Fr => freeF (freeW l) t.K (bs t.S) (bs t.Z) 0 t.A Bd (if t.K = 3 then meetW Bd Fr (bs t.S) else Fr)

theorem meetW_len (Bd Fr : List (List UInt8)) (x : List UInt8) : (meetW Bd Fr x).length ≤ Fr.length + 1 := by
  unfold meetW; split <;> simp

theorem freeF_len {f : Tm → List (List UInt8) → List (List UInt8) → List (List UInt8)} {g : Tm → Option Nat} (hf : ∀ t m Bd Fr, g t = some m → (f t Bd Fr).length ≤ Fr.length + m) (k : Int) (s z : List UInt8) : ∀ (ts : List Tm) (i : Nat) (Bd Fr : List (List UInt8)) (m : Nat), nodesG g ts = some m → (freeF f k s z i ts Bd Fr).length ≤ Fr.length + m := by
  intro ts
  induction ts with
  | nil => intro i Bd Fr m h; simp [freeF]
  | cons t ts ih =>
    intro i Bd Fr m h
    simp only [nodesG] at h
    cases ht : g t with
    | none => simp [ht] at h
    | some a =>
      cases hz : nodesG g ts with
      | none => simp [ht, hz] at h
      | some b =>
        simp [ht, hz] at h
        have h1 := hf t a (Bd ++ bindsW k s z i) Fr ht
        have h2 := ih (i + 1) Bd (f t (Bd ++ bindsW k s z i) Fr) b hz
        simp only [freeF]
        omega

theorem freeW_len : ∀ (l : Nat) (t : Tm) (m : Nat) (Bd Fr : List (List UInt8)), nodesM l t = some m → (freeW l t Bd Fr).length ≤ Fr.length + m := by
  intro l
  induction l with
  | zero => intro t m Bd Fr h; simp [nodesM] at h
  | succ l ih =>
    intro t m Bd Fr h
    have hn := (nodesM_inv h).1
    simp only [nodesM, hn, if_true] at h
    cases hz : nodesG (nodesM l) t.A with
    | none => simp [hz] at h
    | some b =>
      simp [hz] at h
      have h1 := freeF_len (f := freeW l) (g := nodesM l) (fun t m Bd Fr h => ih t m Bd Fr h) t.K (bs t.S) (bs t.Z) t.A 0 Bd (if t.K = 3 then meetW Bd Fr (bs t.S) else Fr) b hz
      have h2 : (if t.K = 3 then meetW Bd Fr (bs t.S) else Fr).length ≤ Fr.length + 1 := by
        split
        · exact meetW_len _ _ _
        · omega
      simp only [freeW]
      omega

end Go.Proofs.YtbdpnnfhkhkecaaGreatDoor

/-
  The binders of a term, and all terms within it, in plain words; what a call leaves that changes no block but a few of its own.
-/
namespace Go.Proofs.YtbdpnnfhkhkecaaGreatDoor
open Go.RowKit
set_option linter.unusedVariables false
set_option linter.unusedSimpArgs false

/-- All terms within a term, itself first, from the front. -/
def allW : Tm → List Tm
  | ⟨k, n, s, z, t, ts, a⟩ => ⟨k, n, s, z, t, ts, a⟩ :: (a.attach.map fun ⟨x, _⟩ => allW x).flatten
theorem allW_eq (t : Tm) : allW t = t :: (t.A.map allW).flatten := by
  cases t; rw [allW]; simp

theorem allW_lenG {f : Tm → Option Nat} (hf : ∀ t m, f t = some m → (allW t).length = m) : ∀ (ts : List Tm) (m : Nat), nodesG f ts = some m → ((ts.map allW).flatten).length = m := by
  intro ts
  induction ts with
  | nil => intro m h; simp [nodesG] at h; simp [h]
  | cons t ts ih =>
    intro m h
    simp only [nodesG] at h
    cases ht : f t with
    | none => simp [ht] at h
    | some a =>
      cases hz : nodesG f ts with
      | none => simp [ht, hz] at h
      | some b =>
        simp [ht, hz] at h
        have h1 := hf t a ht
        have h2 := ih b hz
        simp only [List.map_cons, List.flatten_cons, List.length_append]
        omega

theorem allW_len : ∀ (l : Nat) (t : Tm) (m : Nat), nodesM l t = some m → (allW t).length = m := by
  intro l
  induction l with
  | zero => intro t m h; simp [nodesM] at h
  | succ l ih =>
    intro t m h
    have hn := (nodesM_inv h).1
    simp only [nodesM, hn, if_true] at h
    cases hz : nodesG (nodesM l) t.A with
    | none => simp [hz] at h
    | some b =>
      simp [hz] at h
      have h1 := allW_lenG ih t.A b hz
      rw [allW_eq, List.length_cons, h1]
      omega

/-- Those of the parts ahead of the j-th. -/
def preW (t : Tm) (j : Nat) : List Tm := ((t.A.take j).map allW).flatten
theorem preW_zero (t : Tm) : preW t 0 = [] := rfl
theorem preW_succ (t : Tm) (j : Nat) (hj : j < t.A.length) : preW t (j + 1) = preW t j ++ allW t.A[j] := by
  unfold preW
  rw [List.take_succ_eq_append_getElem hj, List.map_append, List.flatten_append]
  simp only [List.map_cons, List.map_nil, List.flatten_cons, List.flatten_nil, List.append_nil]
theorem preW_all (t : Tm) (j : Nat) (hj : t.A.length ≤ j) : allW t = t :: preW t j := by
  unfold preW
  rw [List.take_of_length_le hj, allW_eq]
theorem preW_len {l : Nat} {t : Tm} {m : Nat} (h : nodesM (l + 1) t = some m) (j : Nat) (hj : j < t.A.length) {a : Nat} (ha : nodesM l t.A[j] = some a) : (preW t j).length + 1 + a ≤ m := by
  have h1 := allW_len _ t m h
  have h2 := allW_len _ _ a ha
  have h3 := preW_all t t.A.length (Nat.le_refl _)
  have h4 := congrArg List.length h3
  have h5 : (preW t (j + 1)).length ≤ (preW t t.A.length).length := by
    unfold preW
    have e : t.A.take t.A.length = t.A.take (j + 1) ++ (t.A.drop (j + 1)) := by rw [List.take_length, List.take_append_drop]
    rw [e, List.map_append, List.flatten_append, List.length_append]
    omega
  have h6 := congrArg List.length (preW_succ t j hj)
  rw [List.length_append] at h6
  rw [List.length_cons] at h4
  omega

/-- From w to w' no block has changed but those of F; those of F' are of F, or new. -/
structure Kf (F : Nat → Prop) (w : World) (F' : Nat → Prop) (w' : World) : Prop where
  os : w'.os = w.os
  tape : w'.tape = w.tape
  output : w'.output = w.output
  size : w.heap.size ≤ w'.heap.size
  block : ∀ k, k < w.heap.size → ¬ F k → w'.heap[k]? = w.heap[k]?
  own : ∀ k, F' k → F k ∨ w.heap.size ≤ k

theorem Kf.trans {F F' F'' : Nat → Prop} {w w' w'' : World} (h : Kf F w F' w') (k : Kf F' w' F'' w'') : Kf F w F'' w'' := by
  refine ⟨k.os.trans h.os, k.tape.trans h.tape, k.output.trans h.output, Nat.le_trans h.size k.size, fun i hi h1 => ?_, fun i hi => ?_⟩
  · exact (k.block i (Nat.lt_of_lt_of_le hi h.size) (fun e => by rcases h.own i e with e | e; exact h1 e; omega)).trans (h.block i hi h1)
  · rcases k.own i hi with e | e
    · exact h.own i e
    · exact Or.inr (Nat.le_trans h.size e)
theorem Kf.of_below {F : Nat → Prop} {w w' : World} (h : Below w.heap.size w w') : Kf F w F w' :=
  ⟨h.os, h.tape, h.output, h.size, fun k hk _ => h.block k hk, fun k hk => Or.inl hk⟩
theorem Kf.below {base : Nat} {F F' : Nat → Prop} {w w' : World} (h : Kf F w F' w') (hF : ∀ k, F k → base ≤ k) (hb : base ≤ w.heap.size) : Below base w w' :=
  ⟨h.os, h.tape, h.output, h.size, fun k hk => h.block k (by omega) (fun e => by have := hF k e; omega)⟩

theorem cell_1 {w : World} {b : Nat} {a0 : Value} {t : TypeId} {fr : Nat × Nat} (h : w.heap[b]? = some (.cells #[a0] t fr)) : w.cell? ⟨b, 0, none⟩ = some a0 := row_cell h 0

end Go.Proofs.YtbdpnnfhkhkecaaGreatDoor
