/-
  When a term is right, in plain words: names, shapes of kinds, one node, nodes down to a depth. No walk.
-/
import Derived.Test.YtbdmdgghhefmcaaPfoZ3
import Derived.Test.YtbdmdgghhefmcaaPfoZ4
import Derived.PlainAid
namespace Go.Proofs.Ytbdmdgghhefmcaa
open Go.RowKit Go.PlainAid
set_option linter.unusedVariables false
set_option linter.unusedSimpArgs false

def isLow (x : Int) : Bool := decide (97 ≤ x ∧ x ≤ 122)
def isDig (x : Int) : Bool := decide (48 ≤ x ∧ x ≤ 57)
def chOk (x : Int) : Bool := isLow x || isDig x || decide (x = 46)
def allB (s : ByteArray) (n : Nat) (f : Int → Bool) : Bool := (List.range n).all fun i => f (bt s i)
def nameW (s : ByteArray) : Bool := decide (1 ≤ s.size) && decide (s.size ≤ 8) && isLow (bt s 0) && allB s s.size chOk

theorem allB_succ (s : ByteArray) (n : Nat) (f : Int → Bool) : allB s (n + 1) f = (allB s n f && f (bt s n)) := by
  simp [allB, List.range_succ, List.all_append]
theorem allB_false {s : ByteArray} {n : Nat} {f : Int → Bool} (k : Nat) (h : k < n) (hf : f (bt s k) = false) : allB s n f = false := by
  rw [Bool.eq_false_iff]; intro h1
  have := List.all_eq_true.1 h1 k (List.mem_range.2 h)
  simp only [hf] at this; cases this
def isNil (s : ByteArray) : Bool := s.toList.isEmpty

def kOk (k : Int) : Bool := decide (1 ≤ k ∧ k ≤ 17)
def shN (k : Int) : Int := if k = 3 ∨ k = 4 ∨ k = 6 ∨ k = 7 ∨ k = 17 then 1 else if k = 14 then 2 else 0
def shL (k : Int) : Int := if k = 1 then -1000000 else if k = 15 then 1 else 0
def shM (k : Int) : Int := if k = 1 then 1000000 else if k = 2 then 1 else if k = 6 ∨ k = 7 then 2 else if k = 15 then 5 else 0
def shT (k : Int) : Bool := decide (k = 4 ∨ k = 7 ∨ k = 12 ∨ k = 16)
def shS (k : Int) : Int := if k = 3 then 2 else 0
def shP (k : Int) : Int := if k = 4 ∨ k = 10 ∨ k = 11 ∨ k = 16 then 1 else if k = 5 ∨ k = 6 ∨ k = 7 ∨ k = 9 ∨ k = 13 ∨ k = 15 ∨ k = 17 then 2 else if k = 8 ∨ k = 14 then 3 else 0

theorem shN_bd (k : Int) : 0 ≤ shN k ∧ shN k ≤ 2 := by unfold shN; (repeat' split) <;> omega
theorem shL_bd (k : Int) : -1000000 ≤ shL k ∧ shL k ≤ 1 := by unfold shL; (repeat' split) <;> omega
theorem shM_bd (k : Int) : 0 ≤ shM k ∧ shM k ≤ 1000000 := by unfold shM; (repeat' split) <;> omega
theorem shS_bd (k : Int) : 0 ≤ shS k ∧ shS k ≤ 2 := by unfold shS; (repeat' split) <;> omega
theorem shP_bd (k : Int) : 0 ≤ shP k ∧ shP k ≤ 3 := by unfold shP; (repeat' split) <;> omega

def namesB (n : Int) (s z : ByteArray) : Bool := if n = 0 then isNil s && isNil z else if n = 1 then nameW s && isNil z else nameW s && nameW z && !(s.toList == z.toList)
def zeroT (t : Tr) : Bool := (t.K == 0) && (t.N == 0) && ((t.A.length : Int) == 0)
def typesB (k : Int) (t : Tr) (ts : List Tr) : Bool := (if shT k then okT t else zeroT t) && decide ((ts.length : Int) ≤ shS k) && ts.all okT
def fixB (k : Int) (a : List Tm) : Bool := if k = 7 then (match a with | x :: _ => decide (x.K = 4) | [] => false) else true

/-- One node, without its parts. -/
def nodeM (t : Tm) : Bool := kOk t.K && decide (shL t.K ≤ t.N ∧ t.N ≤ shM t.K) && decide ((t.A.length : Int) = shP t.K) && fixB t.K t.A && namesB (shN t.K) t.S t.Z && typesB t.K t.T t.Ts

theorem nodeM_len {t : Tm} (h : nodeM t = true) : t.A.length ≤ 3 := by
  simp only [nodeM, Bool.and_eq_true, decide_eq_true_eq] at h
  have := shP_bd t.K
  omega

def nodesG (f : Tm → Option Nat) : List Tm → Option Nat
  | [] => some 0
  | t :: ts => match f t, nodesG f ts with
    | some a, some b => some (a + b)
    | _, _ => none

/-- How many nodes a term has that is right down to a depth. -/
def nodesM : Nat → Tm → Option Nat
  | 0, _ => none
  | l + 1, t => if nodeM t then (nodesG (nodesM l) t.A).map (1 + ·) else none

theorem nodesG_append (f : Tm → Option Nat) (a b : List Tm) : nodesG f (a ++ b) = match nodesG f a, nodesG f b with | some x, some y => some (x + y) | _, _ => none := by
  induction a with
  | nil => simp only [List.nil_append, nodesG]; cases nodesG f b <;> simp
  | cons t a ih =>
    simp only [List.cons_append, nodesG, ih]
    cases f t <;> cases nodesG f a <;> cases nodesG f b <;> simp [Nat.add_assoc]

theorem nodesG_take (f : Tm → Option Nat) (l : List Tm) (k : Nat) (h : k < l.length) (m : Nat) (hm : nodesG f (l.take k) = some m) : nodesG f (l.take (k + 1)) = (f l[k]).map (m + ·) := by
  rw [List.take_succ_eq_append_getElem h, nodesG_append, hm]
  simp only [nodesG]
  cases f l[k] <;> simp

theorem nodesG_none (f : Tm → Option Nat) (l : List Tm) (k : Nat) (h : k < l.length) (hf : f l[k] = none) : nodesG f l = none := by
  have e : l = l.take k ++ l[k] :: l.drop (k + 1) := by simp
  rw [e, nodesG_append]
  simp only [nodesG, hf]
  cases nodesG f (l.take k) <;> rfl

theorem nodesG_part (f : Tm → Option Nat) (l : List Tm) (k : Nat) (h : k < l.length) (m a s : Nat) (hm : nodesG f (l.take k) = some m) (ha : f l[k] = some a) (hs : nodesG f l = some s) : m + a ≤ s := by
  have h1 := nodesG_take f l k h m hm
  rw [ha] at h1
  have e := congrArg (nodesG f) (List.take_append_drop (k + 1) l)
  rw [nodesG_append, h1, hs] at e
  simp only [Option.map_some] at e
  cases hd : nodesG f (l.drop (k + 1)) with
  | none => simp [hd] at e
  | some x => simp [hd] at e; omega

theorem nodesM_pos (l : Nat) (t : Tm) (m : Nat) (h : nodesM l t = some m) : 1 ≤ m := by
  cases l with
  | zero => simp [nodesM] at h
  | succ l =>
    simp only [nodesM] at h
    split at h
    · cases h1 : nodesG (nodesM l) t.A with
      | none => simp [h1] at h
      | some s => simp [h1] at h; omega
    · simp at h

/-- The count with a lid: none above it. -/
def lid (most : Nat) : Option Nat → Option Nat
  | some m => if m ≤ most then some m else none
  | none => none

/-- How many nodes a term has, 0 of what is not right. -/
def nodesTm (t : Tm) : Nat := (lid 150 (nodesM 24 t)).getD 0
def okM (t : Tm) : Bool := (lid 150 (nodesM 24 t)).isSome

end Go.Proofs.Ytbdmdgghhefmcaa

/-
  Terms as forms: the value that 'formOf' answers of a term that is right; no memory is in it but that of its types.
-/
namespace Go.Proofs.Ytbdmdgghhefmcaa
open Go.RowKit
set_option linter.unusedVariables false
set_option linter.unusedSimpArgs false

theorem nodesM_inv {l : Nat} {t : Tm} {m : Nat} (h : nodesM (l + 1) t = some m) : nodeM t = true ∧ ∀ j (hj : j < t.A.length), ∃ a, nodesM l t.A[j] = some a := by
  simp only [nodesM] at h
  cases hn : nodeM t with
  | false => simp [hn] at h
  | true =>
    refine ⟨rfl, fun j hj => ?_⟩
    simp only [hn, if_true] at h
    cases hg : nodesG (nodesM l) t.A with
    | none => simp [hg] at h
    | some s =>
      cases hj' : nodesM l t.A[j] with
      | some a => exact ⟨a, rfl⟩
      | none => rw [nodesG_none (nodesM l) t.A j hj hj'] at hg; cases hg

theorem nodeM_kinds {t : Tm} (h : nodeM t = true) : 1 ≤ t.K ∧ t.K ≤ 17 ∧ (t.A.length : Int) = shP t.K := by
  simp only [nodeM, Bool.and_eq_true, decide_eq_true_eq, kOk] at h
  exact ⟨h.1.1.1.1.1.1, h.1.1.1.1.1.2, h.1.1.1.2⟩

theorem okM_some {t : Tm} (h : okM t = true) : ∃ m, nodesM 24 t = some m ∧ m ≤ 150 := by
  unfold okM at h
  cases hm : nodesM 24 t with
  | none => simp [hm, lid] at h
  | some m =>
    refine ⟨m, rfl, ?_⟩
    by_cases h6 : m ≤ 150
    · exact h6
    · simp [hm, lid, h6] at h

end Go.Proofs.Ytbdmdgghhefmcaa

/-
  The binders of a term, and all terms within it, in plain words; what a call leaves that changes no block but a few of its own.
-/
namespace Go.Proofs.Ytbdmdgghhefmcaa
open Go.RowKit
set_option linter.unusedVariables false
set_option linter.unusedSimpArgs false

/-- From w to w' no block has changed but those of F; those of F' are of F, or new. -/
structure Kf (F : Nat → Prop) (w : World) (F' : Nat → Prop) (w' : World) : Prop where
  os : w'.os = w.os
  tape : w'.tape = w.tape
  output : w'.output = w.output
  size : w.heap.size ≤ w'.heap.size
  block : ∀ k, k < w.heap.size → ¬ F k → w'.heap[k]? = w.heap[k]?
  own : ∀ k, F' k → F k ∨ w.heap.size ≤ k

theorem Kf.trans {F F' F'' : Nat → Prop} {w w' w'' : World} (h : Kf F w F' w') (k : Kf F' w' F'' w'') : Kf F w F'' w'' := by
  refine ⟨k.os.trans h.os, k.tape.trans h.tape, k.output.trans h.output, Nat.le_trans h.size k.size, fun i hi h1 => ?_, fun i hi => ?_⟩
  · exact (k.block i (Nat.lt_of_lt_of_le hi h.size) (fun e => by rcases h.own i e with e | e; exact h1 e; omega)).trans (h.block i hi h1)
  · rcases k.own i hi with e | e
    · exact h.own i e
    · exact Or.inr (Nat.le_trans h.size e)
theorem Kf.of_below {F : Nat → Prop} {w w' : World} (h : Below w.heap.size w w') : Kf F w F w' :=
  ⟨h.os, h.tape, h.output, h.size, fun k hk _ => h.block k hk, fun k hk => Or.inl hk⟩
theorem Kf.below {base : Nat} {F F' : Nat → Prop} {w w' : World} (h : Kf F w F' w') (hF : ∀ k, F k → base ≤ k) (hb : base ≤ w.heap.size) : Below base w w' :=
  ⟨h.os, h.tape, h.output, h.size, fun k hk => h.block k (by omega) (fun e => by have := hF k e; omega)⟩

theorem cell_1 {w : World} {b : Nat} {a0 : Value} {t : TypeId} {fr : Nat × Nat} (h : w.heap[b]? = some (.cells #[a0] t fr)) : w.cell? ⟨b, 0, none⟩ = some a0 := row_cell h 0

end Go.Proofs.Ytbdmdgghhefmcaa

/-
  Free names in the model: 'l2Binds'.
-/
namespace Go.Proofs.Ytbdmdgghhefmcaa
open Go.RowKit
set_option linter.unusedVariables false
set_option linter.unusedSimpArgs false

/-- A slice literal of names: a block of its own. -/
def LitE (w w' : World) (e : Ending) (N : List (List UInt8)) : Prop := ∃ g, e = .returned (.slice (some ⟨g, 0, none⟩) N.length N.length) ∧ Below w.heap.size w w' ∧ w.heap.size ≤ g ∧ w'.heap[g]? = some (.cells (N.map tk).toArray 9 (0, 0))

theorem lit_0 (w : World) (o : Obj) : LitE w ((w.alloc o).alloc (.cells #[] 9)) (.returned (.slice (some ⟨w.heap.size + 1, 0, none⟩) 0 0)) [] :=
  ⟨_, rfl, ((Below.refl _ _).alloc (Nat.le_refl _) _).alloc (by simp) _, by omega, heap_new (by simp)⟩
theorem lit_1 (w : World) (o : Obj) (s : ByteArray) : LitE w ((w.alloc o).alloc (.cells #[.string s] 9)) (.returned (.slice (some ⟨w.heap.size + 1, 0, none⟩) 1 1)) [bs s] :=
  ⟨_, rfl, ((Below.refl _ _).alloc (Nat.le_refl _) _).alloc (by simp) _, by omega, by rw [heap_new (by simp)]; simp [tk_bs]⟩
theorem lit_2 (w : World) (o : Obj) (s z : ByteArray) : LitE w ((w.alloc o).alloc (.cells #[.string s, .string z] 9)) (.returned (.slice (some ⟨w.heap.size + 1, 0, none⟩) 2 2)) [bs s, bs z] :=
  ⟨_, rfl, ((Below.refl _ _).alloc (Nat.le_refl _) _).alloc (by simp) _, by omega, by rw [heap_new (by simp)]; simp [tk_bs]⟩

end Go.Proofs.Ytbdmdgghhefmcaa

/-
  'namesIn', 'namesBy' of the program: the names that a term binds. (Written by mkbn1.py.)
-/
namespace Go.Proofs.Ytbdmdgghhefmcaa
open Go.RowKit
set_option linter.unusedVariables false
set_option linter.unusedSimpArgs false

/-- A row of names that is told: none, or a block of its own. -/
def NmE (w w' : World) (e : Ending) (N : List (List UInt8)) : Prop := ∃ xo c, e = .returned (.slice xo N.length c) ∧ Below w.heap.size w w' ∧ (0 < N.length → ∃ sb, xo = some ⟨sb, 0, none⟩ ∧ w.heap.size ≤ sb ∧ w'.heap[sb]? = some (.cells (N.map tk).toArray 9 (0, 0)))
theorem NmE.of_lit {w w' : World} {e : Ending} {N : List (List UInt8)} (h : LitE w w' e N) : NmE w w' e N := by
  obtain ⟨g, h1, h2, h3, h4⟩ := h
  exact ⟨_, _, h1, h2, fun _ => ⟨g, rfl, h3, h4⟩⟩
theorem nm_0 (w : World) (o : Obj) : NmE w (w.alloc o) (.returned (.slice none 0 0)) [] :=
  ⟨none, 0, rfl, (Below.refl _ _).alloc (Nat.le_refl _) _, fun h => by simp at h⟩

/-- The names that a term binds in its i-th part. -/
def nmI (k : Int) (s z : List UInt8) (i : Int) : List (List UInt8) := if k = 4 ∨ k = 7 ∨ (k = 6 ∧ i = 1) ∨ (k = 17 ∧ i = 1) then [s] else if k = 14 ∧ i = 2 then [s, z] else []

set_option maxRecDepth 100000 in
set_option maxHeartbeats 2000000 in
theorem namesIn_any (t : Tm) (a1 : Option Addr) (l1 c1 : Nat) (a2 : Option Addr) (l2 c2 : Nat) (a3 : Option Addr) (l3 c3 : Nat) (i : Int) (w : World) :
    Calls Try.prog 41 #[.agg #[.int .i64 t.K, .int .i64 t.N, .string t.S, .string t.Z, .int .i64 t.T.K, .int .i64 t.T.N, .slice a1 l1 c1, .slice a2 l2 c2, .slice a3 l3 c3], .int .i64 i] w fun e w' => NmE w w' e (nmI t.K (bs t.S) (bs t.Z) i) := by
  by_cases h4 : t.K = 4
  · have HN : Hid (nmI t.K (bs t.S) (bs t.Z) i = [bs t.S]) := by show _ = _; simp [nmI, h4]
    rw [HN.out]
    go_enter Try.func41, Try.ntmps41
    go_wp2_with fail
    go_ret
    exact (NmE.of_lit (lit_1 _ _ _))
  by_cases h7 : t.K = 7
  · have HN : Hid (nmI t.K (bs t.S) (bs t.Z) i = [bs t.S]) := by show _ = _; simp [nmI, h7]
    rw [HN.out]
    go_enter Try.func41, Try.ntmps41
    go_wp2_with fail
    go_ret
    exact (NmE.of_lit (lit_1 _ _ _))
  by_cases h6 : t.K = 6
  · by_cases hi1 : i = 1
    · have HN : Hid (nmI t.K (bs t.S) (bs t.Z) i = [bs t.S]) := by show _ = _; simp [nmI, h6, hi1]
      have bi : (i == 1) = true := by simp [hi1]
      clear hi1
      rw [HN.out]
      go_enter Try.func41, Try.ntmps41
      go_wp2_with fail
      go_ret
      exact (NmE.of_lit (lit_1 _ _ _))
    · have HN : Hid (nmI t.K (bs t.S) (bs t.Z) i = []) := by show _ = _; simp [nmI, h6, hi1]
      have bi : (i == 1) = false := by rw [beq_eq_false_iff_ne]; exact hi1
      clear hi1
      rw [HN.out]
      go_enter Try.func41, Try.ntmps41
      go_wp2_with fail
      go_ret
      exact (nm_0 _ _)
  by_cases h17 : t.K = 17
  · by_cases hi1 : i = 1
    · have HN : Hid (nmI t.K (bs t.S) (bs t.Z) i = [bs t.S]) := by show _ = _; simp [nmI, h17, hi1]
      have bi : (i == 1) = true := by simp [hi1]
      clear hi1
      rw [HN.out]
      go_enter Try.func41, Try.ntmps41
      go_wp2_with fail
      go_ret
      exact (NmE.of_lit (lit_1 _ _ _))
    · have HN : Hid (nmI t.K (bs t.S) (bs t.Z) i = []) := by show _ = _; simp [nmI, h17, hi1]
      have bi : (i == 1) = false := by rw [beq_eq_false_iff_ne]; exact hi1
      clear hi1
      rw [HN.out]
      go_enter Try.func41, Try.ntmps41
      go_wp2_with fail
      go_ret
      exact (nm_0 _ _)
  by_cases h14 : t.K = 14
  · by_cases hi2 : i = 2
    · have HN : Hid (nmI t.K (bs t.S) (bs t.Z) i = [bs t.S, bs t.Z]) := by show _ = _; simp [nmI, h14, hi2]
      have bi : (i == 2) = true := by simp [hi2]
      clear hi2
      rw [HN.out]
      go_enter Try.func41, Try.ntmps41
      go_wp2_with fail
      go_ret
      exact (NmE.of_lit (lit_2 _ _ _ _))
    · have HN : Hid (nmI t.K (bs t.S) (bs t.Z) i = []) := by show _ = _; simp [nmI, h14, hi2]
      have bi : (i == 2) = false := by rw [beq_eq_false_iff_ne]; exact hi2
      clear hi2
      rw [HN.out]
      go_enter Try.func41, Try.ntmps41
      go_wp2_with fail
      go_ret
      exact (nm_0 _ _)
  have HN : Hid (nmI t.K (bs t.S) (bs t.Z) i = []) := by show _ = _; simp [nmI, h4, h7, h6, h17, h14]
  have b4 : (t.K == 4) = false := by simp [h4]
  have b7 : (t.K == 7) = false := by simp [h7]
  have b6 : (t.K == 6) = false := by simp [h6]
  have b17 : (t.K == 17) = false := by simp [h17]
  have b14 : (t.K == 14) = false := by simp [h14]
  clear h4 h7 h6 h17 h14
  rw [HN.out]
  go_enter Try.func41, Try.ntmps41
  go_wp2_with fail
  go_ret
  exact (nm_0 _ _)

end Go.Proofs.Ytbdmdgghhefmcaa
