/-
  A region that draws its order, walked in one way where its calls make new memory alone.
-/
import Derived.Test.YtjikcckggifinaaDoorTtTr
import Derived.Deep.QuietTactic
import Derived.BigQuiet
import Derived.Test.YtjikcckggifinaaDoorTtNw
import Derived.Deep.RegionWith
import Derived.Test.YtjikcckggifinaaDoorTtZ16
import Derived.Deep.RegionHeld3
namespace Go.Proofs.YtjikcckggifinaaDoor
open Go.RowKit
set_option linter.unusedVariables false
set_option linter.unusedSimpArgs false

theorem wp_region_below {P : Program} {id : Nat} {Q : Exit → Act → World → Prop} {a : Act} {X : World} {l : List Oper} (hm : P.follows .mixedOrders = true) (hB : Region.lexB .any l.toArray = true)
    (h : wpQuiet P l.toArray (fun w' => Below X.heap.size X w') (fun a' => ∀ w', Below X.heap.size X w' → Q .normal a' w') l a) : (Code.region id l.toArray true).wp P Q a X :=
  wp_region_quiet (C := fun w' => Below X.heap.size X w') hm hB ((Below.refl _ _).drew) (by simpa using h)

end Go.Proofs.YtjikcckggifinaaDoor

/-
  What 'sameTyNode' comes to, and the two plain ways to hold one type against another: the model's 'SameTy' and the program's 'sameRightTy'.
-/
namespace Go.Proofs.YtjikcckggifinaaDoor
open Go.RowKit
set_option linter.unusedVariables false
set_option linter.unusedSimpArgs false

/-- Two nodes are alike, but for their parts. -/
def likeN (x y : Tr) : Bool := (x.K == y.K) && (x.N == y.N) && ((x.A.length : Int) == (y.A.length : Int))

set_option maxHeartbeats 1000000 in
theorem sameTyNode_any (k n k' n' : Int) (ao : Option Addr) (len cap : Nat) (ao' : Option Addr) (len' cap' : Nat) (w : World) (hl : len ≤ 9223372036854775807) (hl' : len' ≤ 9223372036854775807) :
    Calls Tryd.prog 64 #[.agg #[.int .i64 k, .int .i64 n, .slice ao len cap], .agg #[.int .i64 k', .int .i64 n', .slice ao' len' cap']] w fun e w' => e = .returned (.bool ((k == k') && (n == n') && ((len : Int) == (len' : Int)))) ∧ Below w.heap.size w w' := by
  have hbel : Below w.heap.size w ((w.alloc (.cells #[.int .i64 k, .int .i64 n, .slice ao len cap] 32)).alloc (.cells #[.int .i64 k', .int .i64 n', .slice ao' len' cap'] 32)) := ((Below.refl _ _).alloc (Nat.le_refl _) _).alloc (by simp) _
  cases h1 : (k == k')
  all_goals cases h2 : (n == n')
  all_goals cases h3 : ((len : Int) == (len' : Int))
  all_goals
    go_enter Tryd.func64, Tryd.ntmps64
    go_wp2_with fail
    go_ret
    exact ⟨rfl, hbel⟩

def likeB (l l' : List Tr) (j : Nat) : Prop := l.take j = l'.take j
theorem like_all {l l' : List Tr} {j : Nat} (h : likeB l l' j) (h1 : l.length ≤ j) (h2 : l'.length ≤ j) : l = l' := by
  unfold likeB at h; rwa [List.take_of_length_le h1, List.take_of_length_le h2] at h
theorem like_next {l l' : List Tr} {j : Nat} (h : likeB l l' j) (h1 : j < l.length) (h2 : j < l'.length) (he : l[j] = l'[j]) : likeB l l' (j + 1) := by
  unfold likeB at *
  rw [List.take_succ_eq_append_getElem h1, List.take_succ_eq_append_getElem h2, h, he]
theorem unlike_at {l l' : List Tr} {j : Nat} (h1 : j < l.length) (h2 : j < l'.length) (he : ¬ l[j] = l'[j]) : ¬ l = l' := by
  intro h; subst h; exact he rfl
theorem tr_ext {x y : Tr} (h1 : x.K = y.K) (h2 : x.N = y.N) (h3 : x.A = y.A) : x = y := by cases x; cases y; simp_all

end Go.Proofs.YtjikcckggifinaaDoor

/-
  The binders of a term, and all terms within it, in plain words; what a call leaves that changes no block but a few of its own.
-/
namespace Go.Proofs.YtjikcckggifinaaDoor
open Go.RowKit
set_option linter.unusedVariables false
set_option linter.unusedSimpArgs false

/-- All terms within a term, itself first, from the front. -/
def allW : Tm → List Tm
  | ⟨k, n, s, z, t, ts, a⟩ => ⟨k, n, s, z, t, ts, a⟩ :: (a.attach.map fun ⟨x, _⟩ => allW x).flatten
theorem allW_eq (t : Tm) : allW t = t :: (t.A.map allW).flatten := by
  cases t; rw [allW]; simp

theorem allW_lenG {f : Tm → Option Nat} (hf : ∀ t m, f t = some m → (allW t).length = m) : ∀ (ts : List Tm) (m : Nat), nodesG f ts = some m → ((ts.map allW).flatten).length = m := by
  intro ts
  induction ts with
  | nil => intro m h; simp [nodesG] at h; simp [h]
  | cons t ts ih =>
    intro m h
    simp only [nodesG] at h
    cases ht : f t with
    | none => simp [ht] at h
    | some a =>
      cases hz : nodesG f ts with
      | none => simp [ht, hz] at h
      | some b =>
        simp [ht, hz] at h
        have h1 := hf t a ht
        have h2 := ih b hz
        simp only [List.map_cons, List.flatten_cons, List.length_append]
        omega

theorem allW_len : ∀ (l : Nat) (t : Tm) (m : Nat), nodesM l t = some m → (allW t).length = m := by
  intro l
  induction l with
  | zero => intro t m h; simp [nodesM] at h
  | succ l ih =>
    intro t m h
    have hn := (nodesM_inv h).1
    simp only [nodesM, hn, if_true] at h
    cases hz : nodesG (nodesM l) t.A with
    | none => simp [hz] at h
    | some b =>
      simp [hz] at h
      have h1 := allW_lenG ih t.A b hz
      rw [allW_eq, List.length_cons, h1]
      omega

/-- Those of the parts ahead of the j-th. -/
def preW (t : Tm) (j : Nat) : List Tm := ((t.A.take j).map allW).flatten
theorem preW_zero (t : Tm) : preW t 0 = [] := rfl
theorem preW_succ (t : Tm) (j : Nat) (hj : j < t.A.length) : preW t (j + 1) = preW t j ++ allW t.A[j] := by
  unfold preW
  rw [List.take_succ_eq_append_getElem hj, List.map_append, List.flatten_append]
  simp only [List.map_cons, List.map_nil, List.flatten_cons, List.flatten_nil, List.append_nil]
theorem preW_all (t : Tm) (j : Nat) (hj : t.A.length ≤ j) : allW t = t :: preW t j := by
  unfold preW
  rw [List.take_of_length_le hj, allW_eq]
theorem preW_len {l : Nat} {t : Tm} {m : Nat} (h : nodesM (l + 1) t = some m) (j : Nat) (hj : j < t.A.length) {a : Nat} (ha : nodesM l t.A[j] = some a) : (preW t j).length + 1 + a ≤ m := by
  have h1 := allW_len _ t m h
  have h2 := allW_len _ _ a ha
  have h3 := preW_all t t.A.length (Nat.le_refl _)
  have h4 := congrArg List.length h3
  have h5 : (preW t (j + 1)).length ≤ (preW t t.A.length).length := by
    unfold preW
    have e : t.A.take t.A.length = t.A.take (j + 1) ++ (t.A.drop (j + 1)) := by rw [List.take_length, List.take_append_drop]
    rw [e, List.map_append, List.flatten_append, List.length_append]
    omega
  have h6 := congrArg List.length (preW_succ t j hj)
  rw [List.length_append] at h6
  rw [List.length_cons] at h4
  omega

/-- From w to w' no block has changed but those of F; those of F' are of F, or new. -/
structure Kf (F : Nat → Prop) (w : World) (F' : Nat → Prop) (w' : World) : Prop where
  os : w'.os = w.os
  tape : w'.tape = w.tape
  output : w'.output = w.output
  size : w.heap.size ≤ w'.heap.size
  block : ∀ k, k < w.heap.size → ¬ F k → w'.heap[k]? = w.heap[k]?
  own : ∀ k, F' k → F k ∨ w.heap.size ≤ k

theorem Kf.trans {F F' F'' : Nat → Prop} {w w' w'' : World} (h : Kf F w F' w') (k : Kf F' w' F'' w'') : Kf F w F'' w'' := by
  refine ⟨k.os.trans h.os, k.tape.trans h.tape, k.output.trans h.output, Nat.le_trans h.size k.size, fun i hi h1 => ?_, fun i hi => ?_⟩
  · exact (k.block i (Nat.lt_of_lt_of_le hi h.size) (fun e => by rcases h.own i e with e | e; exact h1 e; omega)).trans (h.block i hi h1)
  · rcases k.own i hi with e | e
    · exact h.own i e
    · exact Or.inr (Nat.le_trans h.size e)
theorem Kf.of_below {F : Nat → Prop} {w w' : World} (h : Below w.heap.size w w') : Kf F w F w' :=
  ⟨h.os, h.tape, h.output, h.size, fun k hk _ => h.block k hk, fun k hk => Or.inl hk⟩
theorem Kf.below {base : Nat} {F F' : Nat → Prop} {w w' : World} (h : Kf F w F' w') (hF : ∀ k, F k → base ≤ k) (hb : base ≤ w.heap.size) : Below base w w' :=
  ⟨h.os, h.tape, h.output, h.size, fun k hk => h.block k (by omega) (fun e => by have := hF k e; omega)⟩

theorem cell_1 {w : World} {b : Nat} {a0 : Value} {t : TypeId} {fr : Nat × Nat} (h : w.heap[b]? = some (.cells #[a0] t fr)) : w.cell? ⟨b, 0, none⟩ = some a0 := row_cell h 0

end Go.Proofs.YtjikcckggifinaaDoor

/-
  Terms as forms: the value that 'formOf' answers of a term that is right; no memory is in it but that of its types.
-/
namespace Go.Proofs.YtjikcckggifinaaDoor
open Go.RowKit
set_option linter.unusedVariables false
set_option linter.unusedSimpArgs false

/-- The form of a term, its parts' forms being ps. -/
def fval (nd k n : Int) (s z : ByteArray) (tk tn : Int) (v1 v2 : Value) (p0 p1 p2 : Value) : Value :=
  if k = 1 then .iface 76 (.agg #[.int .i64 n])
  else if k = 2 then .iface 77 (.agg #[.int .i64 n])
  else if k = 3 then .iface 79 (.agg #[.string s, v2])
  else if k = 4 then .iface 82 (.agg #[.int .i64 nd, .string s, .int .i64 tk, .int .i64 tn, v1, p0])
  else if k = 5 then .iface 84 (.agg #[.int .i64 nd, p0, p1])
  else if k = 6 then .iface 86 (.agg #[.string s, .int .i64 n, p0, p1])
  else if k = 7 then .iface 88 (.agg #[.string s, .int .i64 n, .int .i64 tk, .int .i64 tn, v1, p0, p1])
  else if k = 8 then .iface 90 (.agg #[p0, p1, p2])
  else if k = 9 then .iface 92 (.agg #[p0, p1])
  else if k = 10 then .iface 94 (.agg #[p0])
  else if k = 11 then .iface 95 (.agg #[p0])
  else if k = 12 then .iface 97 (.agg #[.int .i64 tk, .int .i64 tn, v1])
  else if k = 13 then .iface 99 (.agg #[p0, p1])
  else if k = 14 then .iface 101 (.agg #[.string s, .string z, p0, p1, p2])
  else if k = 15 then .iface 103 (.agg #[.int .i64 n, p0, p1])
  else if k = 16 then .iface 105 (.agg #[.int .i64 tk, .int .i64 tn, v1, p0])
  else .iface 107 (.agg #[.string s, p0, p1])

/-- v is the form of t. -/
def Fv (L B : Nat) (w : World) (D : Nat) : Nat → Tm → Value → Prop
  | 0, _, _ => False
  | l + 1, t, v => ∃ (nd : Int) (a1 : Option Addr) (l1 c1 : Nat) (a2 : Option Addr) (l2 c2 : Nat) (p : Nat → Value), Hs L B w D a1 l1 t.T.A ∧ Hs L B w D a2 l2 t.Ts ∧ (∀ i (h : i < t.A.length), Fv L B w D l t.A[i] (p i)) ∧ v = fval nd t.K t.N t.S t.Z t.T.K t.T.N (.slice a1 l1 c1) (.slice a2 l2 c2) (p 0) (p 1) (p 2)

theorem Fv.iface {L B : Nat} {w : World} {D l : Nat} {t : Tm} {v : Value} (h : Fv L B w D l t v) : ∃ τ u, v = .iface τ u := by
  cases l with
  | zero => exact h.elim
  | succ l =>
    obtain ⟨nd, a1, l1, c1, a2, l2, c2, p, _, _, _, hx⟩ := h
    rw [hx]
    unfold fval
    by_cases h1 : t.K = 1
    · rw [if_pos h1]; exact ⟨_, _, rfl⟩
    rw [if_neg h1]
    by_cases h2 : t.K = 2
    · rw [if_pos h2]; exact ⟨_, _, rfl⟩
    rw [if_neg h2]
    by_cases h3 : t.K = 3
    · rw [if_pos h3]; exact ⟨_, _, rfl⟩
    rw [if_neg h3]
    by_cases h4 : t.K = 4
    · rw [if_pos h4]; exact ⟨_, _, rfl⟩
    rw [if_neg h4]
    by_cases h5 : t.K = 5
    · rw [if_pos h5]; exact ⟨_, _, rfl⟩
    rw [if_neg h5]
    by_cases h6 : t.K = 6
    · rw [if_pos h6]; exact ⟨_, _, rfl⟩
    rw [if_neg h6]
    by_cases h7 : t.K = 7
    · rw [if_pos h7]; exact ⟨_, _, rfl⟩
    rw [if_neg h7]
    by_cases h8 : t.K = 8
    · rw [if_pos h8]; exact ⟨_, _, rfl⟩
    rw [if_neg h8]
    by_cases h9 : t.K = 9
    · rw [if_pos h9]; exact ⟨_, _, rfl⟩
    rw [if_neg h9]
    by_cases h10 : t.K = 10
    · rw [if_pos h10]; exact ⟨_, _, rfl⟩
    rw [if_neg h10]
    by_cases h11 : t.K = 11
    · rw [if_pos h11]; exact ⟨_, _, rfl⟩
    rw [if_neg h11]
    by_cases h12 : t.K = 12
    · rw [if_pos h12]; exact ⟨_, _, rfl⟩
    rw [if_neg h12]
    by_cases h13 : t.K = 13
    · rw [if_pos h13]; exact ⟨_, _, rfl⟩
    rw [if_neg h13]
    by_cases h14 : t.K = 14
    · rw [if_pos h14]; exact ⟨_, _, rfl⟩
    rw [if_neg h14]
    by_cases h15 : t.K = 15
    · rw [if_pos h15]; exact ⟨_, _, rfl⟩
    rw [if_neg h15]
    by_cases h16 : t.K = 16
    · rw [if_pos h16]; exact ⟨_, _, rfl⟩
    rw [if_neg h16]
    exact ⟨_, _, rfl⟩

/-- From w to w' nothing has changed but what lies at p, and there is c. -/
structure Nx (p : Nat) (w w' : World) (c : Int) : Prop where
  kf : Kf (fun k => k = p) w (fun k => k = p) w'
  is : w'.heap[p]? = some (.cells #[.int .i64 c] 3 (0, 0))

theorem Nx.trans {p : Nat} {w w' w'' : World} {c c' : Int} (h : Nx p w w' c) (k : Nx p w' w'' c') : Nx p w w'' c' := ⟨h.kf.trans k.kf, k.is⟩
theorem Nx.lt {p : Nat} {w w' : World} {c : Int} (h : Nx p w w' c) : p < w'.heap.size := (Array.getElem?_eq_some_iff.1 h.is).1
theorem Nx.fm {p : Nat} {w w' : World} {c : Int} {L B D d : Nat} {t : Tm} {a1 a2 a3 : Option Addr} {l1 l2 l3 : Nat} (h : Nx p w w' c) (hB : B ≤ p) (hw : B ≤ w.heap.size) (hf : Fm L B w D d t a1 l1 a2 l2 a3 l3) : Fm L B w' D d t a1 l1 a2 l2 a3 l3 :=
  Fm.keep (fun k _ hk => h.kf.block k (by omega) (by omega)) (Nat.le_refl _) (Nat.le_refl _) hf

theorem Nx.drew {p : Nat} {w w' : World} {c : Int} (h : Nx p w w' c) : Nx p w w'.drew c := ⟨h.kf.trans (Kf.of_below ((Below.refl _ w').drew)), h.is⟩
theorem Nx.undrew {p : Nat} {w w' : World} {c : Int} (h : Nx p w.drew w' c) : Nx p w w' c := ⟨(Kf.of_below ((Below.refl _ w).drew)).trans h.kf, h.is⟩

end Go.Proofs.YtjikcckggifinaaDoor
