/-
  Terms as forms: the value that 'formOf' answers of a term that is right; no memory is in it but that of its types.
-/
import Derived.Test.YtgmbiabmeeemdaaDoorTn
import Derived.Test.YtgmbiabmeeemdaaDoorSn0
namespace Go.Proofs.YtgmbiabmeeemdaaDoor
open Go.RowKit
set_option linter.unusedVariables false
set_option linter.unusedSimpArgs false

/-- The form of a term, its parts' forms being ps. -/
def fval (k n : Int) (s z : ByteArray) (tk tn : Int) (v1 v2 : Value) (p0 p1 p2 : Value) : Value :=
  if k = 1 then .iface 74 (.agg #[.int .i64 n])
  else if k = 2 then .iface 75 (.agg #[.int .i64 n])
  else if k = 3 then .iface 77 (.agg #[.string s, v2])
  else if k = 4 then .iface 79 (.agg #[.string s, .int .i64 tk, .int .i64 tn, v1, p0])
  else if k = 5 then .iface 81 (.agg #[p0, p1])
  else if k = 6 then .iface 83 (.agg #[.string s, .int .i64 n, p0, p1])
  else if k = 7 then .iface 85 (.agg #[.string s, .int .i64 n, .int .i64 tk, .int .i64 tn, v1, p0, p1])
  else if k = 8 then .iface 87 (.agg #[p0, p1, p2])
  else if k = 9 then .iface 89 (.agg #[p0, p1])
  else if k = 10 then .iface 91 (.agg #[p0])
  else if k = 11 then .iface 92 (.agg #[p0])
  else if k = 12 then .iface 94 (.agg #[.int .i64 tk, .int .i64 tn, v1])
  else if k = 13 then .iface 96 (.agg #[p0, p1])
  else if k = 14 then .iface 98 (.agg #[.string s, .string z, p0, p1, p2])
  else if k = 15 then .iface 100 (.agg #[.int .i64 n, p0, p1])
  else if k = 16 then .iface 102 (.agg #[.int .i64 tk, .int .i64 tn, v1, p0])
  else .iface 104 (.agg #[.string s, p0, p1])

/-- v is the form of t. -/
def Fv (L B : Nat) (w : World) (D : Nat) : Nat → Tm → Value → Prop
  | 0, _, _ => False
  | l + 1, t, v => ∃ (a1 : Option Addr) (l1 c1 : Nat) (a2 : Option Addr) (l2 c2 : Nat) (p : Nat → Value), Hs L B w D a1 l1 t.T.A ∧ Hs L B w D a2 l2 t.Ts ∧ (∀ i (h : i < t.A.length), Fv L B w D l t.A[i] (p i)) ∧ v = fval t.K t.N t.S t.Z t.T.K t.T.N (.slice a1 l1 c1) (.slice a2 l2 c2) (p 0) (p 1) (p 2)

theorem Fv.iface {L B : Nat} {w : World} {D l : Nat} {t : Tm} {v : Value} (h : Fv L B w D l t v) : ∃ τ u, v = .iface τ u := by
  cases l with
  | zero => exact h.elim
  | succ l =>
    obtain ⟨a1, l1, c1, a2, l2, c2, p, _, _, _, hx⟩ := h
    rw [hx]
    unfold fval
    by_cases h1 : t.K = 1
    · rw [if_pos h1]; exact ⟨_, _, rfl⟩
    rw [if_neg h1]
    by_cases h2 : t.K = 2
    · rw [if_pos h2]; exact ⟨_, _, rfl⟩
    rw [if_neg h2]
    by_cases h3 : t.K = 3
    · rw [if_pos h3]; exact ⟨_, _, rfl⟩
    rw [if_neg h3]
    by_cases h4 : t.K = 4
    · rw [if_pos h4]; exact ⟨_, _, rfl⟩
    rw [if_neg h4]
    by_cases h5 : t.K = 5
    · rw [if_pos h5]; exact ⟨_, _, rfl⟩
    rw [if_neg h5]
    by_cases h6 : t.K = 6
    · rw [if_pos h6]; exact ⟨_, _, rfl⟩
    rw [if_neg h6]
    by_cases h7 : t.K = 7
    · rw [if_pos h7]; exact ⟨_, _, rfl⟩
    rw [if_neg h7]
    by_cases h8 : t.K = 8
    · rw [if_pos h8]; exact ⟨_, _, rfl⟩
    rw [if_neg h8]
    by_cases h9 : t.K = 9
    · rw [if_pos h9]; exact ⟨_, _, rfl⟩
    rw [if_neg h9]
    by_cases h10 : t.K = 10
    · rw [if_pos h10]; exact ⟨_, _, rfl⟩
    rw [if_neg h10]
    by_cases h11 : t.K = 11
    · rw [if_pos h11]; exact ⟨_, _, rfl⟩
    rw [if_neg h11]
    by_cases h12 : t.K = 12
    · rw [if_pos h12]; exact ⟨_, _, rfl⟩
    rw [if_neg h12]
    by_cases h13 : t.K = 13
    · rw [if_pos h13]; exact ⟨_, _, rfl⟩
    rw [if_neg h13]
    by_cases h14 : t.K = 14
    · rw [if_pos h14]; exact ⟨_, _, rfl⟩
    rw [if_neg h14]
    by_cases h15 : t.K = 15
    · rw [if_pos h15]; exact ⟨_, _, rfl⟩
    rw [if_neg h15]
    by_cases h16 : t.K = 16
    · rw [if_pos h16]; exact ⟨_, _, rfl⟩
    rw [if_neg h16]
    exact ⟨_, _, rfl⟩

/-- What 'formOf' answers of a term, in every world that goes on from w. -/
def SaidFo (l : Nat) : Prop := ∀ (D d L B : Nat) (t : Tm) (a1 : Option Addr) (l1 c1 : Nat) (a2 : Option Addr) (l2 c2 : Nat) (a3 : Option Addr) (l3 c3 : Nat) (m : Nat) (w : World), B ≤ w.heap.size → Fm L B w D d t a1 l1 a2 l2 a3 l3 → nodesM l t = some m →
    ∃ v, Fv L B w D l t v ∧ ∀ w', Below w.heap.size w w' → Calls Tryd.prog 20 #[.agg #[.int .i64 t.K, .int .i64 t.N, .string t.S, .string t.Z, .int .i64 t.T.K, .int .i64 t.T.N, .slice a1 l1 c1, .slice a2 l2 c2, .slice a3 l3 c3]] w' fun e w'' => e = .returned v ∧ Below w'.heap.size w' w''

theorem nodesM_inv {l : Nat} {t : Tm} {m : Nat} (h : nodesM (l + 1) t = some m) : nodeM t = true ∧ ∀ j (hj : j < t.A.length), ∃ a, nodesM l t.A[j] = some a := by
  simp only [nodesM] at h
  cases hn : nodeM t with
  | false => simp [hn] at h
  | true =>
    refine ⟨rfl, fun j hj => ?_⟩
    simp only [hn, if_true] at h
    cases hg : nodesG (nodesM l) t.A with
    | none => simp [hg] at h
    | some s =>
      cases hj' : nodesM l t.A[j] with
      | some a => exact ⟨a, rfl⟩
      | none => rw [nodesG_none (nodesM l) t.A j hj hj'] at hg; cases hg

theorem nodeM_kinds {t : Tm} (h : nodeM t = true) : 1 ≤ t.K ∧ t.K ≤ 17 ∧ (t.A.length : Int) = shP t.K := by
  simp only [nodeM, Bool.and_eq_true, decide_eq_true_eq, kOk] at h
  exact ⟨h.1.1.1.1.1.1, h.1.1.1.1.1.2, h.1.1.1.2⟩

theorem fo_zero : SaidFo 0 := by
  intro D d L B t a1 l1 c1 a2 l2 c2 a3 l3 c3 m w hB hf hm
  simp [nodesM] at hm

/-- At a place the closure 'part' answers v, wherever the term's box lies. -/
structure PartIs (w : World) (cs : Array Value) (x : Int) (v : Value) : Prop where
  call : ∀ (bx : Nat) (w' : World), Below w.heap.size w w' → w'.heap[bx]? = some (.cells cs 35 (0, 0)) → bx < w'.heap.size → Calls Tryd.prog 33 #[.int .i64 x, .pointer (some ⟨bx, 0, none⟩)] w' fun e w'' => e = .returned v ∧ Below w'.heap.size w' w''

set_option maxHeartbeats 400000 in
theorem part_any (D d L B : Nat) (t : Tm) (a1 : Option Addr) (l1 c1 : Nat) (a2 : Option Addr) (l2 c2 : Nat) (a3 : Option Addr) (l3 c3 : Nat) (l : Nat) (IH : SaidFo l) (w : World) (hB : B ≤ w.heap.size) (hf : Fm L B w D d t a1 l1 a2 l2 a3 l3) (i : Nat) (hi : i < t.A.length) (m : Nat) (hm : nodesM l t.A[i] = some m) :
    ∃ v, Fv L B w D l t.A[i] v ∧ PartIs w #[.int .i64 t.K, .int .i64 t.N, .string t.S, .string t.Z, .int .i64 t.T.K, .int .i64 t.T.N, .slice a1 l1 c1, .slice a2 l2 c2, .slice a3 l3 c3] (i : Int) v := by
  have hl3 := hf.m.len
  obtain ⟨b, o, rfl, _, hbB, e1, m1, d1, e2, m2, d2, e3, m3, d3, h9, hfi⟩ := hf.m.get i hi
  obtain ⟨v, hv, hcall⟩ := IH D (d - 1) L B t.A[i] e1 m1 d1 e2 m2 d2 e3 m3 d3 m w hB hfi hm
  refine ⟨v, hv, ⟨fun bx w' hw' hbx hlt => ?_⟩⟩
  have q9 := Nine.box hbx
  have q8 := q9.c8
  obtain ⟨e0', e1', e2', e3', e4', e5', e6', e7', e8'⟩ := h9.below hw' (by omega)
  have HC : Hid (∀ w' : World, _) := hcall
  have hil : i < l3 := by omega
  clear hcall hbx q9 h9 hfi hm hf
  go_enter Tryd.func33, Tryd.ntmps33
  go_wp2_with fail
  refine (HC.out _ hw').mono ?_
  rintro e w2 ⟨rfl, hb2⟩
  go_wp2_with fail
  go_ret
  exact ⟨rfl, hb2⟩

end Go.Proofs.YtgmbiabmeeemdaaDoor
