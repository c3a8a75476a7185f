/-
  The n-th of a row of terms, in plain words.
-/
import Derived.Test.YtgckmnchlkgakaaLmaZ8
import Derived.Test.YtgckmnchlkgakaaLmaOwM
import Derived.Test.YtgckmnchlkgakaaLmaTm
namespace Go.Proofs.Ytgckmnchlkgakaa
open Go.RowKit
set_option linter.unusedVariables false
set_option linter.unusedSimpArgs false

/-- The zero term. -/
def zTm : Tm := ⟨0, 0, ⟨#[]⟩, ⟨#[]⟩, ⟨0, 0, []⟩, [], []⟩
theorem zTm_fmO (L B : Nat) (w : World) (D d : Nat) (hLB : L ≤ B) : FmO L B w D d zTm none 0 none 0 none 0 :=
  FmO.mk (M1 := L) (M2 := L) (by show (0 : Nat) ≤ 9223372036854775807; omega) (by show (0 : Nat) ≤ 9223372036854775807; omega) (OwR.nil _ _ _ _ _) (OwR.nil _ _ _ _ _) (OwMR.nil _ _ _ _ _ _) (Nat.le_refl _) (Nat.le_refl _) hLB
theorem zTm_cnt : cntM zTm = 0 := by rw [cntM_eq]; rfl

theorem sub_le {l : List Tm} {x : Tm} (h : x ∈ l) : cntM x ≤ subMS l := by
  obtain ⟨i, hi, e⟩ := List.getElem_of_mem h
  have h1 := subMS_take l i hi
  have h2 := subMS_take_le l (i + 1)
  rw [← e]
  omega

theorem allW_cnt : ∀ (n : Nat) (t : Tm), cntM t ≤ n → ∀ r ∈ allW t, cntM r ≤ cntM t := by
  intro n
  induction n with
  | zero =>
    intro t ht r hr
    have h1 := cntM_eq t
    have h2 := cntMS_eq t.A
    have hA : t.A = [] := List.length_eq_zero_iff.1 (by omega)
    rw [allW_eq, hA] at hr
    simp at hr
    rw [hr]; omega
  | succ n ih =>
    intro t ht r hr
    rw [allW_eq, List.mem_cons] at hr
    rcases hr with rfl | hr
    · omega
    · rw [List.mem_flatten] at hr
      obtain ⟨l, hl, hrl⟩ := hr
      rw [List.mem_map] at hl
      obtain ⟨x, hx, rfl⟩ := hl
      have h1 := cntM_eq t
      have h2 := cntMS_eq t.A
      have h3 := sub_le hx
      have h4 : 0 < t.A.length := List.length_pos_of_mem hx
      have h5 := ih x (by omega) r hrl
      omega

theorem lamT_cnt {t r : Tm} (hm : r ∈ lamT t) : cntM r ≤ cntM t := by
  unfold lamT at hm
  split at hm
  · exact allW_cnt _ t (Nat.le_refl _) _ (List.mem_filter.1 hm).1
  · simp at hm

/-- The n-th of a row of terms. -/
def nthM (A : List Tm) (n : Int) : Tm × Bool := if 0 ≤ n then (match A[n.toNat]? with | some r => (r, true) | none => (zTm, false)) else (zTm, false)
theorem nthM_at {A : List Tm} {i : Nat} (h : i < A.length) : nthM A (i : Int) = (A[i], true) := by
  unfold nthM
  rw [if_pos (by omega), Int.toNat_natCast, List.getElem?_eq_getElem h]
theorem nthM_no {A : List Tm} {n : Int} (h : ¬ (0 ≤ n ∧ n < A.length)) : nthM A n = (zTm, false) := by
  unfold nthM
  by_cases h0 : 0 ≤ n
  · rw [if_pos h0, List.getElem?_eq_none (by omega)]
  · rw [if_neg h0]
/-- The n-th function of a term. -/
def latM (t : Tm) (n : Int) : Tm × Bool := nthM (lamT t) n
theorem latM_cnt (t : Tm) (n : Int) : cntM (latM t n).1 ≤ cntM t := by
  unfold latM
  by_cases h : 0 ≤ n ∧ n < (lamT t).length
  · obtain ⟨i, rfl⟩ : ∃ i : Nat, n = i := ⟨n.toNat, by omega⟩
    have hi : i < (lamT t).length := by omega
    rw [nthM_at hi]
    exact lamT_cnt (List.getElem_mem hi)
  · rw [nthM_no h, zTm_cnt]; omega

/-- What is told of a term: it lies in memory of its own. -/
def TellM (w w' : World) (D d : Nat) (e : Ending) (R : Tm) (b : Bool) : Prop :=
  ∃ b1 m1 e1 b2 m2 e2 b3 m3 e3, e = .returned (.tuple #[.agg #[.int .i64 R.K, .int .i64 R.N, .string R.S, .string R.Z, .int .i64 R.T.K, .int .i64 R.T.N, .slice b1 m1 e1, .slice b2 m2 e2, .slice b3 m3 e3], .bool b]) ∧ Below w.heap.size w w' ∧ FmO w.heap.size w'.heap.size w' D d R b1 m1 b2 m2 b3 m3

end Go.Proofs.Ytgckmnchlkgakaa

/-
  What 'toTerm', 'toTermS' (a copy in the program's own type) come to: the same tree in new memory.
-/
namespace Go.Proofs.Ytgckmnchlkgakaa
open Go.RowKit
set_option linter.unusedVariables false
set_option linter.unusedSimpArgs false

theorem Try.infoTerm : (Try.prog.info? 36).map (fun i => (i.zero, i.size, i.bytes)) = some (some (.agg #[.int .i64 0, .int .i64 0, .string ⟨#[]⟩, .string ⟨#[]⟩, .int .i64 0, .int .i64 0, .slice none 0 0, .slice none 0 0, .slice none 0 0]), 9, 136) := by kernel_rfl

end Go.Proofs.Ytgckmnchlkgakaa

/-
  Free names in the model: 'l2Has', 'l2Binds'.
-/
namespace Go.Proofs.Ytgckmnchlkgakaa
open Go.RowKit
set_option linter.unusedVariables false
set_option linter.unusedSimpArgs false

/-- From w to w' no block has changed but the one that the row owns. -/
structure Ko (vo : Value) (w : World) (vo' : Value) (w' : World) : Prop where
  os : w'.os = w.os
  tape : w'.tape = w.tape
  output : w'.output = w.output
  size : w.heap.size ≤ w'.heap.size
  block : ∀ k, k < w.heap.size → vo.ownBlock ≠ some k → w'.heap[k]? = w.heap[k]?
  own : ∀ k, vo'.ownBlock = some k → (vo.ownBlock = some k ∨ w.heap.size ≤ k)

theorem Ko.trans {vo vo' vo'' : Value} {w w' w'' : World} (h : Ko vo w vo' w') (k : Ko vo' w' vo'' w'') : Ko vo w vo'' w'' := by
  refine ⟨k.os.trans h.os, k.tape.trans h.tape, k.output.trans h.output, Nat.le_trans h.size k.size, fun i hi h1 => ?_, fun i hi => ?_⟩
  · exact (k.block i (Nat.lt_of_lt_of_le hi h.size) (fun e => by rcases h.own i e with e | e; exact h1 e; omega)).trans (h.block i hi h1)
  · rcases k.own i hi with e | e
    · exact h.own i e
    · exact Or.inr (Nat.le_trans h.size e)
theorem Ko.of_below {vo : Value} {w w' : World} (h : Below w.heap.size w w') : Ko vo w vo w' :=
  ⟨h.os, h.tape, h.output, h.size, fun k hk _ => h.block k hk, fun k hk => Or.inl hk⟩
theorem Ko.below {base : Nat} {vo vo' : Value} {w w' : World} {Fr : List (List UInt8)} (h : Ko vo w vo' w') (ht : Toks base w vo Fr) (hb : base ≤ w.heap.size) : Below base w w' :=
  ⟨h.os, h.tape, h.output, h.size, fun k hk => h.block k (by omega) (fun e => by have := (toks_own ht e).1; omega)⟩

end Go.Proofs.Ytgckmnchlkgakaa
