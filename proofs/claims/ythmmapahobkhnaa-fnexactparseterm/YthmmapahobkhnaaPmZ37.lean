/-
  The binders of a term, and all terms within it, in plain words; what a call leaves that changes no block but a few of its own.
-/
import Derived.Test.YthmmapahobkhnaaPmZ7
import Derived.Test.YthmmapahobkhnaaPmZ20
import Derived.Test.YthmmapahobkhnaaPmZ36
namespace Go.Proofs.Ythmmapahobkhnaa
open Go.RowKit
set_option linter.unusedVariables false
set_option linter.unusedSimpArgs false

/-- All terms within a term, itself first, from the front. -/
def allW : Tm → List Tm
  | ⟨k, n, s, z, t, ts, a⟩ => ⟨k, n, s, z, t, ts, a⟩ :: (a.attach.map fun ⟨x, _⟩ => allW x).flatten
theorem allW_eq (t : Tm) : allW t = t :: (t.A.map allW).flatten := by
  cases t; rw [allW]; simp

theorem allW_lenG {f : Tm → Option Nat} (hf : ∀ t m, f t = some m → (allW t).length = m) : ∀ (ts : List Tm) (m : Nat), nodesG f ts = some m → ((ts.map allW).flatten).length = m := by
  intro ts
  induction ts with
  | nil => intro m h; simp [nodesG] at h; simp [h]
  | cons t ts ih =>
    intro m h
    simp only [nodesG] at h
    cases ht : f t with
    | none => simp [ht] at h
    | some a =>
      cases hz : nodesG f ts with
      | none => simp [ht, hz] at h
      | some b =>
        simp [ht, hz] at h
        have h1 := hf t a ht
        have h2 := ih b hz
        simp only [List.map_cons, List.flatten_cons, List.length_append]
        omega

theorem allW_len : ∀ (l : Nat) (t : Tm) (m : Nat), nodesM l t = some m → (allW t).length = m := by
  intro l
  induction l with
  | zero => intro t m h; simp [nodesM] at h
  | succ l ih =>
    intro t m h
    have hn := (nodesM_inv h).1
    simp only [nodesM, hn, if_true] at h
    cases hz : nodesG (nodesM l) t.A with
    | none => simp [hz] at h
    | some b =>
      simp [hz] at h
      have h1 := allW_lenG ih t.A b hz
      rw [allW_eq, List.length_cons, h1]
      omega

/-- Those of the parts ahead of the j-th. -/
def preW (t : Tm) (j : Nat) : List Tm := ((t.A.take j).map allW).flatten
theorem preW_zero (t : Tm) : preW t 0 = [] := rfl
theorem preW_succ (t : Tm) (j : Nat) (hj : j < t.A.length) : preW t (j + 1) = preW t j ++ allW t.A[j] := by
  unfold preW
  rw [List.take_succ_eq_append_getElem hj, List.map_append, List.flatten_append]
  simp only [List.map_cons, List.map_nil, List.flatten_cons, List.flatten_nil, List.append_nil]
theorem preW_all (t : Tm) (j : Nat) (hj : t.A.length ≤ j) : allW t = t :: preW t j := by
  unfold preW
  rw [List.take_of_length_le hj, allW_eq]
theorem preW_len {l : Nat} {t : Tm} {m : Nat} (h : nodesM (l + 1) t = some m) (j : Nat) (hj : j < t.A.length) {a : Nat} (ha : nodesM l t.A[j] = some a) : (preW t j).length + 1 + a ≤ m := by
  have h1 := allW_len _ t m h
  have h2 := allW_len _ _ a ha
  have h3 := preW_all t t.A.length (Nat.le_refl _)
  have h4 := congrArg List.length h3
  have h5 : (preW t (j + 1)).length ≤ (preW t t.A.length).length := by
    unfold preW
    have e : t.A.take t.A.length = t.A.take (j + 1) ++ (t.A.drop (j + 1)) := by rw [List.take_length, List.take_append_drop]
    rw [e, List.map_append, List.flatten_append, List.length_append]
    omega
  have h6 := congrArg List.length (preW_succ t j hj)
  rw [List.length_append] at h6
  rw [List.length_cons] at h4
  omega

/-- From w to w' no block has changed but those of F; those of F' are of F, or new. -/
structure Kf (F : Nat → Prop) (w : World) (F' : Nat → Prop) (w' : World) : Prop where
  os : w'.os = w.os
  tape : w'.tape = w.tape
  output : w'.output = w.output
  size : w.heap.size ≤ w'.heap.size
  block : ∀ k, k < w.heap.size → ¬ F k → w'.heap[k]? = w.heap[k]?
  own : ∀ k, F' k → F k ∨ w.heap.size ≤ k

theorem Kf.trans {F F' F'' : Nat → Prop} {w w' w'' : World} (h : Kf F w F' w') (k : Kf F' w' F'' w'') : Kf F w F'' w'' := by
  refine ⟨k.os.trans h.os, k.tape.trans h.tape, k.output.trans h.output, Nat.le_trans h.size k.size, fun i hi h1 => ?_, fun i hi => ?_⟩
  · exact (k.block i (Nat.lt_of_lt_of_le hi h.size) (fun e => by rcases h.own i e with e | e; exact h1 e; omega)).trans (h.block i hi h1)
  · rcases k.own i hi with e | e
    · exact h.own i e
    · exact Or.inr (Nat.le_trans h.size e)
theorem Kf.of_below {F : Nat → Prop} {w w' : World} (h : Below w.heap.size w w') : Kf F w F w' :=
  ⟨h.os, h.tape, h.output, h.size, fun k hk _ => h.block k hk, fun k hk => Or.inl hk⟩
theorem Kf.below {base : Nat} {F F' : Nat → Prop} {w w' : World} (h : Kf F w F' w') (hF : ∀ k, F k → base ≤ k) (hb : base ≤ w.heap.size) : Below base w w' :=
  ⟨h.os, h.tape, h.output, h.size, fun k hk => h.block k (by omega) (fun e => by have := hF k e; omega)⟩

theorem cell_1 {w : World} {b : Nat} {a0 : Value} {t : TypeId} {fr : Nat × Nat} (h : w.heap[b]? = some (.cells #[a0] t fr)) : w.cell? ⟨b, 0, none⟩ = some a0 := row_cell h 0

end Go.Proofs.Ythmmapahobkhnaa

/-
  The binders of a term, and all terms within it, in plain words; what a call leaves that changes no block but a few of its own.
-/
namespace Go.Proofs.Ythmmapahobkhnaa
open Go.RowKit
set_option linter.unusedVariables false
set_option linter.unusedSimpArgs false

/-- The names that a term binds itself. -/
def ownB (t : Tm) : List (List UInt8) := if t.K = 4 ∨ t.K = 6 ∨ t.K = 7 ∨ t.K = 17 then [bs t.S] else if t.K = 14 then [bs t.S, bs t.Z] else []

/-- The names of all binders, from the front. -/
def bndW (t : Tm) : List (List UInt8) := ((allW t).map ownB).flatten
def bndT (t : Tm) : List (List UInt8) := if okM t = true then bndW t else []

theorem ownB_len (t : Tm) : (ownB t).length ≤ 2 := by
  unfold ownB
  split
  · simp
  · split <;> simp

theorem binds_len : ∀ (l : List Tm), ((l.map ownB).flatten).length ≤ 2 * l.length := by
  intro l
  induction l with
  | nil => simp
  | cons t l ih =>
    have := ownB_len t
    simp only [List.map_cons, List.flatten_cons, List.length_append, List.length_cons]
    omega

theorem bndT_len (t : Tm) : (bndT t).length ≤ 300 := by
  unfold bndT
  split
  · rename_i h
    obtain ⟨m, hm, h6⟩ := okM_some h
    have h1 := allW_len 24 t m hm
    have h2 := binds_len (allW t)
    unfold bndW
    omega
  · simp

end Go.Proofs.Ythmmapahobkhnaa

/-
  The functions of a term, in plain words.
-/
namespace Go.Proofs.Ythmmapahobkhnaa
open Go.RowKit
set_option linter.unusedVariables false
set_option linter.unusedSimpArgs false

def isFn (t : Tm) : Bool := t.K == 4
/-- The functions of a term, from the front. -/
def lamT (t : Tm) : List Tm := if okM t = true then (allW t).filter isFn else []
theorem lamT_len (t : Tm) : (lamT t).length ≤ 150 := by
  unfold lamT
  split
  · rename_i h
    obtain ⟨m, hm, h6⟩ := okM_some h
    have h1 := allW_len 24 t m hm
    have h2 := List.length_filter_le isFn (allW t)
    omega
  · simp

theorem Fm.deeperM {L B : Nat} {w : World} {D d d' : Nat} {t : Tm} {a1 a2 a3 : Option Addr} {l1 l2 l3 : Nat} (hd : d ≤ d') (h : Fm L B w D d t a1 l1 a2 l2 a3 l3) : Fm L B w D d' t a1 l1 a2 l2 a3 l3 :=
  h.wider (fun _ _ _ hr => hr) (fun _ _ _ hr => hr.deeper hd (Nat.le_refl _))

end Go.Proofs.Ythmmapahobkhnaa

/-
  The n-th of a row of terms, in plain words.
-/
namespace Go.Proofs.Ythmmapahobkhnaa
open Go.RowKit
set_option linter.unusedVariables false
set_option linter.unusedSimpArgs false

/-- The zero term. -/
def zTm : Tm := ⟨0, 0, ⟨#[]⟩, ⟨#[]⟩, ⟨0, 0, []⟩, [], []⟩
theorem zTm_fmO (L B : Nat) (w : World) (D d : Nat) (hLB : L ≤ B) : FmO L B w D d zTm none 0 none 0 none 0 :=
  FmO.mk (M1 := L) (M2 := L) (by show (0 : Nat) ≤ 9223372036854775807; omega) (by show (0 : Nat) ≤ 9223372036854775807; omega) (OwR.nil _ _ _ _ _) (OwR.nil _ _ _ _ _) (OwMR.nil _ _ _ _ _ _) (Nat.le_refl _) (Nat.le_refl _) hLB
theorem zTm_cnt : cntM zTm = 0 := by rw [cntM_eq]; rfl

theorem sub_le {l : List Tm} {x : Tm} (h : x ∈ l) : cntM x ≤ subMS l := by
  obtain ⟨i, hi, e⟩ := List.getElem_of_mem h
  have h1 := subMS_take l i hi
  have h2 := subMS_take_le l (i + 1)
  rw [← e]
  omega

theorem allW_cnt : ∀ (n : Nat) (t : Tm), cntM t ≤ n → ∀ r ∈ allW t, cntM r ≤ cntM t := by
  intro n
  induction n with
  | zero =>
    intro t ht r hr
    have h1 := cntM_eq t
    have h2 := cntMS_eq t.A
    have hA : t.A = [] := List.length_eq_zero_iff.1 (by omega)
    rw [allW_eq, hA] at hr
    simp at hr
    rw [hr]; omega
  | succ n ih =>
    intro t ht r hr
    rw [allW_eq, List.mem_cons] at hr
    rcases hr with rfl | hr
    · omega
    · rw [List.mem_flatten] at hr
      obtain ⟨l, hl, hrl⟩ := hr
      rw [List.mem_map] at hl
      obtain ⟨x, hx, rfl⟩ := hl
      have h1 := cntM_eq t
      have h2 := cntMS_eq t.A
      have h3 := sub_le hx
      have h4 : 0 < t.A.length := List.length_pos_of_mem hx
      have h5 := ih x (by omega) r hrl
      omega

theorem lamT_cnt {t r : Tm} (hm : r ∈ lamT t) : cntM r ≤ cntM t := by
  unfold lamT at hm
  split at hm
  · exact allW_cnt _ t (Nat.le_refl _) _ (List.mem_filter.1 hm).1
  · simp at hm

/-- The n-th of a row of terms. -/
def nthM (A : List Tm) (n : Int) : Tm × Bool := if 0 ≤ n then (match A[n.toNat]? with | some r => (r, true) | none => (zTm, false)) else (zTm, false)
theorem nthM_at {A : List Tm} {i : Nat} (h : i < A.length) : nthM A (i : Int) = (A[i], true) := by
  unfold nthM
  rw [if_pos (by omega), Int.toNat_natCast, List.getElem?_eq_getElem h]
theorem nthM_no {A : List Tm} {n : Int} (h : ¬ (0 ≤ n ∧ n < A.length)) : nthM A n = (zTm, false) := by
  unfold nthM
  by_cases h0 : 0 ≤ n
  · rw [if_pos h0, List.getElem?_eq_none (by omega)]
  · rw [if_neg h0]
/-- The n-th function of a term. -/
def latM (t : Tm) (n : Int) : Tm × Bool := nthM (lamT t) n
theorem latM_cnt (t : Tm) (n : Int) : cntM (latM t n).1 ≤ cntM t := by
  unfold latM
  by_cases h : 0 ≤ n ∧ n < (lamT t).length
  · obtain ⟨i, rfl⟩ : ∃ i : Nat, n = i := ⟨n.toNat, by omega⟩
    have hi : i < (lamT t).length := by omega
    rw [nthM_at hi]
    exact lamT_cnt (List.getElem_mem hi)
  · rw [nthM_no h, zTm_cnt]; omega

/-- What is told of a term: it lies in memory of its own. -/
def TellM (w w' : World) (D d : Nat) (e : Ending) (R : Tm) (b : Bool) : Prop :=
  ∃ b1 m1 e1 b2 m2 e2 b3 m3 e3, e = .returned (.tuple #[.agg #[.int .i64 R.K, .int .i64 R.N, .string R.S, .string R.Z, .int .i64 R.T.K, .int .i64 R.T.N, .slice b1 m1 e1, .slice b2 m2 e2, .slice b3 m3 e3], .bool b]) ∧ Below w.heap.size w w' ∧ FmO w.heap.size w'.heap.size w' D d R b1 m1 b2 m2 b3 m3

end Go.Proofs.Ythmmapahobkhnaa

/-
  What the program's 'ParseTerm' comes to.
-/
namespace Go.Proofs.Ythmmapahobkhnaa
open Go.RowKit Go.PlainAid
set_option linter.unusedVariables false
set_option linter.unusedSimpArgs false

theorem below_gr {w W w' : World} {p : Nat} (h : Below w.heap.size w W) (hg : W.grownBy w' (some p)) (hp : w.heap.size ≤ p) (hz : w.heap.size ≤ W.heap.size) : Below w.heap.size w w' :=
  ⟨hg.os.trans h.os, hg.tape.trans h.tape, hg.output.trans h.output, Nat.le_trans h.size hg.size, fun k hk => (hg.block k (by omega) (by simp; omega)).trans (h.block k hk)⟩

set_option maxRecDepth 100000 in
set_option maxHeartbeats 4000000 in
theorem parseTerm_any (s : ByteArray) (w : World) (hl : s.size ≤ 1048576) :
    Calls Try.prog 5 #[.string s] w fun e w' => TellM w w' 7 24 e ((parM (spl (sb s))).getD zTm) (parM (spl (sb s))).isSome := by
  obtain ⟨X, hX⟩ : ∃ X, X = w.alloc (.cells #[.int .i64 0, .int .i64 0, .string ⟨#[]⟩, .string ⟨#[]⟩, .int .i64 0, .int .i64 0, .slice none 0 0, .slice none 0 0, .slice none 0 0] 27) := ⟨_, rfl⟩
  have hXb : Below w.heap.size w X := by rw [hX]; exact (Below.refl _ _).alloc (Nat.le_refl _) _
  have hXs : X.heap.size = w.heap.size + 1 := by rw [hX]; simp
  have hXr : X.heap[w.heap.size]? = some (.cells #[.int .i64 0, .int .i64 0, .string ⟨#[]⟩, .string ⟨#[]⟩, .int .i64 0, .int .i64 0, .slice none 0 0, .slice none 0 0, .slice none 0 0] 27 (0, 0)) := by rw [hX]; exact heap_new rfl
  have HX : Hid (X = _) := hX
  clear hX
  have hsl : (sb s).length = s.size := sb_len s
  have htl : (spl (sb s)).length ≤ 1048577 := by have := spl_len (sb s); omega
  have HEA : Hid (∀ x ∈ spl (sb s), x.length ≤ 1048577) := fun x hx => by have := spl_each (sb s) x hx; omega
  obtain ⟨T, hT⟩ : ∃ T, T = spl (sb s) := ⟨_, rfl⟩
  have HSP : Hid (∀ w, Calls Try.prog 13 #[.string s, .int .i64 18450] w fun e w' => ∃ v : Value, e = .returned (.tuple #[v, .bool (goodT 18450 T)]) ∧ Below w.heap.size w w' ∧ (goodT 18450 T = true → Toks w.heap.size w' v T)) := fun w => by
    have := splitTokens_any s 18450 w hl (by omega)
    rw [hT]
    exact this
  rw [← hT] at htl HEA ⊢
  clear hT hsl
  go_enter Try.func5, Try.ntmps5
  go_wp2_with fail
  rw [← HX.out]
  refine (HSP.out _).mono ?_
  rintro e w1 ⟨v, rfl, hb1, hT1⟩
  have hz1 := hb1.size
  have hr1 := (hb1.block w.heap.size (by omega)).trans hXr
  have hbw1 : Below w.heap.size w w1 := hXb.trans (hb1.mono (by omega))
  have ZF : Hid (∀ (W : World) (e : Ending), Below w.heap.size w W → parM T = none → e = .returned (.tuple #[.agg #[.int .i64 0, .int .i64 0, .string ⟨#[]⟩, .string ⟨#[]⟩, .int .i64 0, .int .i64 0, .slice none 0 0, .slice none 0 0, .slice none 0 0], .bool false]) → TellM w W 7 24 e ((parM T).getD zTm) (parM T).isSome) := fun W e hW hn he => by
    rw [hn]
    exact ⟨none, 0, 0, none, 0, 0, none, 0, 0, he, hW, zTm_fmO _ _ _ _ _ hW.size⟩
  cases hg : goodT 18450 T with
  | false =>
    have HN : Hid (parM T = none) := parM_bad hg
    obtain ⟨r0, r1, r2, r3, r4, r5, r6, r7, r8⟩ := Nine.box hr1
    have rf := row_free hr1
    have HF : Hid (Below w.heap.size w (set9 w1 w.heap.size 0 (.int .i64 0) (.int .i64 0) (.string ⟨#[]⟩) (.string ⟨#[]⟩) (.int .i64 0) (.int .i64 0) (.slice none 0 0) (.slice none 0 0) (.slice none 0 0))) := set9_below hbw1 (Nat.le_refl _)
    clear hg hT1
    go_wp2_with fail
    refine bodyPost_ret (v := .tuple #[.agg #[.int .i64 0, .int .i64 0, .string ⟨#[]⟩, .string ⟨#[]⟩, .int .i64 0, .int .i64 0, .slice none 0 0, .slice none 0 0, .slice none 0 0], .bool false]) (by simp [results, Try.results5, go_sem, r0, r1, r2, r3, r4, r5, r6, r7, r8]) rfl ?_
    exact ZF.out _ _ HF.out HN.out rfl
  | true =>
    obtain ⟨ao, cap, rfl, hS⟩ := toks_stx (hT1 hg)
    obtain ⟨W1, hW1⟩ : ∃ W1, W1 = w1.alloc (.cells #[.slice ao T.length cap, .int .i64 0, .bool false] 44) := ⟨_, rfl⟩
    have hA : Below w1.heap.size w1 W1 := by rw [hW1]; exact (Below.refl _ _).alloc (Nat.le_refl _) _
    have hzW1 : W1.heap.size = w1.heap.size + 1 := by rw [hW1]; simp
    have hR : Rdm _ w1.heap.size W1 w1.heap.size ao T.length cap 0 false T := ⟨by rw [hW1]; exact heap_new rfl, hS.below hA (Nat.le_refl _), Nat.zero_le _, htl, Nat.le_refl _⟩
    have hbW1 : Below w.heap.size w W1 := hbw1.trans (hA.mono (by omega))
    have hrW1 := (hA.block w.heap.size (by omega)).trans hr1
    have HW1 : Hid (W1 = _) := hW1
    have KT := term_any 24 (by omega) w1.heap.size ao T.length cap 0 _ w1.heap.size false T W1 HEA.out hR
    clear hg hT1 hW1
    go_upto_region 5 with fail
    rw [← HW1.out]
    go_wp2_with fail
    refine KT.mono ?_
    rintro e w2 ⟨t, t1, m1, d1, t2, m2, d2, t3, m3, d3, a2, b2, rfl, hg2, hR2, hO2, ho2⟩
    have hz2 := hg2.size
    have hbw2 : Below w.heap.size w w2 := below_gr hbW1 hg2 (by omega) (by omega)
    have hr2 := (hg2.block w.heap.size (by omega) (by simp; omega)).trans hrW1
    obtain ⟨W2, hW2⟩ : ∃ W2, W2 = w2.alloc (.cells #[.int .i64 t.K, .int .i64 t.N, .string t.S, .string t.Z, .int .i64 t.T.K, .int .i64 t.T.N, .slice t1 m1 d1, .slice t2 m2 d2, .slice t3 m3 d3] 27) := ⟨_, rfl⟩
    have hA2 : Below w2.heap.size w2 W2 := by rw [hW2]; exact (Below.refl _ _).alloc (Nat.le_refl _) _
    have hzW2 : W2.heap.size = w2.heap.size + 1 := by rw [hW2]; simp
    have hbx : W2.heap[w2.heap.size]? = some (.cells #[.int .i64 t.K, .int .i64 t.N, .string t.S, .string t.Z, .int .i64 t.T.K, .int .i64 t.T.N, .slice t1 m1 d1, .slice t2 m2 d2, .slice t3 m3 d3] 27 (0, 0)) := by rw [hW2]; exact heap_new rfl
    have hbW2 : Below w.heap.size w W2 := hbw2.trans (hA2.mono (by omega))
    have hrW2 := (hA2.block w.heap.size (by omega)).trans hr2
    have hRW2 := hR2.below hA2
    have hoW2 := ho2.below hA2 (Nat.le_refl _)
    have HW2 : Hid (W2 = _) := hW2
    have HO := hO2.2 rfl
    rw [List.drop_zero] at HO
    obtain ⟨q0, q1, q2⟩ := box_cells hRW2.row
    clear hW2 hO2
    have ZB : Hid (parM T = none → TellM w (set9 W2 w.heap.size 0 (.int .i64 0) (.int .i64 0) (.string ⟨#[]⟩) (.string ⟨#[]⟩) (.int .i64 0) (.int .i64 0) (.slice none 0 0) (.slice none 0 0) (.slice none 0 0)) 7 24 (.returned (.tuple #[.agg #[.int .i64 0, .int .i64 0, .string ⟨#[]⟩, .string ⟨#[]⟩, .int .i64 0, .int .i64 0, .slice none 0 0, .slice none 0 0, .slice none 0 0], .bool false])) ((parM T).getD zTm) (parM T).isSome) := fun hn => ZF.out _ _ (set9_below hbW2 (Nat.le_refl _)) hn rfl
    obtain ⟨r0, r1, r2, r3, r4, r5, r6, r7, r8⟩ := Nine.box hrW2
    have rf := row_free hrW2
    obtain ⟨e0, e1, e2, e3, e4, e5, e6, e7, e8⟩ := Nine.box hbx
    cases hp : termR 24 T with
    | none =>
      rw [hp] at HO
      subst HO
      have HN : Hid (parM T = none) := by show _ = _; unfold parM; rw [hp]
      clear hp
      go_upto_region 6 with fail
      rw [← HW2.out]
      go_wp2_with fail
      refine bodyPost_ret (v := .tuple #[.agg #[.int .i64 0, .int .i64 0, .string ⟨#[]⟩, .string ⟨#[]⟩, .int .i64 0, .int .i64 0, .slice none 0 0, .slice none 0 0, .slice none 0 0], .bool false]) (by simp [results, Try.results5, go_sem, r0, r1, r2, r3, r4, r5, r6, r7, r8]) rfl ?_
      exact ZB.out HN.out
    | some tu =>
      obtain ⟨t', u⟩ := tu
      rw [hp] at HO
      obtain ⟨rfl, rfl, hau⟩ := HO
      obtain rfl : a2 = u := by omega
      clear hau
      by_cases hu : a2 = T.length
      case' neg =>
        have HN : Hid (parM T = none) := by show _ = _; unfold parM; rw [hp]; exact if_neg (fun h => hu h.1)
        have hne : ((a2 : Int) != (T.length : Int)) = true := by rw [bne_iff_ne]; omega
        clear hp hu
        go_upto_region 6 with fail
        rw [← HW2.out]
        go_wp2_with fail
        refine bodyPost_ret (v := .tuple #[.agg #[.int .i64 0, .int .i64 0, .string ⟨#[]⟩, .string ⟨#[]⟩, .int .i64 0, .int .i64 0, .slice none 0 0, .slice none 0 0, .slice none 0 0], .bool false]) (by simp [results, Try.results5, go_sem, r0, r1, r2, r3, r4, r5, r6, r7, r8]) rfl ?_
        exact ZB.out HN.out
      have hne : ((a2 : Int) != (T.length : Int)) = false := by simp [hu]
      have HPT : Hid (parM T = if okM t = true then some t else none) := by
        show _ = _
        unfold parM
        rw [hp]
        simp only [hu, true_and]
      have KO := termOk_any 7 24 _ _ t t1 m1 d1 t2 m2 d2 t3 m3 d3 W2 (by omega) hoW2.fm
      clear hp hu
      go_upto_region 6 with fail
      rw [← HW2.out]
      go_wp2_with fail
      refine KO.mono ?_
      rintro e w3 ⟨rfl, hb3⟩
      have hz3 := hb3.size
      have hbw3 : Below w.heap.size w w3 := hbW2.trans (hb3.mono (by omega))
      have hr3 := (hb3.block w.heap.size (by omega)).trans hrW2
      have hb3x := (hb3.block w2.heap.size (by omega)).trans hbx
      have ho3 := hoW2.below hb3 (by omega)
      clear r0 r1 r2 r3 r4 r5 r6 r7 r8 rf e0 e1 e2 e3 e4 e5 e6 e7 e8 q0 q1 q2
      obtain ⟨r0, r1, r2, r3, r4, r5, r6, r7, r8⟩ := Nine.box hr3
      have rf := row_free hr3
      obtain ⟨e0, e1, e2, e3, e4, e5, e6, e7, e8⟩ := Nine.box hb3x
      cases hok : okM t with
      | false =>
        have HN : Hid (parM T = none) := by show _ = _; rw [HPT.out, hok]; rfl
        have HF : Hid (Below w.heap.size w (set9 w3 w.heap.size 0 (.int .i64 0) (.int .i64 0) (.string ⟨#[]⟩) (.string ⟨#[]⟩) (.int .i64 0) (.int .i64 0) (.slice none 0 0) (.slice none 0 0) (.slice none 0 0))) := set9_below hbw3 (Nat.le_refl _)
        clear hok
        go_wp2_with fail
        refine bodyPost_ret (v := .tuple #[.agg #[.int .i64 0, .int .i64 0, .string ⟨#[]⟩, .string ⟨#[]⟩, .int .i64 0, .int .i64 0, .slice none 0 0, .slice none 0 0, .slice none 0 0], .bool false]) (by simp [results, Try.results5, go_sem, r0, r1, r2, r3, r4, r5, r6, r7, r8]) rfl ?_
        exact ZF.out _ _ HF.out HN.out rfl
      | true =>
        have HN : Hid (parM T = some t) := by show _ = _; rw [HPT.out, hok]; rfl
        have HF : Hid (TellM w (set9 w3 w.heap.size 0 (.int .i64 t.K) (.int .i64 t.N) (.string t.S) (.string t.Z) (.int .i64 t.T.K) (.int .i64 t.T.N) (.slice t1 m1 d1) (.slice t2 m2 d2) (.slice t3 m3 d3)) 7 24 (.returned (.tuple #[.agg #[.int .i64 t.K, .int .i64 t.N, .string t.S, .string t.Z, .int .i64 t.T.K, .int .i64 t.T.N, .slice t1 m1 d1, .slice t2 m2 d2, .slice t3 m3 d3], .bool true])) ((parM T).getD zTm) (parM T).isSome) := by
          show TellM _ _ _ _ _ _ _
          rw [HN.out]
          exact ⟨t1, m1, d1, t2, m2, d2, t3, m3, d3, rfl, set9_below hbw3 (Nat.le_refl _), ho3.keep (fun q hq _ => set9_other _ (by omega)) (by omega) (by rw [set9_size]; omega)⟩
        clear hok
        go_wp2_with fail
        refine bodyPost_ret (v := .tuple #[.agg #[.int .i64 t.K, .int .i64 t.N, .string t.S, .string t.Z, .int .i64 t.T.K, .int .i64 t.T.N, .slice t1 m1 d1, .slice t2 m2 d2, .slice t3 m3 d3], .bool true]) (by simp [results, Try.results5, go_sem, r0, r1, r2, r3, r4, r5, r6, r7, r8]) rfl ?_
        exact HF.out

end Go.Proofs.Ythmmapahobkhnaa
