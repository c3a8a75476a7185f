/-
  Types out of tokens, in plain words; what the program's 'tyOfToken' comes to.
-/
import Derived.Test.YthmmapahobkhnaaPmZ2
import Derived.Test.YthmmapahobkhnaaPmNw
namespace Go.Proofs.Ythmmapahobkhnaa
open Go.RowKit
set_option linter.unusedVariables false
set_option linter.unusedSimpArgs false

/-- The kind and the number that a token names. -/
def tokTy (l : List UInt8) : Option (Int × Int) :=
  if l = [105] then some (1, 0) else if l = [98] then some (2, 0) else if l = [118, 48] then some (3, 0) else if l = [118, 49] then some (3, 1) else if l = [102] then some (4, 0) else if l = [112] then some (5, 0) else if l = [108] then some (6, 0) else none

def prsN (f : List (List UInt8) → Option (Tr × Nat)) : Nat → List (List UInt8) → Option (List Tr × Nat)
  | 0, _ => some ([], 0)
  | m + 1, T => match f T with
    | none => none
    | some (t, u) => match prsN f m (T.drop u) with
      | none => none
      | some (ts, u2) => some (t :: ts, u + u2)

/-- The type that the tokens begin with, and how many it takes. -/
def prs : Nat → List (List UInt8) → Option (Tr × Nat)
  | 0, _ => none
  | _ + 1, [] => none
  | l + 1, t :: T => match tokTy t with
    | none => none
    | some (k, n) => match prsN (prs l) (parts k).toNat T with
      | none => none
      | some (ps, u) => some (⟨k, n, ps⟩, u + 1)

set_option maxRecDepth 100000 in
set_option maxHeartbeats 2000000 in
theorem tyOfToken_any (l : List UInt8) (w : World) :
    Calls Try.prog 61 #[tk l] w fun e w' => e = .returned (.tuple #[.agg #[.int .i64 ((tokTy l).getD (0, 0)).1, .int .i64 ((tokTy l).getD (0, 0)).2, .slice none 0 0], .bool (tokTy l).isSome]) ∧ Below w.heap.size w w' := by
  unfold tk
  by_cases h1 : l = [105]
  · subst h1
    go_enter Try.func61, Try.ntmps61
    go_wp2
    refine bodyPost_ret (v := .tuple #[.agg #[.int .i64 1, .int .i64 0, .slice none 0 0], .bool true]) (by simp [results, Try.results61, go_sem]) rfl ⟨rfl, ?_⟩
    exact (Below.refl _ _).alloc (Nat.le_refl _) _
  by_cases h2 : l = [98]
  · subst h2
    go_enter Try.func61, Try.ntmps61
    go_wp2
    refine bodyPost_ret (v := .tuple #[.agg #[.int .i64 2, .int .i64 0, .slice none 0 0], .bool true]) (by simp [results, Try.results61, go_sem]) rfl ⟨rfl, ?_⟩
    exact (Below.refl _ _).alloc (Nat.le_refl _) _
  by_cases h3 : l = [118, 48]
  · subst h3
    go_enter Try.func61, Try.ntmps61
    go_wp2
    refine bodyPost_ret (v := .tuple #[.agg #[.int .i64 3, .int .i64 0, .slice none 0 0], .bool true]) (by simp [results, Try.results61, go_sem]) rfl ⟨rfl, ?_⟩
    exact (Below.refl _ _).alloc (Nat.le_refl _) _
  by_cases h4 : l = [118, 49]
  · subst h4
    go_enter Try.func61, Try.ntmps61
    go_wp2
    refine bodyPost_ret (v := .tuple #[.agg #[.int .i64 3, .int .i64 1, .slice none 0 0], .bool true]) (by simp [results, Try.results61, go_sem]) rfl ⟨rfl, ?_⟩
    exact (Below.refl _ _).alloc (Nat.le_refl _) _
  by_cases h5 : l = [102]
  · subst h5
    go_enter Try.func61, Try.ntmps61
    go_wp2
    refine bodyPost_ret (v := .tuple #[.agg #[.int .i64 4, .int .i64 0, .slice none 0 0], .bool true]) (by simp [results, Try.results61, go_sem]) rfl ⟨rfl, ?_⟩
    exact (Below.refl _ _).alloc (Nat.le_refl _) _
  by_cases h6 : l = [112]
  · subst h6
    go_enter Try.func61, Try.ntmps61
    go_wp2
    refine bodyPost_ret (v := .tuple #[.agg #[.int .i64 5, .int .i64 0, .slice none 0 0], .bool true]) (by simp [results, Try.results61, go_sem]) rfl ⟨rfl, ?_⟩
    exact (Below.refl _ _).alloc (Nat.le_refl _) _
  by_cases h7 : l = [108]
  · subst h7
    go_enter Try.func61, Try.ntmps61
    go_wp2
    refine bodyPost_ret (v := .tuple #[.agg #[.int .i64 6, .int .i64 0, .slice none 0 0], .bool true]) (by simp [results, Try.results61, go_sem]) rfl ⟨rfl, ?_⟩
    exact (Below.refl _ _).alloc (Nat.le_refl _) _
  have b1 : (l == [105]) = false := by rw [beq_eq_false_iff_ne]; exact h1
  have b2 : (l == [98]) = false := by rw [beq_eq_false_iff_ne]; exact h2
  have b3 : (l == [118, 48]) = false := by rw [beq_eq_false_iff_ne]; exact h3
  have b4 : (l == [118, 49]) = false := by rw [beq_eq_false_iff_ne]; exact h4
  have b5 : (l == [102]) = false := by rw [beq_eq_false_iff_ne]; exact h5
  have b6 : (l == [112]) = false := by rw [beq_eq_false_iff_ne]; exact h6
  have b7 : (l == [108]) = false := by rw [beq_eq_false_iff_ne]; exact h7
  have HT : Hid (tokTy l = none) := by show _ = _; simp [tokTy, h1, h2, h3, h4, h5, h6, h7]
  clear h1 h2 h3 h4 h5 h6 h7
  go_enter Try.func61, Try.ntmps61
  go_wp2
  rw [HT.out]
  refine bodyPost_ret (v := .tuple #[.agg #[.int .i64 0, .int .i64 0, .slice none 0 0], .bool false]) (by simp [results, Try.results61, go_sem]) rfl ⟨rfl, ?_⟩
  exact (Below.refl _ _).alloc (Nat.le_refl _) _

end Go.Proofs.Ythmmapahobkhnaa

/-
  Types read from tokens: plain facts.
-/
namespace Go.Proofs.Ythmmapahobkhnaa
open Go.RowKit
set_option linter.unusedVariables false
set_option linter.unusedSimpArgs false

/-- A slice holds these tokens, in blocks from L on and below B. -/
def Stx (L B : Nat) (w : World) (ao : Option Addr) (len : Nat) (T : List (List UInt8)) : Prop := len = T.length ∧ ∀ i (_ : i < T.length), ∃ b o, ao = some ⟨b, o, none⟩ ∧ L ≤ b ∧ b < B ∧ w.cell? ⟨b, o + i, none⟩ = some (tk T[i])

theorem Stx.below {L B : Nat} {w w' : World} {ao : Option Addr} {len : Nat} {T : List (List UInt8)} (h : Stx L B w ao len T) (hb : Below w.heap.size w w') (hB : B ≤ w.heap.size) : Stx L B w' ao len T := by
  refine ⟨h.1, fun i hi => ?_⟩
  obtain ⟨b, o, e, h1, h2, h3⟩ := h.2 i hi
  exact ⟨b, o, e, h1, h2, (bcell hb (by omega) _).trans h3⟩

theorem prsN_le {f : List (List UInt8) → Option (Tr × Nat)} (hf : ∀ T t u, f T = some (t, u) → u ≤ T.length) : ∀ m T ts u, prsN f m T = some (ts, u) → u ≤ T.length := by
  intro m
  induction m with
  | zero => intro T ts u h; simp [prsN] at h; omega
  | succ m ih =>
    intro T ts u h
    rw [prsN] at h
    cases h1 : f T with
    | none => rw [h1] at h; cases h
    | some p =>
      obtain ⟨t, u1⟩ := p
      rw [h1] at h
      simp only at h
      cases h2 : prsN f m (T.drop u1) with
      | none => rw [h2] at h; cases h
      | some q =>
        obtain ⟨ts2, u2⟩ := q
        rw [h2] at h
        simp only [Option.some.injEq, Prod.mk.injEq] at h
        have a1 := hf T t u1 h1
        have a2 := ih _ _ _ h2
        rw [List.length_drop] at a2
        omega
theorem prs_le : ∀ l T t u, prs l T = some (t, u) → u ≤ T.length := by
  intro l
  induction l with
  | zero => intro T t u h; simp [prs] at h
  | succ l ih =>
    intro T t u h
    cases T with
    | nil => simp [prs] at h
    | cons x T =>
      rw [prs] at h
      cases h1 : tokTy x with
      | none => rw [h1] at h; cases h
      | some p =>
        obtain ⟨k, n⟩ := p
        rw [h1] at h
        simp only at h
        cases h2 : prsN (prs l) (parts k).toNat T with
        | none => rw [h2] at h; cases h
        | some q =>
          obtain ⟨ps, u1⟩ := q
          rw [h2] at h
          simp only [Option.some.injEq, Prod.mk.injEq] at h
          have := prsN_le ih _ _ _ _ h2
          simp only [List.length_cons]
          omega

/-- What has been read of the parts: 'us', of 'used' tokens. -/
def Half (f : List (List UInt8) → Option (Tr × Nat)) (m j : Nat) (T : List (List UInt8)) (us : List Tr) (used : Nat) : Prop := prsN f m T = (prsN f (m - j) (T.drop used)).map fun p => (us ++ p.1, used + p.2)
theorem half_start (f : List (List UInt8) → Option (Tr × Nat)) (m : Nat) (T : List (List UInt8)) : Half f m 0 T [] 0 := by
  unfold Half
  simp
theorem half_next {f : List (List UInt8) → Option (Tr × Nat)} {m j : Nat} {T : List (List UInt8)} {us : List Tr} {used : Nat} (h : Half f m j T us used) (hj : j < m) {t : Tr} {u : Nat} (ht : f (T.drop used) = some (t, u)) : Half f m (j + 1) T (us ++ [t]) (used + u) := by
  unfold Half at *
  rw [h, show m - j = (m - (j + 1)) + 1 by omega, prsN, ht]
  simp only [List.drop_drop]
  cases prsN f (m - (j + 1)) (T.drop (used + u)) with
  | none => rfl
  | some p => simp [Nat.add_assoc]
theorem half_none {f : List (List UInt8) → Option (Tr × Nat)} {m j : Nat} {T : List (List UInt8)} {us : List Tr} {used : Nat} (h : Half f m j T us used) (hj : j < m) (ht : f (T.drop used) = none) : prsN f m T = none := by
  unfold Half at h
  rw [h, show m - j = (m - (j + 1)) + 1 by omega, prsN, ht]
  rfl
theorem half_done {f : List (List UInt8) → Option (Tr × Nat)} {m j : Nat} {T : List (List UInt8)} {us : List Tr} {used : Nat} (h : Half f m j T us used) (hj : m ≤ j) : prsN f m T = some (us, used) := by
  unfold Half at h
  rw [h, show m - j = 0 by omega, prsN]
  simp
theorem prs_cons {l : Nat} {x : List UInt8} {T : List (List UInt8)} {k n : Int} (h : tokTy x = some (k, n)) : prs (l + 1) (x :: T) = (prsN (prs l) (parts k).toNat T).map fun p => (⟨k, n, p.1⟩, p.2 + 1) := by
  rw [prs, h]
  simp only
  cases prsN (prs l) (parts k).toNat T with
  | none => rfl
  | some p => rfl

theorem tok_parts {l : List UInt8} {k n : Int} (h : tokTy l = some (k, n)) : 0 ≤ parts k ∧ parts k ≤ 2 := by
  unfold tokTy at h
  repeat' split at h
  all_goals first | (simp only [Option.some.injEq, Prod.mk.injEq] at h; obtain ⟨rfl, rfl⟩ := h; decide) | cases h

end Go.Proofs.Ythmmapahobkhnaa

/-
  Types read from tokens: plain facts.
-/
namespace Go.Proofs.Ythmmapahobkhnaa
open Go.RowKit
set_option linter.unusedVariables false
set_option linter.unusedSimpArgs false

/-- The type that the tokens are, all of them. -/
def parT (T : List (List UInt8)) : Option Tr := match prs 6 T with
  | some (t, u) => if u = T.length ∧ okT t = true then some t else none
  | none => none

theorem prsN_nodes {l : Nat} (hf : ∀ T t u, prs l T = some (t, u) → nodesW l t = some u ∧ ∀ x ∈ T.take u, x ≠ []) : ∀ m T ts u, prsN (prs l) m T = some (ts, u) → nodesL (nodesW l) ts = some u ∧ ts.length = m ∧ ∀ x ∈ T.take u, x ≠ [] := by
  intro m
  induction m with
  | zero =>
    intro T ts u h
    simp only [prsN, Option.some.injEq, Prod.mk.injEq] at h
    obtain ⟨rfl, rfl⟩ := h
    exact ⟨rfl, rfl, fun x hx => by simp at hx⟩
  | succ m ih =>
    intro T ts u h
    rw [prsN] at h
    cases h1 : prs l T with
    | none => rw [h1] at h; cases h
    | some p =>
      obtain ⟨t, u1⟩ := p
      rw [h1] at h
      simp only at h
      cases h2 : prsN (prs l) m (T.drop u1) with
      | none => rw [h2] at h; cases h
      | some q =>
        obtain ⟨ts2, u2⟩ := q
        rw [h2] at h
        simp only [Option.some.injEq, Prod.mk.injEq] at h
        obtain ⟨rfl, rfl⟩ := h
        obtain ⟨a1, a2⟩ := hf T t u1 h1
        obtain ⟨b1, b2, b3⟩ := ih _ _ _ h2
        refine ⟨by simp only [nodesL, a1, b1], by simp [b2], fun x hx => ?_⟩
        rw [List.take_add] at hx
        rw [List.mem_append] at hx
        rcases hx with hx | hx
        · exact a2 x hx
        · exact b3 x hx

theorem tok_node {x : List UInt8} {k n : Int} (h : tokTy x = some (k, n)) : x ≠ [] ∧ nodeOk k n (parts k).toNat = true := by
  unfold tokTy at h
  repeat' split at h
  all_goals first | (simp only [Option.some.injEq, Prod.mk.injEq] at h; obtain ⟨rfl, rfl⟩ := h; rename_i hx; exact ⟨by rw [hx]; simp, by decide⟩) | cases h

theorem prs_nodes : ∀ l T t u, prs l T = some (t, u) → nodesW l t = some u ∧ ∀ x ∈ T.take u, x ≠ [] := by
  intro l
  induction l with
  | zero => intro T t u h; simp [prs] at h
  | succ l ih =>
    intro T t u h
    cases T with
    | nil => simp [prs] at h
    | cons x T =>
      cases h1 : tokTy x with
      | none => rw [prs, h1] at h; cases h
      | some p =>
        obtain ⟨k, n⟩ := p
        rw [prs_cons h1] at h
        obtain ⟨q, h2, h3⟩ := Option.map_eq_some_iff.1 h
        obtain ⟨ps, u1⟩ := q
        simp only [Prod.mk.injEq] at h3
        obtain ⟨rfl, rfl⟩ := h3
        obtain ⟨b1, b2, b3⟩ := prsN_nodes ih _ _ _ _ h2
        obtain ⟨c1, c2⟩ := tok_node h1
        refine ⟨?_, fun y hy => ?_⟩
        · simp only [nodesW]
          rw [b2, if_pos c2, b1]
          simp
          omega
        · simp only [List.take_succ_cons, List.mem_cons] at hy
          rcases hy with rfl | hy
          · exact c1
          · exact b3 y hy

theorem ok_le {t : Tr} {u : Nat} (h : nodesW 6 t = some u) (ho : okT t = true) : u ≤ 60 := by
  have hn : nodesT t = if u ≤ 60 then u else 0 := by simp only [nodesT, h]
  unfold okT at ho
  rw [decide_eq_true_eq, hn] at ho
  by_cases h6 : u ≤ 60
  · exact h6
  · rw [if_neg h6] at ho; omega

theorem par_good {T : List (List UInt8)} {t : Tr} (h : parT T = some t) : goodT 60 T = true := by
  unfold parT at h
  cases h1 : prs 6 T with
  | none => rw [h1] at h; cases h
  | some p =>
    obtain ⟨t', u⟩ := p
    rw [h1] at h
    simp only at h
    split at h
    · rename_i hc
      obtain ⟨a1, a2⟩ := prs_nodes 6 T t' u h1
      have hu := ok_le a1 hc.2
      unfold goodT
      rw [Bool.and_eq_true, decide_eq_true_eq, List.all_eq_true]
      refine ⟨by omega, fun x hx => ?_⟩
      have hne := a2 x (by rw [hc.1, List.take_length]; exact hx)
      cases x with
      | nil => exact (hne rfl).elim
      | cons b x => rfl
    · cases h
theorem par_bad {T : List (List UInt8)} (h : goodT 60 T = false) : parT T = none := by
  cases hp : parT T with
  | none => rfl
  | some t => rw [par_good hp] at h; cases h

theorem toks_stx {base : Nat} {w : World} {v : Value} {T : List (List UInt8)} (h : Toks base w v T) : ∃ ao cap, v = .slice ao T.length cap ∧ Stx base w.heap.size w ao T.length T := by
  rcases h.2 with ⟨rfl, hn⟩ | ⟨g, cap, cur, rfl, hg, hh, hc1, hc2, hc3, ht⟩
  · exact ⟨none, 0, by rw [hn], rfl, fun i hi => by omega⟩
  · refine ⟨_, cap, rfl, rfl, fun i hi => ⟨g, 0, rfl, hg, (Array.getElem?_eq_some_iff.1 hh).1, ?_⟩⟩
    rw [Nat.zero_add, row_cell hh]
    have e : (cur.toList.take (T.length * 1))[i]? = (T.map tk)[i]? := by rw [ht]
    rw [List.getElem?_take, if_pos (by omega)] at e
    rw [← Array.getElem?_toList, e]
    simp [hi]

theorem spl_len (s : List UInt8) : (spl s).length ≤ s.length + 1 := by
  have : ∀ (l cur : List UInt8), (splAcc cur l).length ≤ l.length + 1 := by
    intro l
    induction l with
    | nil => intro cur; simp [splAcc]
    | cons b l ih =>
      intro cur
      rw [splAcc]
      split
      · have := ih []
        simp only [List.length_cons]; omega
      · have := ih (cur ++ [b])
        simp only [List.length_cons]; omega
  exact this s []

end Go.Proofs.Ythmmapahobkhnaa

/-
  What the model's 'l1Args', 'l1In', 'l1Look', 'TyOk', 'TyNodes' come to.
-/
namespace Go.Proofs.Ythmmapahobkhnaa
open Go.RowKit
set_option linter.unusedVariables false
set_option linter.unusedSimpArgs false

set_option maxHeartbeats 400000 in
theorem l1Args_any (k : Int) (w : World) : Calls Try.prog 42 #[.int .i64 k] w fun e w' => e = .returned (.int .i64 (parts k)) ∧ w' = w := by
  by_cases h1 : k = 1
  · subst h1; go_enter Try.func42, Try.ntmps42; go_wp2; go_ret; exact ⟨rfl, rfl⟩
  by_cases h2 : k = 2
  · subst h2; go_enter Try.func42, Try.ntmps42; go_wp2; go_ret; exact ⟨rfl, rfl⟩
  by_cases h3 : k = 3
  · subst h3; go_enter Try.func42, Try.ntmps42; go_wp2; go_ret; exact ⟨rfl, rfl⟩
  by_cases h4 : k = 4
  · subst h4; go_enter Try.func42, Try.ntmps42; go_wp2; go_ret; exact ⟨rfl, rfl⟩
  by_cases h5 : k = 5
  · subst h5; go_enter Try.func42, Try.ntmps42; go_wp2; go_ret; exact ⟨rfl, rfl⟩
  by_cases h6 : k = 6
  · subst h6; go_enter Try.func42, Try.ntmps42; go_wp2; go_ret; exact ⟨rfl, rfl⟩
  have e : parts k = -1 := by unfold parts; rw [if_neg (by omega), if_neg (by omega), if_neg (by omega)]
  rw [e]
  have b1 : (k == 1) = false := beq_eq_false_iff_ne.2 h1
  have b2 : (k == 2) = false := beq_eq_false_iff_ne.2 h2
  have b3 : (k == 3) = false := beq_eq_false_iff_ne.2 h3
  have b4 : (k == 4) = false := beq_eq_false_iff_ne.2 h4
  have b5 : (k == 5) = false := beq_eq_false_iff_ne.2 h5
  have b6 : (k == 6) = false := beq_eq_false_iff_ne.2 h6
  clear e h1 h2 h3 h4 h5 h6
  go_enter Try.func42, Try.ntmps42; go_wp2; go_ret; exact ⟨rfl, rfl⟩

def in01 (x : Int) : Bool := decide (0 ≤ x ∧ x ≤ 1)
set_option maxHeartbeats 400000 in
theorem l1In_any (x : Int) (w : World) : Calls Try.prog 41 #[.int .i64 x, .int .i64 0, .int .i64 1] w fun e w' => e = .returned (.bool (in01 x)) ∧ w' = w := by
  by_cases h : 0 ≤ x
  all_goals
    go_enter Try.func41, Try.ntmps41
    go_wp2
    go_ret
    exact ⟨ret_bool (by unfold in01; rw [Bool.eq_iff_iff]; simp; try omega), rfl⟩

/-- What 'l1Look' answers, c being the count ahead of it. -/
def lookOk (l c : Nat) (t : Tr) : Bool := match nodesW l t with | some m => decide (c + m ≤ 60) | none => false

def SaidLk (l : Nat) : Prop := ∀ (d L B p c : Nat) (k n : Int) (ao : Option Addr) (len cap : Nat) (ts : List Tr) (w : World), B ≤ p → p < w.heap.size → w.heap[p]? = some (.cells #[.int .i64 c] 3 (0, 0)) → c ≤ 60 → Hs L B w d ao len ts →
    Calls Try.prog 57 #[.agg #[.int .i64 k, .int .i64 n, .slice ao len cap], .int .i64 l, .pointer (some ⟨p, 0, none⟩)] w fun e w' =>
      e = .returned (.bool (lookOk l c ⟨k, n, ts⟩)) ∧ w.grownBy w' (some p) ∧ ∃ c' : Int, w'.heap[p]? = some (.cells #[.int .i64 c'] 3 (0, 0)) ∧ (∀ m, nodesW l ⟨k, n, ts⟩ = some m → c + m ≤ 60 → c' = c + m)

theorem gcell {w w' : World} {p b : Nat} (hg : w.grownBy w' (some p)) (hb : b < w.heap.size) (hp : b ≠ p) (o : Nat) : w'.cell? ⟨b, o, none⟩ = w.cell? ⟨b, o, none⟩ :=
  World.cell?_of_block (hg.block b hb (by simpa using hp))
theorem grown_refl (w : World) (r : Option Nat) : w.grownBy w r := ⟨rfl, rfl, rfl, Nat.le_refl _, fun _ _ _ => rfl⟩
theorem grown_trans {a b c : World} {r : Option Nat} (h : a.grownBy b r) (k : b.grownBy c r) : a.grownBy c r :=
  ⟨k.os.trans h.os, k.tape.trans h.tape, k.output.trans h.output, Nat.le_trans h.size k.size, fun i hi hr => (k.block i (Nat.lt_of_lt_of_le hi h.size) hr).trans (h.block i hi hr)⟩
theorem Hs.grown {L B p : Nat} {w w' : World} (hg : w.grownBy w' (some p)) (hB : B ≤ p) (hp : p < w.heap.size) {d : Nat} {ao : Option Addr} {len : Nat} {ts : List Tr} (h : Hs L B w d ao len ts) : Hs L B w' d ao len ts :=
  h.keep (fun k _ hk => hg.block k (by omega) (by simp; omega)) (Nat.le_refl _) (Nat.le_refl _)

theorem lk_world {w : World} {p : Nat} {v : Value} {t : TypeId} (hcell : w.heap[p]? = some (.cells #[v] t (0, 0))) (hp : p < w.heap.size) (u : Value) (cs : Array Value) (t' : TypeId) (nq : Nat) :
    w.grownBy (((w.setCell ⟨p, 0, none⟩ u).alloc (.cells cs t')).drewN nq) (some p) ∧ (((w.setCell ⟨p, 0, none⟩ u).alloc (.cells cs t')).drewN nq).heap[p]? = some (.cells #[u] t (0, 0)) ∧
    (((w.setCell ⟨p, 0, none⟩ u).alloc (.cells cs t')).drewN nq).heap[w.heap.size]? = some (.cells cs t' (0, 0)) := by
  refine ⟨⟨rfl, rfl, rfl, ?_, ?_⟩, ?_, ?_⟩
  · show w.heap.size ≤ ((w.setCell ⟨p, 0, none⟩ u).alloc (.cells cs t')).heap.size
    simp
  · intro k hk hr
    show ((w.setCell ⟨p, 0, none⟩ u).alloc (.cells cs t')).heap[k]? = _
    rw [Below.heap_alloc _ _ _ (by simpa using hk), row_other _ _ _ (by simpa using hr)]
  · show ((w.setCell ⟨p, 0, none⟩ u).alloc (.cells cs t')).heap[p]? = _
    rw [Below.heap_alloc _ _ _ (by simpa using hp), row_set hcell]
    rfl
  · show ((w.setCell ⟨p, 0, none⟩ u).alloc (.cells cs t')).heap[w.heap.size]? = _
    exact heap_new (by simp)

theorem lookOk_no {l c : Nat} {t : Tr} (h : lookOk l c t = false) : ∀ m, nodesW l t = some m → c + m ≤ 60 → False := by
  intro m hm hle
  simp only [lookOk, hm, decide_eq_false_iff_not] at h
  exact h hle

set_option maxHeartbeats 400000 in
theorem lk_zero : SaidLk 0 := by
  intro d L B p c k n ao len cap ts w hBp hp hcell hc hs
  have f := row_cell hcell 0
  have r := row_free hcell 0
  simp at f
  have hpn : ¬ w.heap.size = p := by omega
  have HW := lk_world hcell hp (.int .i64 ((c : Int) + 1)) #[.int .i64 k, .int .i64 n, .slice ao len cap] 24
  have HWW : Hid (∀ nq, _) := HW
  clear HW hcell
  go_enter Try.func57, Try.ntmps57
  go_wp2_with fail
  go_quiet ((first | (go_at_call 42; exact Calls.quiet_of_same (l1Args_any _ _)) | (go_at_call 41; exact Calls.quiet_of_same (l1In_any _ _))))
  go_wp2
  go_ret
  exact ⟨ret_bool rfl, (HWW.out nq).1, _, (HWW.out nq).2.1, fun m hm => by simp [nodesW] at hm⟩

/-- The tests of one node, as the model asks them. -/
theorem nodeOk_parts {k n : Int} {len : Nat} (h : nodeOk k n len = true) : (len : Int) = parts k ∧ ((k = 3 ∧ in01 n = true) ∨ (¬ k = 3 ∧ n = 0)) := by
  simp only [nodeOk, Bool.and_eq_true, decide_eq_true_eq] at h
  refine ⟨h.1, ?_⟩
  by_cases hk : k = 3
  · left
    rw [if_pos hk] at h
    exact ⟨hk, by unfold in01; simp at h ⊢; omega⟩
  · right
    rw [if_neg hk] at h
    exact ⟨hk, by simpa using h.2⟩

theorem lookOk_deep {l c : Nat} {k n : Int} {ts : List Tr} (h : nodeOk k n ts.length = false) : lookOk (l + 1) c ⟨k, n, ts⟩ = false := by simp [lookOk, nodesW, h]
theorem lookOk_full {l c : Nat} {t : Tr} (h : 60 < c + 1) : lookOk l c t = false := by
  unfold lookOk
  split
  · rename_i m hm
    have := nodesW_pos _ _ _ hm
    simp; omega
  · rfl

set_option maxHeartbeats 1000000 in
theorem lk_no (l : Nat) (d L B p c : Nat) (k n : Int) (ao : Option Addr) (len cap : Nat) (ts : List Tr) (w : World) (hBp : B ≤ p) (hp : p < w.heap.size) (hcell : w.heap[p]? = some (.cells #[.int .i64 c] 3 (0, 0))) (hc : c ≤ 60) (hl6 : l < 6) (hs : Hs L B w d ao len ts)
    (hno : 60 < c + 1 ∨ nodeOk k n len = false) :
    Calls Try.prog 57 #[.agg #[.int .i64 k, .int .i64 n, .slice ao len cap], .int .i64 ((l : Int) + 1), .pointer (some ⟨p, 0, none⟩)] w fun e w' =>
      e = .returned (.bool (lookOk (l + 1) c ⟨k, n, ts⟩)) ∧ w.grownBy w' (some p) ∧ ∃ c' : Int, w'.heap[p]? = some (.cells #[.int .i64 c'] 3 (0, 0)) ∧ (∀ m, nodesW (l + 1) ⟨k, n, ts⟩ = some m → c + m ≤ 60 → c' = c + m) := by
  have HO : Hid (lookOk (l + 1) c ⟨k, n, ts⟩ = false) := by
    rcases hno with h | h
    · exact lookOk_full h
    · exact lookOk_deep (by rw [← hs.len.1]; exact h)
  have hll := hs.len.2
  have f := row_cell hcell 0
  have r := row_free hcell 0
  simp at f
  have hpn : ¬ w.heap.size = p := by omega
  have hp0 := parts_bd k
  have HW := lk_world hcell hp (.int .i64 ((c : Int) + 1)) #[.int .i64 k, .int .i64 n, .slice ao len cap] 24
  have HWW : Hid (∀ nq, _) := HW
  clear HW hcell
  have hl0 : (((l : Int) + 1) == 0) = false := by simp; omega
  by_cases hfull : 60 < c + 1
  · have h60 : decide (60 < (c : Int) + 1) = true := by simp; omega
    clear hno hfull
    go_enter Try.func57, Try.ntmps57
    go_wp2_with fail
    go_quiet ((first | (go_at_call 42; exact Calls.quiet_of_same (l1Args_any _ _)) | (go_at_call 41; exact Calls.quiet_of_same (l1In_any _ _))))
    go_wp2
    go_ret
    exact ⟨ret_bool HO.out.symm, (HWW.out nq).1, _, (HWW.out nq).2.1, fun m hm hle => (lookOk_no HO.out m hm hle).elim⟩
  have h60 : decide (60 < (c : Int) + 1) = false := by simp; omega
  replace hno : nodeOk k n len = false := by rcases hno with h | h; exact absurd h hfull; exact h
  by_cases hlen : (len : Int) = parts k
  · have hb : ((len : Int) != parts k) = false := by simp [hlen]
    by_cases hk : k = 3
    · have hk3 : (k == 3) = true := by simp [hk]
      have hkn : (k != 3) = false := by simp [hk]
      have hin : in01 n = false := by
        rw [nodeOk_var hk hlen] at hno
        unfold in01; simp at hno ⊢; omega
      clear hk hlen hno
      go_enter Try.func57, Try.ntmps57
      go_wp2_with fail
      go_quiet ((first | (go_at_call 42; exact Calls.quiet_of_same (l1Args_any _ _)) | (go_at_call 41; exact Calls.quiet_of_same (l1In_any _ _))))
      go_wp2
      go_ret
      exact ⟨ret_bool HO.out.symm, (HWW.out nq).1, _, (HWW.out nq).2.1, fun m hm hle => (lookOk_no HO.out m hm hle).elim⟩
    · have hk3 : (k == 3) = false := by simp [hk]
      have hkn : (k != 3) = true := by simp [hk]
      have hn : (n != 0) = true := by
        rw [nodeOk_else hk hlen] at hno
        simpa using hno
      clear hk hlen hno
      go_enter Try.func57, Try.ntmps57
      go_wp2_with fail
      go_quiet ((first | (go_at_call 42; exact Calls.quiet_of_same (l1Args_any _ _)) | (go_at_call 41; exact Calls.quiet_of_same (l1In_any _ _))))
      go_wp2
      go_ret
      exact ⟨ret_bool HO.out.symm, (HWW.out nq).1, _, (HWW.out nq).2.1, fun m hm hle => (lookOk_no HO.out m hm hle).elim⟩
  · have hb : ((len : Int) != parts k) = true := by simp [hlen]
    clear hlen hno
    go_enter Try.func57, Try.ntmps57
    go_wp2_with fail
    go_quiet ((first | (go_at_call 42; exact Calls.quiet_of_same (l1Args_any _ _)) | (go_at_call 41; exact Calls.quiet_of_same (l1In_any _ _))))
    go_wp2
    go_ret
    exact ⟨ret_bool HO.out.symm, (HWW.out nq).1, _, (HWW.out nq).2.1, fun m hm hle => (lookOk_no HO.out m hm hle).elim⟩

end Go.Proofs.Ythmmapahobkhnaa
