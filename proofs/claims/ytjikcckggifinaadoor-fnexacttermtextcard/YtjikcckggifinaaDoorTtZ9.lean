/-
  The tokens and the text of a type, in plain words: no walk, no statement.
-/
import Derived.Test.YtjikcckggifinaaDoorTtZ8
import Derived.Lib.Join
namespace Go.Proofs.YtjikcckggifinaaDoor
open Go.RowKit
set_option linter.unusedVariables false
set_option linter.unusedSimpArgs false

/-- The one token of a node. -/
def tokOf (k n : Int) : List UInt8 := if k = 1 then [105] else if k = 2 then [98] else if k = 3 then (if n = 0 then [118, 48] else [118, 49]) else if k = 4 then [102] else if k = 5 then [112] else [108]

/-- The tokens of a type, from the front. -/
def toksW : Nat → Tr → List (List UInt8)
  | 0, _ => []
  | l + 1, ⟨k, n, ts⟩ => tokOf k n :: (ts.map (toksW l)).flatten

/-- Its text. -/
def textW : Nat → Tr → List UInt8
  | 0, _ => []
  | l + 1, ⟨k, n, ts⟩ => tokOf k n ++ (ts.map fun t => 32 :: textW l t).flatten

def toksTo (l : Nat) (k n : Int) (ts : List Tr) (j : Nat) : List (List UInt8) := tokOf k n :: ((ts.take j).map (toksW l)).flatten
def textTo (l : Nat) (k n : Int) (ts : List Tr) (j : Nat) : List UInt8 := tokOf k n ++ ((ts.take j).map fun t => 32 :: textW l t).flatten

theorem toksTo_zero (l : Nat) (k n : Int) (ts : List Tr) : toksTo l k n ts 0 = [tokOf k n] := by simp [toksTo]
theorem toksTo_succ (l : Nat) (k n : Int) (ts : List Tr) (j : Nat) (h : j < ts.length) : toksTo l k n ts (j + 1) = toksTo l k n ts j ++ toksW l ts[j] := by
  unfold toksTo; rw [List.take_succ_eq_append_getElem h, List.map_append, List.flatten_append]; simp only [List.map_cons, List.map_nil, List.flatten_cons, List.flatten_nil, List.append_nil, List.cons_append]
theorem toksTo_all (l : Nat) (k n : Int) (ts : List Tr) (j : Nat) (h : ts.length ≤ j) : toksTo l k n ts j = toksW (l + 1) ⟨k, n, ts⟩ := by
  unfold toksTo; rw [List.take_of_length_le h]; rfl
theorem textTo_zero (l : Nat) (k n : Int) (ts : List Tr) : textTo l k n ts 0 = tokOf k n := by simp [textTo]
theorem textTo_succ (l : Nat) (k n : Int) (ts : List Tr) (j : Nat) (h : j < ts.length) : textTo l k n ts (j + 1) = textTo l k n ts j ++ 32 :: textW l ts[j] := by
  unfold textTo; rw [List.take_succ_eq_append_getElem h, List.map_append, List.flatten_append]; simp only [List.map_cons, List.map_nil, List.flatten_cons, List.flatten_nil, List.append_nil, List.append_assoc]
theorem textTo_all (l : Nat) (k n : Int) (ts : List Tr) (j : Nat) (h : ts.length ≤ j) : textTo l k n ts j = textW (l + 1) ⟨k, n, ts⟩ := by
  unfold textTo; rw [List.take_of_length_le h]; rfl

theorem toks_tail : ∀ (l : Nat) (t : Tr) (m : Nat), nodesW l t = some m → Lib.joinTail [32] (toksW l t) = 32 :: textW l t := by
  intro l
  induction l with
  | zero => intro t m h; simp [nodesW] at h
  | succ l ih =>
    intro t m h
    obtain ⟨k, n, ts⟩ := t
    obtain ⟨_, hp⟩ := nodesW_inv h
    have hs : ∀ x ∈ ts, Lib.joinTail [32] (toksW l x) = 32 :: textW l x := by
      intro x hx
      obtain ⟨j, hj, rfl⟩ := List.mem_iff_getElem.1 hx
      obtain ⟨a, ha⟩ := hp j hj
      exact ih _ a ha
    have hj : ∀ ys : List Tr, (∀ x ∈ ys, Lib.joinTail [32] (toksW l x) = 32 :: textW l x) → Lib.joinTail [32] (ys.map (toksW l)).flatten = (ys.map fun t => 32 :: textW l t).flatten := by
      intro ys
      induction ys with
      | nil => intro _; rfl
      | cons y ys ihy =>
        intro hy
        have h1 := hy y (by simp)
        have h2 := ihy fun x hx => hy x (by simp [hx])
        unfold Lib.joinTail at h1 h2 ⊢
        simp only [List.map_cons, List.flatten_cons, List.map_append, List.flatten_append]
        rw [h1, h2]
    show Lib.joinTail [32] (tokOf k n :: (ts.map (toksW l)).flatten) = 32 :: (tokOf k n ++ (ts.map fun t => 32 :: textW l t).flatten)
    have h3 := hj ts hs
    unfold Lib.joinTail at h3 ⊢
    rw [List.map_cons, List.flatten_cons, h3]
    rfl

theorem toks_joinT (l : Nat) (t : Tr) (m : Nat) (h : nodesW l t = some m) : Lib.join (toksW l t) [32] = textW l t := by
  have ht := toks_tail l t m h
  cases l with
  | zero => simp [nodesW] at h
  | succ l =>
    obtain ⟨k, n, ts⟩ := t
    have e : toksW (l + 1) ⟨k, n, ts⟩ = tokOf k n :: (ts.map (toksW l)).flatten := rfl
    rw [e] at ht ⊢
    rw [Lib.join_cons]
    unfold Lib.joinTail at ht ⊢
    rw [List.map_cons, List.flatten_cons] at ht
    have := List.cons.inj ht
    exact this.2

/-- As many tokens as nodes, each of two bytes at most. -/
theorem toks_len : ∀ (l : Nat) (t : Tr) (m : Nat), nodesW l t = some m → (toksW l t).length = m := by
  intro l
  induction l with
  | zero => intro t m h; simp [nodesW] at h
  | succ l ih =>
    intro t m h
    obtain ⟨k, n, ts⟩ := t
    have hn : ∀ (ys : List Tr) (s : Nat), nodesL (nodesW l) ys = some s → ((ys.map (toksW l)).flatten).length = s := by
      intro ys
      induction ys with
      | nil => intro s h; simp [nodesL] at h; simp [← h]
      | cons y ys ihy =>
        intro s h
        simp only [nodesL] at h
        cases hy : nodesW l y with
        | none => simp [hy] at h
        | some a =>
          cases hz : nodesL (nodesW l) ys with
          | none => simp [hy, hz] at h
          | some b =>
            simp [hy, hz] at h
            simp only [List.map_cons, List.flatten_cons, List.length_append]
            rw [ih y a hy, ihy b hz]
            exact h
    obtain ⟨hk, _⟩ := nodesW_inv h
    simp only [nodesW, hk] at h
    cases hz : nodesL (nodesW l) ts with
    | none => simp [hz] at h
    | some b =>
      simp [hz] at h
      have := hn ts b hz
      simp only [toksW, List.length_cons]
      omega

theorem tokOf_len (k n : Int) : (tokOf k n).length ≤ 2 := by unfold tokOf; (repeat' split) <;> simp

theorem toksW_each : ∀ (l : Nat) (t : Tr), ∀ x ∈ toksW l t, x.length ≤ 2 := by
  intro l
  induction l with
  | zero => intro t x hx; simp [toksW] at hx
  | succ l ih =>
    intro t x hx
    obtain ⟨k, n, ts⟩ := t
    simp only [toksW, List.mem_cons, List.mem_flatten, List.mem_map] at hx
    rcases hx with rfl | ⟨_, ⟨y, _, rfl⟩, hx⟩
    · exact tokOf_len k n
    · exact ih y x hx

theorem textW_len (l : Nat) (t : Tr) (m : Nat) (h : nodesW l t = some m) : (textW l t).length ≤ 3 * m := by
  have h1 := toks_tail l t m h
  have h2 := congrArg List.length h1
  rw [Lib.joinTail_length] at h2
  have h3 := toks_len l t m h
  have h4 : ∀ ys : List (List UInt8), (∀ x ∈ ys, x.length ≤ 2) → Lib.lens ys ≤ 2 * ys.length := by
    intro ys
    induction ys with
    | nil => intro _; simp [Lib.lens]
    | cons y ys ih =>
      intro hy
      have a := hy y (by simp)
      have b := ih fun x hx => hy x (by simp [hx])
      simp only [Lib.lens, List.map_cons, List.sum_cons, List.length_cons] at b ⊢
      omega
  have h5 := h4 _ (toksW_each l t)
  simp only [List.length_cons, List.length_nil] at h2
  omega

/-- Where a piece of P's length and the type's nodes are: the tokens of some parts are no more. -/
theorem toksTo_len {l : Nat} {k n : Int} {ts : List Tr} {m : Nat} (h : nodesW (l + 1) ⟨k, n, ts⟩ = some m) (j : Nat) (hj : j < ts.length) : (toksTo l k n ts j).length + (toksW l ts[j]).length ≤ m := by
  have h1 := toks_len _ _ _ h
  have e := congrArg List.length (toksTo_succ l k n ts j hj)
  rw [List.length_append] at e
  have e2 : (toksTo l k n ts (j + 1)).length ≤ (toksW (l + 1) ⟨k, n, ts⟩).length := by
    show (tokOf k n :: ((ts.take (j + 1)).map (toksW l)).flatten).length ≤ (tokOf k n :: (ts.map (toksW l)).flatten).length
    have := congrArg (fun x => ((x.map (toksW l)).flatten).length) (List.take_append_drop (j + 1) ts)
    simp only [List.map_append, List.flatten_append, List.length_append] at this
    simp only [List.length_cons]
    omega
  omega

theorem part_le {l : Nat} {k n : Int} {ts : List Tr} {m a : Nat} (h : nodesW (l + 1) ⟨k, n, ts⟩ = some m) (j : Nat) (hj : j < ts.length) (ha : nodesW l ts[j] = some a) : a ≤ m := by
  have h1 := toksTo_len h j hj
  have h2 := toks_len _ _ _ ha
  omega

theorem textTo_len {l : Nat} {k n : Int} {ts : List Tr} {m : Nat} (h : nodesW (l + 1) ⟨k, n, ts⟩ = some m) (j : Nat) (hj : j < ts.length) : (textTo l k n ts j).length + 1 + (textW l ts[j]).length ≤ 3 * m := by
  have h1 := textW_len _ _ _ h
  have e := congrArg List.length (textTo_succ l k n ts j hj)
  rw [List.length_append, List.length_cons] at e
  have e2 : (textTo l k n ts (j + 1)).length ≤ (textW (l + 1) ⟨k, n, ts⟩).length := by
    show (tokOf k n ++ ((ts.take (j + 1)).map fun t => 32 :: textW l t).flatten).length ≤ (tokOf k n ++ (ts.map fun t => 32 :: textW l t).flatten).length
    have := congrArg (fun x => ((x.map fun t => 32 :: textW l t).flatten).length) (List.take_append_drop (j + 1) ts)
    simp only [List.map_append, List.flatten_append, List.length_append] at this
    simp only [List.length_append]
    omega
  omega

def txT (t : Tr) : List UInt8 := if okT t = true then textW 6 t else []

theorem okT_le {t : Tr} (h : okT t = true) : ∃ m, nodesW 6 t = some m ∧ m ≤ 60 := by
  cases hm : nodesW 6 t with
  | none => simp [okT, nodesT, hm] at h
  | some m =>
    refine ⟨m, rfl, ?_⟩
    by_cases h6 : m ≤ 60
    · exact h6
    · simp [okT, nodesT, hm, h6] at h

end Go.Proofs.YtjikcckggifinaaDoor

/-
  'strconv.Itoa' at nought and one, walked.
-/
namespace Go.Proofs.YtjikcckggifinaaDoor
open Go.RowKit
set_option linter.unusedVariables false
set_option linter.unusedSimpArgs false

theorem small_0 (w : World) : Calls Tryd.prog 57 #[.int .i64 0] w fun e w' => e = .returned (.string ⟨#[48]⟩) ∧ w' = w := by
  go_enter Tryd.func57, Tryd.ntmps57
  go_wp2_with fail
  go_ret
  exact ⟨rfl, rfl⟩
theorem small_1 (w : World) : Calls Tryd.prog 57 #[.int .i64 1] w fun e w' => e = .returned (.string ⟨#[49]⟩) ∧ w' = w := by
  go_enter Tryd.func57, Tryd.ntmps57
  go_wp2_with fail
  go_ret
  exact ⟨rfl, rfl⟩

theorem formatInt_0 (w : World) : Calls Tryd.prog 51 #[.int .i64 0, .int .i64 10] w fun e w' => e = .returned (.string ⟨#[48]⟩) ∧ w' = w := by
  go_enter Tryd.func51, Tryd.ntmps51
  go_wp2_with (go_at_call 57; refine (small_0 _).mono ?_; rintro e w' ⟨rfl, rfl⟩)
  go_ret
  exact ⟨rfl, rfl⟩
theorem itoa_0 (w : World) : Calls Tryd.prog 35 #[.int .i64 0] w fun e w' => e = .returned (.string ⟨#[48]⟩) ∧ w' = w := by
  have hi : Calls Tryd.prog 42 #[.int .i64 0] w fun e w' => e = .returned (.string ⟨#[48]⟩) ∧ w' = w := by
    go_enter Tryd.func42, Tryd.ntmps42
    go_wp2_with (go_at_call 51; refine (formatInt_0 _).mono ?_; rintro e w' ⟨rfl, rfl⟩)
    go_ret
    exact ⟨rfl, rfl⟩
  go_enter Tryd.func35, Tryd.ntmps35
  go_wp2_with (go_at_call 42; refine hi.mono ?_; rintro e w' ⟨rfl, rfl⟩)
  go_ret
  exact ⟨rfl, rfl⟩
theorem formatInt_1 (w : World) : Calls Tryd.prog 51 #[.int .i64 1, .int .i64 10] w fun e w' => e = .returned (.string ⟨#[49]⟩) ∧ w' = w := by
  go_enter Tryd.func51, Tryd.ntmps51
  go_wp2_with (go_at_call 57; refine (small_1 _).mono ?_; rintro e w' ⟨rfl, rfl⟩)
  go_ret
  exact ⟨rfl, rfl⟩
theorem itoa_1 (w : World) : Calls Tryd.prog 35 #[.int .i64 1] w fun e w' => e = .returned (.string ⟨#[49]⟩) ∧ w' = w := by
  have hi : Calls Tryd.prog 42 #[.int .i64 1] w fun e w' => e = .returned (.string ⟨#[49]⟩) ∧ w' = w := by
    go_enter Tryd.func42, Tryd.ntmps42
    go_wp2_with (go_at_call 51; refine (formatInt_1 _).mono ?_; rintro e w' ⟨rfl, rfl⟩)
    go_ret
    exact ⟨rfl, rfl⟩
  go_enter Tryd.func35, Tryd.ntmps35
  go_wp2_with (go_at_call 42; refine hi.mono ?_; rintro e w' ⟨rfl, rfl⟩)
  go_ret
  exact ⟨rfl, rfl⟩

end Go.Proofs.YtjikcckggifinaaDoor
