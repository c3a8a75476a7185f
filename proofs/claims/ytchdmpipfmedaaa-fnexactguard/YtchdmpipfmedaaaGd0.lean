/-
  The last OpTry that is not over: looked for from behind, and kept on a stack; that both find the same. No program.
-/
import Derived.Test.YtchdmpipfmedaaaIn
namespace Go.Proofs.Ytchdmpipfmedaaa
open Go.RowKit
set_option linter.unusedVariables false
set_option linter.unusedSimpArgs false

/-- One instruction, looked at from behind: how many are over; none: here it is. -/
def stepB (x : Insn) (o : Nat) : Option Nat := if x.Op == 18 then some (o + 1) else if x.Op == 17 then (if o = 0 then none else some (o - 1)) else some o
def tryB : Nat → List Insn → Option Insn
  | _, [] => none
  | o, x :: xs => match stepB x o with
    | none => some x
    | some o' => tryB o' xs
def foldB : Nat → List Insn → Option Nat
  | o, [] => some o
  | o, x :: xs => (stepB x o).bind fun o' => foldB o' xs

theorem foldB_snoc : ∀ (l : List Insn) (o : Nat) (x : Insn), foldB o (l ++ [x]) = (foldB o l).bind (stepB x)
  | [], o, x => by simp [foldB]
  | y :: l, o, x => by
    rw [List.cons_append, foldB, foldB]
    cases h : stepB y o with
    | none => rfl
    | some o' => simp only [Option.bind_some]; exact foldB_snoc l o' x
theorem foldB_le : ∀ (l : List Insn) (o o' : Nat), foldB o l = some o' → o' ≤ o + l.length
  | [], o, o', h => by simp [foldB] at h; omega
  | y :: l, o, o', h => by
    rw [foldB] at h
    cases h1 : stepB y o with
    | none => rw [h1] at h; cases h
    | some o1 =>
      rw [h1] at h
      have := foldB_le l o1 o' h
      have h2 : o1 ≤ o + 1 := by
        unfold stepB at h1
        split at h1
        · injection h1 with h1; omega
        · split at h1
          · split at h1
            · cases h1
            · injection h1 with h1; omega
          · injection h1 with h1; omega
      simp only [List.length_cons]
      omega
theorem tryB_append : ∀ (l m : List Insn) (o o' : Nat), foldB o l = some o' → tryB o (l ++ m) = tryB o' m
  | [], m, o, o', h => by simp [foldB] at h; rw [h]; rfl
  | y :: l, m, o, o', h => by
    rw [foldB] at h
    cases h1 : stepB y o with
    | none => rw [h1] at h; cases h
    | some o1 =>
      rw [h1] at h
      rw [List.cons_append, tryB, h1]
      exact tryB_append l m o1 o' h
theorem tryB_none (l : List Insn) (o o' : Nat) (h : foldB o l = some o') : tryB o l = none := by
  have := tryB_append l [] o o' h
  rw [List.append_nil] at this
  rw [this]; rfl
theorem tryB_found (l m : List Insn) (o o' : Nat) (x : Insn) (h : foldB o l = some o') (hx : stepB x o' = none) : tryB o (l ++ x :: m) = some x := by
  rw [tryB_append l _ o o' h, tryB, hx]

/-- The stack of the places of those that are not over. -/
def stS (s : List Nat) (k : Nat) (x : Insn) : List Nat := if x.Op == 17 then s ++ [k] else if x.Op == 18 then s.dropLast else s
def stN (l : List Insn) : Nat → List Nat
  | 0 => []
  | k + 1 => if h : k < l.length then stS (stN l k) k l[k] else stN l k
theorem stN_succ (l : List Insn) (k : Nat) (h : k < l.length) : stN l (k + 1) = stS (stN l k) k l[k] := by rw [stN, dif_pos h]
theorem stS_len (s : List Nat) (k : Nat) (x : Insn) : (stS s k x).length ≤ s.length + 1 := by
  unfold stS; split
  · simp
  · split
    · rw [List.length_dropLast]; omega
    · omega
theorem stN_len (l : List Insn) : ∀ k, (stN l k).length ≤ k
  | 0 => by simp [stN]
  | k + 1 => by
    have ih := stN_len l k
    rw [stN]
    split
    · have := stS_len (stN l k) k l[k]; omega
    · omega
theorem stN_lt (l : List Insn) : ∀ k, ∀ x ∈ stN l k, x < k ∧ x < l.length
  | 0, x, hx => by simp [stN] at hx
  | k + 1, x, hx => by
    rw [stN] at hx
    split at hx
    · rename_i h
      unfold stS at hx
      split at hx
      · rcases List.mem_append.1 hx with hx | hx
        · have := stN_lt l k x hx; omega
        · rw [List.mem_singleton] at hx; omega
      · split at hx
        · have := stN_lt l k x (List.dropLast_subset _ hx); omega
        · have := stN_lt l k x hx; omega
    · have := stN_lt l k x hx; omega

/-- What lies on the stack, so many from its top. -/
def topN (l : List Insn) (s : List Nat) (o : Nat) : Option Insn := (s[s.length - 1 - o]?).bind fun j => if o < s.length then l[j]? else none

theorem try_stack (l : List Insn) : ∀ k, k ≤ l.length → ∀ o, tryB o (l.take k).reverse = topN l (stN l k) o
  | 0, _, o => by simp [tryB, topN, stN]
  | k + 1, hk, o => by
    have hk' : k < l.length := hk
    have ih := try_stack l k (by omega)
    have e : (l.take (k + 1)).reverse = l[k] :: (l.take k).reverse := by rw [List.take_succ_eq_append_getElem hk', List.reverse_append]; rfl
    rw [e, stN_succ l k hk', tryB]
    have hl := stN_lt l k
    generalize stN l k = s at *
    unfold stepB stS
    by_cases h18 : l[k].Op == 18
    · have h17 : (l[k].Op == 17) = false := by rw [beq_eq_false_iff_ne]; rw [beq_iff_eq] at h18; omega
      rw [if_pos h18, h17, if_neg (by simp), if_pos h18]
      show tryB (o + 1) _ = _
      rw [ih]
      unfold topN
      rw [List.length_dropLast]
      by_cases ho : o + 1 < s.length
      · have e1 : s.dropLast[s.length - 1 - 1 - o]? = s[s.length - 1 - (o + 1)]? := by
          rw [List.dropLast_eq_take, List.getElem?_take_of_lt (by omega)]
          congr 1
          omega
        rw [e1]
        simp only [ho, if_true, show o < s.length - 1 by omega]
      · simp only [ho, if_false, show ¬ o < s.length - 1 by omega]
        cases s[s.length - 1 - (o + 1)]? <;> cases s.dropLast[s.length - 1 - 1 - o]? <;> rfl
    · rw [if_neg h18]
      by_cases h17 : l[k].Op == 17
      · rw [if_pos h17, if_pos h17]
        unfold topN
        by_cases ho : o = 0
        · subst ho
          rw [if_pos rfl]
          simp [hk']
        · rw [if_neg ho]
          show tryB (o - 1) _ = _
          rw [ih]
          unfold topN
          rw [List.length_append, List.length_singleton]
          by_cases hs : o - 1 < s.length
          · rw [List.getElem?_append_left (by omega), show s.length + 1 - 1 - o = s.length - 1 - (o - 1) by omega]
            simp only [hs, if_true, show o < s.length + 1 by omega]
          · simp only [hs, if_false, show ¬ o < s.length + 1 by omega]
            cases s[s.length - 1 - (o - 1)]? <;> cases (s ++ [k])[s.length + 1 - 1 - o]? <;> rfl
      · rw [if_neg h17, if_neg h17, if_neg h18]
        exact ih o

/-- Where a raise at the n-th goes on. -/
def grdP (p : Pc) (n : Int) : Int := if 0 ≤ n ∧ n < p.Ins.length then (match tryB 0 (p.Ins.take n.toNat).reverse with | some x => x.To | none => -1) else -1

theorem top_zero (l : List Insn) (s : List Nat) (hs : s ≠ []) (hl : ∀ x ∈ s, x < l.length) : topN l s 0 = l[s.getLast hs]? := by
  have h0 : 0 < s.length := List.length_pos_iff.2 hs
  unfold topN
  rw [Nat.sub_zero, List.getElem?_eq_getElem (by omega)]
  simp only [Option.bind_some, h0, if_true]
  rw [List.getLast_eq_getElem]

end Go.Proofs.Ytchdmpipfmedaaa
