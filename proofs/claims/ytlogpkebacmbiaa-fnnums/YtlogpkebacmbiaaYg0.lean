/-
  Numbers read off bytes, plainly.
-/
import Derived.Test.YtlogpkebacmbiaaYn0
namespace Go.Proofs.Ytlogpkebacmbiaa
open Go.RowKit
set_option linter.unusedVariables false
set_option linter.unusedSimpArgs false

/-- The place of the last group: the first byte below 128. -/
def idxG : List Int → Option Nat
  | [] => none
  | c :: cs => if c < 128 then some 0 else (idxG cs).map (· + 1)
theorem idxG_some : ∀ (g : List Int) (k : Nat) (hk : k < g.length), (∀ i (h : i < k), 128 ≤ g[i]) → g[k] < 128 → idxG g = some k
  | [], k, hk, _, _ => by simp at hk
  | c :: cs, 0, hk, _, h => by
    have h' : c < 128 := by simpa using h
    simp [idxG, h']
  | c :: cs, k + 1, hk, h1, h2 => by
    have hc : ¬ c < 128 := by have := h1 0 (by omega); simp at this; omega
    rw [idxG, if_neg hc, idxG_some cs k (by simpa using hk) (fun i hi => by have := h1 (i + 1) (by omega); simpa using this) (by simpa using h2)]
    rfl
theorem idxG_none : ∀ (g : List Int), (∀ i (h : i < g.length), 128 ≤ g[i]) → idxG g = none
  | [], _ => rfl
  | c :: cs, h => by
    have hc : ¬ c < 128 := by have := h 0 (by simp); simp at this; omega
    rw [idxG, if_neg hc, idxG_none cs (fun i hi => by have := h (i + 1) (by simpa using hi); simpa using this)]
    rfl
theorem idxG_lt : ∀ (g : List Int) (k : Nat), idxG g = some k → ∃ hk : k < g.length, (∀ i (h : i < k), 128 ≤ g[i]) ∧ g[k] < 128
  | [], k, h => by simp [idxG] at h
  | c :: cs, k, h => by
    by_cases hc : c < 128
    · rw [idxG, if_pos hc] at h
      injection h with h
      subst h
      exact ⟨by simp, fun i hi => by omega, by simpa using hc⟩
    · rw [idxG, if_neg hc] at h
      obtain ⟨j, hj, rfl⟩ := Option.map_eq_some_iff.1 h
      obtain ⟨h1, h2, h3⟩ := idxG_lt cs j hj
      refine ⟨by simpa using h1, fun i hi => ?_, by simpa using h3⟩
      cases i with
      | zero => simp; omega
      | succ i => simpa using h2 i (by omega)

/-- What the groups come to. -/
def valG : List Int → Nat
  | [] => 0
  | c :: cs => (c % 128).toNat + 128 * valG cs
theorem valG_snoc : ∀ (p : List Int) (c : Int), valG (p ++ [c]) = valG p + (c % 128).toNat * 128 ^ p.length
  | [], c => by simp [valG]
  | d :: p, c => by
    rw [List.cons_append, valG, valG_snoc p c, valG, List.length_cons, Nat.pow_succ, Nat.mul_add, Nat.add_assoc, ← Nat.mul_assoc, Nat.mul_comm 128, Nat.mul_assoc, Nat.mul_comm 128, Nat.mul_assoc]
theorem valG_lt : ∀ (p : List Int), valG p < 128 ^ p.length
  | [] => by simp [valG]
  | c :: p => by
    have := valG_lt p
    rw [valG, List.length_cons, Nat.pow_succ]
    have : (c % 128).toNat < 128 := by omega
    omega
theorem valG_take (g : List Int) (j : Nat) (hj : j < g.length) : valG (g.take (j + 1)) = valG (g.take j) + (g[j] % 128).toNat * 128 ^ j := by
  rw [← List.take_append_getElem hj, valG_snoc, List.length_take, Nat.min_eq_left (by omega)]

/-- The number that another stands for. -/
def sgn (m : Nat) : Int := if m % 2 = 1 then -(((m + 1) / 2 : Nat) : Int) else ((m / 2 : Nat) : Int)

/-- GetNum: of these groups (those of the first five bytes), at this place. -/
def getN (g : List Int) (p : Int) : Int × Int × Bool :=
  match idxG g with
  | none => (0, 0, false)
  | some k => if (0 < k ∧ g.getD k 0 = 0) ∨ sgn (valG (g.take (k + 1))) < -1000000000 ∨ 1000000000 < sgn (valG (g.take (k + 1))) then (0, 0, false) else (sgn (valG (g.take (k + 1))), p + k + 1, true)
def getV (r : Int × Int × Bool) : Value := .tuple #[.int .i64 r.1, .int .i64 r.2.1, .bool r.2.2]
/-- The groups at a place. -/
def grpAt (l : List Int) (p : Int) : List Int := if p < 0 ∨ (l.length : Int) < p then [] else (l.drop p.toNat).take 5
theorem grpAt_in {l : List Int} {p : Int} (h0 : 0 ≤ p) (h1 : p ≤ l.length) : grpAt l p = (l.drop p.toNat).take 5 := by unfold grpAt; rw [if_neg (by omega)]
theorem grpAt_out {l : List Int} {p : Int} (h : p < 0 ∨ (l.length : Int) ≤ p) : grpAt l p = [] := by
  unfold grpAt
  split
  · rfl
  · rw [List.drop_eq_nil_of_le (by omega)]; rfl
theorem getN_nil (p : Int) : getN [] p = (0, 0, false) := rfl
theorem getN_none {g : List Int} (p : Int) (h : idxG g = none) : getN g p = (0, 0, false) := by unfold getN; rw [h]
theorem getN_bad {g : List Int} (p : Int) {k : Nat} (h : idxG g = some k) (hb : (0 < k ∧ g.getD k 0 = 0) ∨ sgn (valG (g.take (k + 1))) < -1000000000 ∨ 1000000000 < sgn (valG (g.take (k + 1)))) : getN g p = (0, 0, false) := by
  unfold getN; rw [h]; simp only; rw [if_pos hb]
theorem getN_good {g : List Int} (p : Int) {k : Nat} (h : idxG g = some k) (hb : ¬ ((0 < k ∧ g.getD k 0 = 0) ∨ sgn (valG (g.take (k + 1))) < -1000000000 ∨ 1000000000 < sgn (valG (g.take (k + 1))))) : getN g p = (sgn (valG (g.take (k + 1))), p + k + 1, true) := by
  unfold getN; rw [h]; simp only; rw [if_neg hb]

end Go.Proofs.Ytlogpkebacmbiaa
