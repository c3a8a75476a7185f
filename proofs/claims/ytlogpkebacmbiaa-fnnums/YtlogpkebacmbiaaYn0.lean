/-
  Numbers as bytes, plainly: the number that stands for another, its groups of seven bits.
-/
import Derived.Test.YtlogpkebacmbiaaYb3
namespace Go.Proofs.Ytlogpkebacmbiaa
open Go.RowKit
set_option linter.unusedVariables false
set_option linter.unusedSimpArgs false

/-- A number that is beyond 10^9 counts as that. -/
def cla (n : Int) : Int := if n < -1000000000 then -1000000000 else if 1000000000 < n then 1000000000 else n
theorem cla_lo (n : Int) : -1000000000 ≤ cla n := by unfold cla; split <;> (try split) <;> omega
theorem cla_hi (n : Int) : cla n ≤ 1000000000 := by unfold cla; split <;> (try split) <;> omega
/-- The number that is put. -/
def zig (n : Int) : Nat := if cla n < 0 then (-2 * cla n - 1).toNat else (2 * cla n).toNat
theorem zig_neg {n : Int} (h : cla n < 0) : (zig n : Int) = -2 * cla n - 1 := by unfold zig; rw [if_pos h]; omega
theorem zig_pos {n : Int} (h : ¬ cla n < 0) : (zig n : Int) = 2 * cla n := by unfold zig; rw [if_neg h]; omega
theorem zig_le (n : Int) : zig n ≤ 2000000000 := by
  have := cla_lo n
  have := cla_hi n
  unfold zig
  split <;> omega

/-- Groups of seven bits, the lowest first, 128 added but for the last. -/
def grp (m : Nat) : List Int := if h : m < 128 then [(m : Int)] else ((m % 128 + 128 : Nat) : Int) :: grp (m / 128)
termination_by m
decreasing_by omega
theorem grp_last {m : Nat} (h : m < 128) : grp m = [(m : Int)] := by rw [grp, dif_pos h]
theorem grp_more {m : Nat} (h : 128 ≤ m) : grp m = ((m % 128 + 128 : Nat) : Int) :: grp (m / 128) := by rw [grp, dif_neg (by omega)]
theorem grp_len : ∀ (k m : Nat), m < 128 ^ (k + 1) → (grp m).length ≤ k + 1
  | 0, m, h => by rw [grp_last (by simpa using h)]; simp
  | k + 1, m, h => by
    by_cases hm : m < 128
    · rw [grp_last hm]; simp
    · rw [grp_more (by omega), List.length_cons]
      have := grp_len k (m / 128) (by rw [Nat.pow_succ] at h; omega)
      omega
def put (n : Int) : List Int := grp (zig n)
theorem put_len (n : Int) : (put n).length ≤ 5 := by
  have := zig_le n
  exact grp_len 4 _ (by have : (128 : Nat) ^ (4 + 1) = 34359738368 := by decide
                        omega)
theorem grp_pos (m : Nat) : 0 < (grp m).length := by
  by_cases h : m < 128
  · rw [grp_last h]; simp
  · rw [grp_more (by omega)]; simp

/-- What the loop knows: of these groups R have been put, m is left. -/
structure Grp (n : Int) (R : List Int) (m : Nat) : Prop where
  eq : R ++ grp m = put n
  le : m ≤ 2000000000
theorem Grp.start (n : Int) : Grp n [] (zig n) := ⟨rfl, zig_le n⟩
theorem Grp.next {n : Int} {R : List Int} {m : Nat} (h : Grp n R m) (hm : 128 ≤ m) : Grp n (R ++ [((m % 128 + 128 : Nat) : Int)]) (m / 128) :=
  ⟨by rw [List.append_assoc, ← h.eq, grp_more hm]; rfl, by have := h.le; omega⟩
theorem Grp.fin {n : Int} {R : List Int} {m : Nat} (h : Grp n R m) (hm : m < 128) : R ++ [(m : Int)] = put n := by rw [← h.eq, grp_last hm]
theorem Grp.len {n : Int} {R : List Int} {m : Nat} (h : Grp n R m) : R.length ≤ 4 := by
  have h1 := put_len n
  rw [← h.eq, List.length_append] at h1
  have := grp_pos m
  omega

theorem byts_none {base : Nat} {w : World} {g : Nat} (hh : w.heap[g]? = some (.cells #[] 5 (0, 0))) (hg : base ≤ g) : Byts base w (.slice (some ⟨g, 0, none⟩) 0 0) [] :=
  ⟨by simp, Or.inr ⟨g, 0, #[], rfl, hg, hh, by simp, by simp, by simp, by simp⟩⟩
theorem byts_nil (base : Nat) (w : World) : Byts base w (.slice none 0 0) [] := ⟨by simp, Or.inl ⟨rfl, rfl⟩⟩
theorem byts_bs {base : Nat} {w : World} {ao : Option Addr} {n cap : Nat} {P : List Int} (h : Byts base w (.slice ao n cap) P) (hl : P.length ≤ 9223372036854775807) : Bs base w.heap.size w ao n P := by
  obtain ⟨a2, c2, e⟩ := byts_form h
  injection e with e1 e2 e3
  subst e2
  refine ⟨rfl, hl, fun i hi => ?_⟩
  obtain ⟨g, cap', e, hg, hlt, hc⟩ := byts_at h i hi
  injection e with e1 _ _
  exact ⟨g, 0, e1, hg, hlt, hc⟩

end Go.Proofs.Ytlogpkebacmbiaa
