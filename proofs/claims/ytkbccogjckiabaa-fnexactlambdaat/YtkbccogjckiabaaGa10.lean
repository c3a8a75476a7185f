/-
  Free names: 'gatherBound', and free names in plain words.
-/
import Derived.Test.YtkbccogjckiabaaGa00
import Derived.Test.YtkbccogjckiabaaFo0
namespace Go.Proofs.Ytkbccogjckiabaa
open Go.RowKit
set_option linter.unusedVariables false
set_option linter.unusedSimpArgs false

/-- The names that a term binds in its i-th part. -/
def bindsW (k : Int) (s z : List UInt8) (i : Nat) : List (List UInt8) := if k = 4 ∨ k = 7 ∨ (k = 6 ∧ i = 1) ∨ (k = 17 ∧ i = 1) then [s] else if k = 14 ∧ i = 2 then [s, z] else []

def freeF (f : Tm → List (List UInt8) → List (List UInt8) → List (List UInt8)) (k : Int) (s z : List UInt8) : Nat → List Tm → List (List UInt8) → List (List UInt8) → List (List UInt8)
  | _, [], _, Fr => Fr
  | i, t :: ts, Bd, Fr => freeF f k s z (i + 1) ts Bd (f t (Bd ++ bindsW k s z i) Fr)

/-- The free names of a term behind those that are there. -/
def freeW : Nat → Tm → List (List UInt8) → List (List UInt8) → List (List UInt8)
  | 0, _, _, Fr => Fr
  | l + 1, t, Bd, Fr => freeF (freeW l) t.K (bs t.S) (bs t.Z) 0 t.A Bd (if t.K = 3 then meetW Bd Fr (bs t.S) else Fr)

theorem meetW_len (Bd Fr : List (List UInt8)) (x : List UInt8) : (meetW Bd Fr x).length ≤ Fr.length + 1 := by
  unfold meetW; split <;> simp

theorem freeF_len {f : Tm → List (List UInt8) → List (List UInt8) → List (List UInt8)} {g : Tm → Option Nat} (hf : ∀ t m Bd Fr, g t = some m → (f t Bd Fr).length ≤ Fr.length + m) (k : Int) (s z : List UInt8) : ∀ (ts : List Tm) (i : Nat) (Bd Fr : List (List UInt8)) (m : Nat), nodesG g ts = some m → (freeF f k s z i ts Bd Fr).length ≤ Fr.length + m := by
  intro ts
  induction ts with
  | nil => intro i Bd Fr m h; simp [freeF]
  | cons t ts ih =>
    intro i Bd Fr m h
    simp only [nodesG] at h
    cases ht : g t with
    | none => simp [ht] at h
    | some a =>
      cases hz : nodesG g ts with
      | none => simp [ht, hz] at h
      | some b =>
        simp [ht, hz] at h
        have h1 := hf t a (Bd ++ bindsW k s z i) Fr ht
        have h2 := ih (i + 1) Bd (f t (Bd ++ bindsW k s z i) Fr) b hz
        simp only [freeF]
        omega

theorem freeW_len : ∀ (l : Nat) (t : Tm) (m : Nat) (Bd Fr : List (List UInt8)), nodesM l t = some m → (freeW l t Bd Fr).length ≤ Fr.length + m := by
  intro l
  induction l with
  | zero => intro t m Bd Fr h; simp [nodesM] at h
  | succ l ih =>
    intro t m Bd Fr h
    have hn := (nodesM_inv h).1
    simp only [nodesM, hn, if_true] at h
    cases hz : nodesG (nodesM l) t.A with
    | none => simp [hz] at h
    | some b =>
      simp [hz] at h
      have h1 := freeF_len (f := freeW l) (g := nodesM l) (fun t m Bd Fr h => ih t m Bd Fr h) t.K (bs t.S) (bs t.Z) t.A 0 Bd (if t.K = 3 then meetW Bd Fr (bs t.S) else Fr) b hz
      have h2 : (if t.K = 3 then meetW Bd Fr (bs t.S) else Fr).length ≤ Fr.length + 1 := by
        split
        · exact meetW_len _ _ _
        · omega
      simp only [freeW]
      omega

end Go.Proofs.Ytkbccogjckiabaa
