/-
  Free names in the model: 'l2Binds'.
-/
import Derived.Test.YtonlhimfaffbgaaQlLf0
import Derived.Test.YtonlhimfaffbgaaQlZ8
import Derived.Test.YtonlhimfaffbgaaQlZ5
import Derived.Deep.RegionHeld3
import Derived.Deep.RegionLaw
import Derived.Sort.AtCall
import Derived.LoopN
namespace Go.Proofs.Ytonlhimfaffbgaa
open Go.RowKit
set_option linter.unusedVariables false
set_option linter.unusedSimpArgs false

/-- A slice literal of names: a block of its own. -/
def LitE (w w' : World) (e : Ending) (N : List (List UInt8)) : Prop := ∃ g, e = .returned (.slice (some ⟨g, 0, none⟩) N.length N.length) ∧ Below w.heap.size w w' ∧ w.heap.size ≤ g ∧ w'.heap[g]? = some (.cells (N.map tk).toArray 9 (0, 0))

theorem lit_0 (w : World) (o : Obj) : LitE w ((w.alloc o).alloc (.cells #[] 9)) (.returned (.slice (some ⟨w.heap.size + 1, 0, none⟩) 0 0)) [] :=
  ⟨_, rfl, ((Below.refl _ _).alloc (Nat.le_refl _) _).alloc (by simp) _, by omega, heap_new (by simp)⟩
theorem lit_1 (w : World) (o : Obj) (s : ByteArray) : LitE w ((w.alloc o).alloc (.cells #[.string s] 9)) (.returned (.slice (some ⟨w.heap.size + 1, 0, none⟩) 1 1)) [bs s] :=
  ⟨_, rfl, ((Below.refl _ _).alloc (Nat.le_refl _) _).alloc (by simp) _, by omega, by rw [heap_new (by simp)]; simp [tk_bs]⟩
theorem lit_2 (w : World) (o : Obj) (s z : ByteArray) : LitE w ((w.alloc o).alloc (.cells #[.string s, .string z] 9)) (.returned (.slice (some ⟨w.heap.size + 1, 0, none⟩) 2 2)) [bs s, bs z] :=
  ⟨_, rfl, ((Below.refl _ _).alloc (Nat.le_refl _) _).alloc (by simp) _, by omega, by rw [heap_new (by simp)]; simp [tk_bs]⟩

end Go.Proofs.Ytonlhimfaffbgaa

/-
  Free names: 'gatherBound', and free names in plain words.
-/
namespace Go.Proofs.Ytonlhimfaffbgaa
open Go.RowKit
set_option linter.unusedVariables false
set_option linter.unusedSimpArgs false

/-- The names that a term binds in its i-th part. -/
def bindsW (k : Int) (s z : List UInt8) (i : Nat) : List (List UInt8) := if k = 4 ∨ k = 7 ∨ (k = 6 ∧ i = 1) ∨ (k = 17 ∧ i = 1) then [s] else if k = 14 ∧ i = 2 then [s, z] else []

def freeF (f : Tm → List (List UInt8) → List (List UInt8) → List (List UInt8)) (k : Int) (s z : List UInt8) : Nat → List Tm → List (List UInt8) → List (List UInt8) → List (List UInt8)
  | _, [], _, Fr => Fr
  | i, t :: ts, Bd, Fr => freeF f k s z (i + 1) ts Bd (f t (Bd ++ bindsW k s z i) Fr)

/-- The free names of a term behind those that are there. -/
def freeW : Nat → Tm → List (List UInt8) → List (List UInt8) → List (List UInt8)
  | 0, _, _, Fr => Fr
  | l + 1, t, Bd, Fr => freeF (freeW l) t.K (bs t.S) (bs t.Z) 0 t.A Bd (if t.K = 3 then meetW Bd Fr (bs t.S) else Fr)

theorem meetW_len (Bd Fr : List (List UInt8)) (x : List UInt8) : (meetW Bd Fr x).length ≤ Fr.length + 1 := by
  unfold meetW; split <;> simp

theorem freeF_len {f : Tm → List (List UInt8) → List (List UInt8) → List (List UInt8)} {g : Tm → Option Nat} (hf : ∀ t m Bd Fr, g t = some m → (f t Bd Fr).length ≤ Fr.length + m) (k : Int) (s z : List UInt8) : ∀ (ts : List Tm) (i : Nat) (Bd Fr : List (List UInt8)) (m : Nat), nodesG g ts = some m → (freeF f k s z i ts Bd Fr).length ≤ Fr.length + m := by
  intro ts
  induction ts with
  | nil => intro i Bd Fr m h; simp [freeF]
  | cons t ts ih =>
    intro i Bd Fr m h
    simp only [nodesG] at h
    cases ht : g t with
    | none => simp [ht] at h
    | some a =>
      cases hz : nodesG g ts with
      | none => simp [ht, hz] at h
      | some b =>
        simp [ht, hz] at h
        have h1 := hf t a (Bd ++ bindsW k s z i) Fr ht
        have h2 := ih (i + 1) Bd (f t (Bd ++ bindsW k s z i) Fr) b hz
        simp only [freeF]
        omega

theorem freeW_len : ∀ (l : Nat) (t : Tm) (m : Nat) (Bd Fr : List (List UInt8)), nodesM l t = some m → (freeW l t Bd Fr).length ≤ Fr.length + m := by
  intro l
  induction l with
  | zero => intro t m Bd Fr h; simp [nodesM] at h
  | succ l ih =>
    intro t m Bd Fr h
    have hn := (nodesM_inv h).1
    simp only [nodesM, hn, if_true] at h
    cases hz : nodesG (nodesM l) t.A with
    | none => simp [hz] at h
    | some b =>
      simp [hz] at h
      have h1 := freeF_len (f := freeW l) (g := nodesM l) (fun t m Bd Fr h => ih t m Bd Fr h) t.K (bs t.S) (bs t.Z) t.A 0 Bd (if t.K = 3 then meetW Bd Fr (bs t.S) else Fr) b hz
      have h2 : (if t.K = 3 then meetW Bd Fr (bs t.S) else Fr).length ≤ Fr.length + 1 := by
        split
        · exact meetW_len _ _ _
        · omega
      simp only [freeW]
      omega

end Go.Proofs.Ytonlhimfaffbgaa

/-
  Free names in the model: 'l2Free'.
-/
namespace Go.Proofs.Ytonlhimfaffbgaa
open Go.RowKit
set_option linter.unusedVariables false
set_option linter.unusedSimpArgs false


theorem freeF_snoc (f : Tm → List (List UInt8) → List (List UInt8) → List (List UInt8)) (k : Int) (s z : List UInt8) (x : Tm) (Bd : List (List UInt8)) : ∀ (xs : List Tm) (i : Nat) (Fr : List (List UInt8)), freeF f k s z i (xs ++ [x]) Bd Fr = f x (Bd ++ bindsW k s z (i + xs.length)) (freeF f k s z i xs Bd Fr) := by
  intro xs
  induction xs with
  | nil => intro i Fr; rfl
  | cons y xs ih =>
    intro i Fr
    show freeF f k s z (i + 1) (xs ++ [x]) Bd _ = _
    rw [ih]
    have e : i + 1 + xs.length = i + (y :: xs).length := by simp; omega
    rw [e]
    rfl

theorem app_none {base : Nat} {w : World} {v : Value} {P : List (List UInt8)} (h : Toks base w v P) (xo : Option Addr) (c : Nat) : (Builtin.append_ #[41, 41] 41 #[v, .slice xo 0 c]).run Try.prog w = .ok v w := by
  obtain ⟨i0, hi, hz0, hz1, hz2⟩ := info_parts Try.infoStr
  rcases h.2 with ⟨rfl, hn⟩ | ⟨g, cap, cur, rfl, _, _, hnc, _⟩
  · cases xo <;> simp [Builtin.append_, run_underlying Try.underlying41, sizeOf, typeInfo, hi, Builtin.lenOf, Builtin.firstCells, loadCells, loadCellsFrom]
  · cases xo <;> simp [Builtin.append_, run_underlying Try.underlying41, sizeOf, typeInfo, hi, Builtin.lenOf, Builtin.firstCells, hnc, storeCells, loadCells, loadCellsFrom]

/-- A row behind a row: whatever is appended lies in a row of names, or is none. -/
theorem toks_join {base : Nat} {wr : World} {v : Value} {P : List (List UInt8)} (h : Toks base wr v P) (hb : base ≤ wr.heap.size) (N : List (List UInt8)) (hl : P.length + N.length ≤ 1048577) (xo : Option Addr) (c : Nat)
    (hs : 0 < N.length → ∃ sb, xo = some ⟨sb, 0, none⟩ ∧ ∀ j u, (N.map tk)[j]? = some u → wr.cell? ⟨sb, 0 + j, none⟩ = some u) :
    ∃ v' w2, (Builtin.append_ #[41, 41] 41 #[v, .slice xo N.length c]).run Try.prog wr = .ok v' w2 ∧ Toks base w2 v' (P ++ N) ∧ wr.grownBy w2 v.ownBlock ∧ (∀ k, v'.ownBlock = some k → v.ownBlock = some k ∨ k = wr.heap.size) := by
  by_cases hN : 0 < N.length
  · obtain ⟨sb, rfl, hc⟩ := hs hN
    obtain ⟨g, cap, w2, hrun, hT, hg, hat, _⟩ := toks_grow h hb N hN hl sb c hc
    refine ⟨_, w2, hrun, by rw [← List.length_append]  at hT; simpa using hT, hg, fun k hk => ?_⟩
    have e : g = k := by simpa [Value.ownBlock] using hk
    subst e
    exact hat
  · have e : N = [] := List.length_eq_zero_iff.1 (by omega)
    subst e
    exact ⟨v, wr, app_none h xo c, by simpa using h, ⟨rfl, rfl, rfl, Nat.le_refl _, fun _ _ _ => rfl⟩, fun k hk => Or.inl hk⟩

theorem toks_src {base : Nat} {w : World} {ao : Option Addr} {cap : Nat} {P : List (List UInt8)} (h : Toks base w (.slice ao P.length cap) P) (hp : 0 < P.length) : ∃ sb, ao = some ⟨sb, 0, none⟩ ∧ ∀ j u, (P.map tk)[j]? = some u → w.cell? ⟨sb, 0 + j, none⟩ = some u := by
  obtain ⟨g, cp, e, _, _, _⟩ := toks_at h 0 hp
  injection e with e1 e2 e3
  subst e1
  refine ⟨g, rfl, fun j u hu => ?_⟩
  have hj : j < P.length := by have := (List.getElem?_eq_some_iff.1 hu).1; simpa using this
  obtain ⟨g', cp', e', _, _, hc⟩ := toks_at h j hj
  injection e' with e1 e2 e3
  injection e1 with e1
  injection e1 with e1
  subst e1
  rw [hc]
  have : (P.map tk)[j]? = some (tk P[j]) := by simp [hj]
  rw [← this, hu]

/-- The row has grown, and nothing else has changed. -/
theorem ko_grown {vo : Value} {w W w2 : World} {g n cap : Nat} (hW : Below w.heap.size w W) (hg : W.grownBy w2 vo.ownBlock) (hat : vo.ownBlock = some g ∨ g = W.heap.size) : Ko vo w (.slice (some ⟨g, 0, none⟩) n cap) w2 := by
  have hz := hW.size
  refine ⟨hg.os.trans hW.os, hg.tape.trans hW.tape, hg.output.trans hW.output, Nat.le_trans hW.size hg.size, fun k hk hne => (hg.block k (by omega) (fun e => hne e.symm)).trans (hW.block k hk), fun k hk => ?_⟩
  have e : g = k := by simpa [Value.ownBlock] using hk
  subst e
  rcases hat with e | e
  · exact Or.inl e
  · exact Or.inr (by omega)

end Go.Proofs.Ytonlhimfaffbgaa
