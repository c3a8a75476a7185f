/-
  Free names: what 'meet' and 'gatherBound' come to; the two rows of names that lie in memory.
-/
import Derived.Test.YtonlhimfaffbgaaQlZ7
import Derived.Test.YtonlhimfaffbgaaQlZ5
namespace Go.Proofs.Ytonlhimfaffbgaa
open Go.RowKit
set_option linter.unusedVariables false
set_option linter.unusedSimpArgs false

def bs (s : ByteArray) : List UInt8 := s.data.toList
theorem tk_bs (s : ByteArray) : tk (bs s) = .string s := by cases s; simp [tk, bs]
theorem mk_bs (s : ByteArray) : (⟨(bs s).toArray⟩ : ByteArray) = s := by cases s; simp [bs]

/-- A name that is met: it goes behind the free ones, unless it is bound or there. -/
def meetW (Bd Fr : List (List UInt8)) (x : List UInt8) : List (List UInt8) := if x ∈ Bd ∨ x ∈ Fr then Fr else Fr ++ [x]

theorem two_cells {w : World} {b : Nat} {a0 a1 : Value} {t : TypeId} {fr : Nat × Nat} (h : w.heap[b]? = some (.cells #[a0, a1] t fr)) : w.cell? ⟨b, 0, none⟩ = some a0 ∧ w.cell? ⟨b, 1, none⟩ = some a1 := ⟨row_cell h 0, row_cell h 1⟩

theorem toks_own {base : Nat} {w : World} {v : Value} {P : List (List UInt8)} (h : Toks base w v P) {g : Nat} (hg : v.ownBlock = some g) : base ≤ g ∧ g < w.heap.size := by
  rcases h.2 with ⟨rfl, _⟩ | ⟨g', cap, cur, rfl, hb', hh, _⟩
  · cases hg
  · have e : g' = g := by simpa [Value.ownBlock] using hg
    subst e
    exact ⟨hb', (Array.getElem?_eq_some_iff.1 hh).1⟩

theorem toks_keep {base : Nat} {w w' : World} {v : Value} {P : List (List UInt8)} (h : Toks base w v P) (hk : ∀ g, v.ownBlock = some g → w'.heap[g]? = w.heap[g]?) : Toks base w' v P := by
  refine ⟨h.1, ?_⟩
  rcases h.2 with hn | ⟨g, cap, cur, rfl, hg, hh, r⟩
  · exact Or.inl hn
  · exact Or.inr ⟨g, cap, cur, rfl, hg, (hk g rfl).trans hh, r⟩

theorem toks_form {base : Nat} {w : World} {v : Value} {P : List (List UInt8)} (h : Toks base w v P) : ∃ ao cap, v = .slice ao P.length cap := by
  rcases h.2 with ⟨rfl, hn⟩ | ⟨g, cap, cur, rfl, _⟩
  · exact ⟨none, 0, by rw [hn]⟩
  · exact ⟨_, cap, rfl⟩

theorem toks_grow {base : Nat} {wr : World} {v : Value} {P : List (List UInt8)} (h : Toks base wr v P) (hb : base ≤ wr.heap.size) (N : List (List UInt8)) (hN : 0 < N.length) (hl : P.length + N.length ≤ 1048577) (sb c : Nat)
    (hs : ∀ j u, (N.map tk)[j]? = some u → wr.cell? ⟨sb, 0 + j, none⟩ = some u) :
    ∃ g cap w2, (Builtin.append_ #[41, 41] 41 #[v, .slice (some ⟨sb, 0, none⟩) N.length c]).run Try.prog wr = .ok (.slice (some ⟨g, 0, none⟩) (P.length + N.length) cap) w2 ∧
      Toks base w2 (.slice (some ⟨g, 0, none⟩) (P.length + N.length) cap) (P ++ N) ∧ wr.grownBy w2 v.ownBlock ∧ (v.ownBlock = some g ∨ g = wr.heap.size) ∧ g < w2.heap.size := by
  obtain ⟨i0, hi, hz0, hz1, hz2⟩ := info_parts Try.infoStr
  obtain ⟨g, cap, w2, hrun, hown2, hgrow, hat, hlt⟩ := run_append_lies (P := Try.prog) wr 41 41 base 9 i0 _ 1 16 Try.underlying41 hi hz0 hz1 hz2 rfl (by omega) v P.length _ h
    ⟨sb, 0, none⟩ N.length c (N.map tk) (by simp) (fun j u hu => by have e := hs j u hu; have ea : (⟨sb, 0, none⟩ : Addr).add j = ⟨sb, 0 + j, none⟩ := (by unfold Addr.add; split <;> simp_all); rw [ea]; exact e) (by intro u hu; obtain ⟨l, _, rfl⟩ := List.mem_map.1 hu; rfl)
    hN (by unfold maxLen; omega) (by omega) hb _ rfl
  refine ⟨g, cap, w2, hrun, ?_, hgrow, hat, hlt⟩
  unfold Toks
  rw [List.length_append, List.map_append]
  exact hown2

theorem toks_cut {base : Nat} {w : World} {ao : Option Addr} {n cap : Nat} {P N : List (List UInt8)} (h : Toks base w (.slice ao n cap) (P ++ N)) : Toks base w (.slice ao P.length cap) P ∨ (ao = none ∧ P = []) := by
  rcases h.2 with ⟨e, hn⟩ | ⟨g, cap', cur, e, hg, hh, h1, h2, h3, h4⟩
  · right
    cases e
    rw [List.length_append] at hn
    exact ⟨rfl, List.length_eq_zero_iff.1 (by omega)⟩
  · left
    injection e with e1 e2 e3
    subst e1
    subst e3
    refine ⟨by simp, Or.inr ⟨g, _, cur, rfl, hg, hh, ?_, h2, h3, ?_⟩⟩
    · rw [List.length_append] at h1; omega
    · have := congrArg (List.take (P.length * 1)) h4
      rw [List.take_take, List.map_append] at this
      rw [List.length_append] at this
      rw [Nat.min_eq_left (by omega)] at this
      rw [this, List.take_append_of_le_length (by simp), List.take_of_length_le (by simp)]

theorem below_own {p : Nat} {w w' : World} {r : Option Nat} (h : w.grownBy w' r) (hr : ∀ g, r = some g → p ≤ g) (hp : p ≤ w.heap.size) : Below p w w' :=
  ⟨h.os, h.tape, h.output, h.size, fun k hk => h.block k (by omega) (fun e => by have := hr k e.symm; omega)⟩

theorem toks_le {base base' : Nat} {w : World} {v : Value} {P : List (List UInt8)} (h : Toks base w v P) (hb : base' ≤ base) : Toks base' w v P :=
  ⟨h.1, h.2.elim Or.inl (fun ⟨g, cap, cur, hv, hg, r⟩ => Or.inr ⟨g, cap, cur, hv, Nat.le_trans hb hg, r⟩)⟩

end Go.Proofs.Ytonlhimfaffbgaa

/-
  The binders of a term, and all terms within it, in plain words; what a call leaves that changes no block but a few of its own.
-/
namespace Go.Proofs.Ytonlhimfaffbgaa
open Go.RowKit
set_option linter.unusedVariables false
set_option linter.unusedSimpArgs false

/-- The names that a term binds itself. -/
def ownB (t : Tm) : List (List UInt8) := if t.K = 4 ∨ t.K = 6 ∨ t.K = 7 ∨ t.K = 17 then [bs t.S] else if t.K = 14 then [bs t.S, bs t.Z] else []

/-- The names of all binders, from the front. -/
def bndW (t : Tm) : List (List UInt8) := ((allW t).map ownB).flatten
def bndT (t : Tm) : List (List UInt8) := if okM t = true then bndW t else []

theorem ownB_len (t : Tm) : (ownB t).length ≤ 2 := by
  unfold ownB
  split
  · simp
  · split <;> simp

theorem binds_len : ∀ (l : List Tm), ((l.map ownB).flatten).length ≤ 2 * l.length := by
  intro l
  induction l with
  | nil => simp
  | cons t l ih =>
    have := ownB_len t
    simp only [List.map_cons, List.flatten_cons, List.length_append, List.length_cons]
    omega

theorem bndT_len (t : Tm) : (bndT t).length ≤ 300 := by
  unfold bndT
  split
  · rename_i h
    obtain ⟨m, hm, h6⟩ := okM_some h
    have h1 := allW_len 24 t m hm
    have h2 := binds_len (allW t)
    unfold bndW
    omega
  · simp

end Go.Proofs.Ytonlhimfaffbgaa

/-
  The functions of a term, in plain words.
-/
namespace Go.Proofs.Ytonlhimfaffbgaa
open Go.RowKit
set_option linter.unusedVariables false
set_option linter.unusedSimpArgs false

def isFn (t : Tm) : Bool := t.K == 4
/-- The functions of a term, from the front. -/
def lamT (t : Tm) : List Tm := if okM t = true then (allW t).filter isFn else []
theorem lamT_len (t : Tm) : (lamT t).length ≤ 150 := by
  unfold lamT
  split
  · rename_i h
    obtain ⟨m, hm, h6⟩ := okM_some h
    have h1 := allW_len 24 t m hm
    have h2 := List.length_filter_le isFn (allW t)
    omega
  · simp

theorem Fm.deeperM {L B : Nat} {w : World} {D d d' : Nat} {t : Tm} {a1 a2 a3 : Option Addr} {l1 l2 l3 : Nat} (hd : d ≤ d') (h : Fm L B w D d t a1 l1 a2 l2 a3 l3) : Fm L B w D d' t a1 l1 a2 l2 a3 l3 :=
  h.wider (fun _ _ _ hr => hr) (fun _ _ _ hr => hr.deeper hd (Nat.le_refl _))

end Go.Proofs.Ytonlhimfaffbgaa
