/-
  What the program's 'Collect' knows in its first loop: the places, and the words that are kept. No walk, no statement.
-/
import Derived.Test.YtapamdjoipofmaaDoorFcdZ20
import Derived.Test.YtapamdjoipofmaaDoorFcdZ18
import Derived.Test.YtapamdjoipofmaaDoorFcdZ16
namespace Go.Proofs.YtapamdjoipofmaaDoor
open Go.RowKit Go.Shelf
set_option linter.unusedVariables false
set_option linter.unusedSimpArgs false

/-- The places, as they are noted one after the other. -/
def plsF (l : List Wrd) : List Nat → List Int × Nat → List Int × Nat
  | [], a => a
  | p :: ps, a => plsF l ps (a.1.set p (a.2 : Int), a.2 + ((ob l p).getD 0 + 1))
def pls (len : Nat) (l : List Wrd) (ps : List Nat) : List Int := (plsF l ps (List.replicate len 0, 0)).1
theorem plsF_app (l : List Wrd) : ∀ (ps qs : List Nat) (a : List Int × Nat), plsF l (ps ++ qs) a = plsF l qs (plsF l ps a)
  | [], qs, a => rfl
  | p :: ps, qs, a => plsF_app l ps qs _
theorem plsF_snd (l : List Wrd) : ∀ (ps : List Nat) (a : List Int × Nat), (plsF l ps a).2 = a.2 + wrds l ps
  | [], a => rfl
  | p :: ps, a => by
    show (plsF l ps _).2 = _
    rw [plsF_snd l ps]
    simp only [wrds, List.map_cons, List.sum_cons]
    omega
theorem plsF_len (l : List Wrd) : ∀ (ps : List Nat) (a : List Int × Nat), (plsF l ps a).1.length = a.1.length
  | [], a => rfl
  | p :: ps, a => by
    show (plsF l ps _).1.length = _
    rw [plsF_len l ps]
    simp
theorem pls_len (len : Nat) (l : List Wrd) (ps : List Nat) : (pls len l ps).length = len := by unfold pls; rw [plsF_len]; simp
theorem pls_nil (len : Nat) (l : List Wrd) : pls len l [] = List.replicate len 0 := rfl
theorem pls_snoc (len : Nat) (l : List Wrd) (ps : List Nat) (p : Nat) : pls len l (ps ++ [p]) = (pls len l ps).set p (wrds l ps : Int) := by
  unfold pls
  rw [plsF_app]
  show (plsF l ps _).1.set p ((plsF l ps _).2 : Int) = _
  rw [plsF_snd]
  simp
/-- At places that differ each is noted as it lies. -/
theorem pls_get (len : Nat) (l : List Wrd) : ∀ {ps : List Nat}, ps.Nodup → ∀ {p : Nat}, p ∈ ps → p < len → (pls len l ps)[p]? = some (offN l ps p : Int) := by
  intro ps
  induction hn : ps.length generalizing ps with
  | zero => intro _ p hp; rw [List.length_eq_zero_iff.1 hn] at hp; cases hp
  | succ n ih =>
    intro hd p hp hl
    obtain ⟨qs, q, rfl⟩ : ∃ qs q, ps = qs ++ [q] := ⟨ps.dropLast, ps.getLast (by intro e; rw [e] at hn; cases hn), (List.dropLast_concat_getLast _).symm⟩
    have hq : q ∉ qs := fun h => by
      have := (List.nodup_append.1 hd).2.2 q h q (by simp)
      exact this rfl
    rw [pls_snoc, List.getElem?_set]
    by_cases e : q = p
    · subst e
      rw [if_pos rfl, if_pos (by rw [pls_len]; exact hl), offN_new hq]
    · rw [if_neg e]
      have hp2 : p ∈ qs := by
        rcases List.mem_append.1 hp with h | h
        · exact h
        · rw [List.mem_singleton] at h; exact absurd h.symm e
      rw [ih (by simpa using hn) (List.nodup_append.1 hd).1 hp2 hl, offN_old hp2]
theorem mvP_mvW {len : Nat} {l : List Wrd} {ps : List Nat} (hd : ps.Nodup) {x : Wrd} (hx : x.K = 4 → x.N.toNat ∈ ps ∧ x.N.toNat < len) : mvP (pls len l ps) x = mvW l ps x := by
  unfold mvP mvW
  by_cases hk : x.K = 4
  · rw [if_pos hk, if_pos hk, List.getD_eq_getElem?_getD, pls_get len l hd (hx hk).1 (hx hk).2]
    rfl
  · rw [if_neg hk, if_neg hk]

/-- The places of objects. -/
def plo {l : List Wrd} (pre : List (OB l)) : List Nat := pre.map (·.1.1)
theorem plo_snoc {l : List Wrd} (pre : List (OB l)) (x : OB l) : plo (pre ++ [x]) = plo pre ++ [x.1.1] := by simp [plo]
theorem plo_ob {l : List Wrd} (pre : List (OB l)) : ∀ p ∈ plo pre, ∃ c, ob l p = some c := by
  intro p hp
  obtain ⟨x, _, rfl⟩ := List.mem_map.1 hp
  exact ⟨_, x.2⟩
theorem plo_end {l : List Wrd} {pre : List (OB l)} {ps : List Nat} (h : prs pre = ps.map (objL l)) : plo pre = ps := by
  have := congrArg (List.map Prod.fst) h
  rw [List.map_map] at this
  unfold prs at this
  rw [List.map_map] at this
  have e : ps.map (Prod.fst ∘ objL l) = ps := by
    rw [show (Prod.fst ∘ objL l) = id from rfl]
    simp
  rw [e] at this
  exact this
theorem plo_wrds {l : List Wrd} (pre : List (OB l)) : wrds l (plo pre) ≤ 100 * pre.length := by
  induction pre with
  | nil => exact Nat.zero_le _
  | cons x pre ih =>
    have h1 := cntH_le (ob_some x.2).2.1
    simp only [plo, wrds, List.map_cons, List.sum_cons, List.length_cons, x.2, Option.getD_some] at *
    omega

/-- The block of the row that a box holds. -/
def ownB (b : Nat) (W : World) : Option Nat := (W.cell? ⟨b, 0, none⟩).bind Value.ownBlock
theorem ownB_of {b : Nat} {A B : World} (h : B.heap[b]? = A.heap[b]?) : ownB b B = ownB b A := by
  unfold ownB
  rw [World.cell?_of_block h]
theorem ownB_is {b : Nat} {W : World} {v : Value} {t : TypeId} (h : Blk W b t #[v]) : ownB b W = v.ownBlock := by
  unfold ownB
  rw [row_cell (show W.heap[b]? = _ from h) 0]
  rfl

/-- Between two objects: the row that is kept, the places. -/
structure Cl (W0 W : World) (b8 gp len : Nat) (l : List Wrd) (ps : List Nat) (va : Option Addr) (vn vcp : Nat) : Prop where
  box : Blk W b8 24 #[.slice va vn vcp]
  len_ : vn = (rawC l ps).length
  kept : Wors W0.heap.size W (.slice va vn vcp) (rawC l ps)
  pl : Nums gp W (.slice (some ⟨gp, 0, none⟩) len len) (pls len l ps)
  oth : Oth [gp, b8] W0 W

theorem heap_row {W W' : World} {row : Option Nat} (hg : W.grownBy W' row) (hr : ∀ r, row = some r → ∃ o : Obj, W.heap[r]? = some o ∧ o.isCells = false) {k : Nat} {c : Array Value} {t : TypeId} {fr : Nat × Nat} (hk : W.heap[k]? = some (.cells c t fr)) : W'.heap[k]? = W.heap[k]? :=
  hg.block k (Array.getElem?_eq_some_iff.1 hk).1 (fun e => by obtain ⟨o, ho, hc⟩ := hr k e.symm; rw [hk] at ho; cases ho; cases hc)
theorem wors_cs {base : Nat} {w : World} {v : Value} {P : List Wrd} (h : Wors base w v P) {g : Nat} (hg : v.ownBlock = some g) : ∃ c t fr, w.heap[g]? = some (.cells c t fr) := by
  rcases h.2 with ⟨rfl, hn⟩ | ⟨g', cap', cur, rfl, hg', hh, _⟩
  · cases hg
  · have e : g' = g := by simp [Value.ownBlock] at hg; exact hg
    subst e
    exact ⟨_, _, _, hh⟩
theorem nums_cs {base : Nat} {w : World} {v : Value} {P : List Int} (h : Nums base w v P) {g : Nat} (hg : v.ownBlock = some g) : ∃ c t fr, w.heap[g]? = some (.cells c t fr) := by
  rcases h.2 with ⟨rfl, hn⟩ | ⟨g', cap', cur, rfl, hg', hh, _⟩
  · cases hg
  · have e : g' = g := by simp [Value.ownBlock] at hg; exact hg
    subst e
    exact ⟨_, _, _, hh⟩
theorem Cl.keep {W0 W W' : World} {b8 gp len : Nat} {l : List Wrd} {ps : List Nat} {va : Option Addr} {vn vcp : Nat} (h : Cl W0 W b8 gp len l ps va vn vcp) (hb : W'.heap[b8]? = W.heap[b8]?) (hp : W'.heap[gp]? = W.heap[gp]?) (hk : ∀ g, (Value.slice va vn vcp).ownBlock = some g → W'.heap[g]? = W.heap[g]?) (hO : Oth [gp, b8] W0 W') : Cl W0 W' b8 gp len l ps va vn vcp :=
  ⟨hb.trans h.box, h.len_, wors_keep h.kept hk, nums_keep h.pl (fun g hg => by
    have e : gp = g := by simp [Value.ownBlock] at hg; exact hg
    rw [← e]
    exact hp), hO⟩
theorem cl_own (W0 : World) (b8 gp len : Nat) (l : List Wrd) : OwnFrom W0.heap.size (fun (pre : List (OB l)) W => ∃ va vn vcp, Cl W0 W b8 gp len l (plo pre) va vn vcp) := by
  rintro pre W W' row ⟨va, vn, vcp, h⟩ hg hr
  have hr2 : ∀ r, row = some r → ∃ o : Obj, W.heap[r]? = some o ∧ o.isCells = false := fun r e => (hr r e).2
  obtain ⟨c1, t1, f1, h1⟩ := nums_cs h.pl (g := gp) rfl
  refine ⟨va, vn, vcp, h.keep (heap_row hg hr2 h.box) (heap_row hg hr2 h1) (fun g hgo => ?_) (ownFrom_oth (β := Unit) (Nat.le_refl _) () W W' row h.oth hg hr)⟩
  obtain ⟨c2, t2, f2, h2⟩ := wors_cs h.kept hgo
  exact heap_row hg hr2 h2
theorem cl_prv (W0 : World) (b8 gp len m : Nat) (l : List Wrd) (hb : b8 < m) (hp : gp < m) (hm : W0.heap.size ≤ m) : AbP m (ownB b8) (fun (pre : List (OB l)) W => ∃ va vn vcp, Cl W0 W b8 gp len l (plo pre) va vn vcp) := by
  rintro pre A B ⟨va, vn, vcp, h⟩ hv
  refine ⟨va, vn, vcp, h.keep (hv.low _ hb) (hv.low _ hp) (fun g hg => hv.row g (by rw [ownB_is h.box]; exact hg)) ⟨hv.os.trans h.oth.os, hv.tape.trans h.oth.tape, hv.output.trans h.oth.output, Nat.le_trans h.oth.size hv.size, fun k hk hd => (hv.low k (by omega)).trans (h.oth.block k hk hd)⟩⟩

end Go.Proofs.YtapamdjoipofmaaDoor
