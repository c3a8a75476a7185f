/-
  'namesIn', 'namesBy' of the program: the names that a term binds. (Written by mkbn1.py.)
-/
import Derived.Test.YtgckmnchlkgakaaBndBn00
import Derived.Test.YtgckmnchlkgakaaBndBw
import Derived.Test.YtgckmnchlkgakaaBndZ16
import Derived.Test.YtgckmnchlkgakaaBndGa00
import Derived.Test.YtgckmnchlkgakaaBndFo0
import Derived.Deep.RegionHeld3
import Derived.Deep.RegionLaw
import Derived.Sort.AtCall
import Derived.LoopN
namespace Go.Proofs.Ytgckmnchlkgakaa
open Go.RowKit
set_option linter.unusedVariables false
set_option linter.unusedSimpArgs false

set_option maxRecDepth 100000 in
set_option maxHeartbeats 400000 in
theorem namesBy_any (t : Tm) (hn : nodeM t = true) (a1 : Option Addr) (l1 c1 : Nat) (a2 : Option Addr) (l2 c2 : Nat) (a3 : Option Addr) (l3 c3 : Nat) (hl : l3 = t.A.length) (N : List (List UInt8)) (hN : ownB t = N) (w : World) :
    Calls Try.prog 37 #[.agg #[.int .i64 t.K, .int .i64 t.N, .string t.S, .string t.Z, .int .i64 t.T.K, .int .i64 t.T.N, .slice a1 l1 c1, .slice a2 l2 c2, .slice a3 l3 c3]] w fun e w' => NmE w w' e N := by
  have hl3 : l3 ≤ 3 := by have := nodeM_len hn; omega
  have HN : Hid (nmI t.K (bs t.S) (bs t.Z) ((l3 : Int) - 1) = N) := by show _ = _; rw [hl, nmI_own hn, hN]
  clear hN hl
  go_enter Try.func37, Try.ntmps37
  go_wp2_with fail
  refine (namesIn_any t _ _ _ _ _ _ _ _ _ _ _).mono ?_
  rintro e w1 ⟨xo, c, rfl, hb, hx⟩
  rw [HN.out] at hx ⊢
  go_wp2_with fail
  go_ret
  refine ⟨xo, c, rfl, ((Below.refl _ _).alloc (Nat.le_refl _) _).trans (hb.mono (by simp)), fun h => ?_⟩
  obtain ⟨sb, h1, h2, h3⟩ := hx h
  exact ⟨sb, h1, by simp at h2; omega, h3⟩

end Go.Proofs.Ytgckmnchlkgakaa

/-
  Free names in the model: 'l2Free'.
-/
namespace Go.Proofs.Ytgckmnchlkgakaa
open Go.RowKit
set_option linter.unusedVariables false
set_option linter.unusedSimpArgs false


theorem app_none {base : Nat} {w : World} {v : Value} {P : List (List UInt8)} (h : Toks base w v P) (xo : Option Addr) (c : Nat) : (Builtin.append_ #[29, 29] 29 #[v, .slice xo 0 c]).run Try.prog w = .ok v w := by
  obtain ⟨i0, hi, hz0, hz1, hz2⟩ := info_parts Try.infoStr
  rcases h.2 with ⟨rfl, hn⟩ | ⟨g, cap, cur, rfl, _, _, hnc, _⟩
  · cases xo <;> simp [Builtin.append_, run_underlying Try.underlying29, sizeOf, typeInfo, hi, Builtin.lenOf, Builtin.firstCells, loadCells, loadCellsFrom]
  · cases xo <;> simp [Builtin.append_, run_underlying Try.underlying29, sizeOf, typeInfo, hi, Builtin.lenOf, Builtin.firstCells, hnc, storeCells, loadCells, loadCellsFrom]

/-- A row behind a row: whatever is appended lies in a row of names, or is none. -/
theorem toks_join {base : Nat} {wr : World} {v : Value} {P : List (List UInt8)} (h : Toks base wr v P) (hb : base ≤ wr.heap.size) (N : List (List UInt8)) (hl : P.length + N.length ≤ 1048577) (xo : Option Addr) (c : Nat)
    (hs : 0 < N.length → ∃ sb, xo = some ⟨sb, 0, none⟩ ∧ ∀ j u, (N.map tk)[j]? = some u → wr.cell? ⟨sb, 0 + j, none⟩ = some u) :
    ∃ v' w2, (Builtin.append_ #[29, 29] 29 #[v, .slice xo N.length c]).run Try.prog wr = .ok v' w2 ∧ Toks base w2 v' (P ++ N) ∧ wr.grownBy w2 v.ownBlock ∧ (∀ k, v'.ownBlock = some k → v.ownBlock = some k ∨ k = wr.heap.size) := by
  by_cases hN : 0 < N.length
  · obtain ⟨sb, rfl, hc⟩ := hs hN
    obtain ⟨g, cap, w2, hrun, hT, hg, hat, _⟩ := toks_grow h hb N hN hl sb c hc
    refine ⟨_, w2, hrun, by rw [← List.length_append]  at hT; simpa using hT, hg, fun k hk => ?_⟩
    have e : g = k := by simpa [Value.ownBlock] using hk
    subst e
    exact hat
  · have e : N = [] := List.length_eq_zero_iff.1 (by omega)
    subst e
    exact ⟨v, wr, app_none h xo c, by simpa using h, ⟨rfl, rfl, rfl, Nat.le_refl _, fun _ _ _ => rfl⟩, fun k hk => Or.inl hk⟩

end Go.Proofs.Ytgckmnchlkgakaa
