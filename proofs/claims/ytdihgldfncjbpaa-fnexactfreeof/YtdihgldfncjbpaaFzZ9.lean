/-
  Free names in the model: 'l2Free'.
-/
import Derived.Test.YtdihgldfncjbpaaFzZ4
import Derived.Test.YtdihgldfncjbpaaFzZ8
import Derived.Deep.RegionHeld3
import Derived.Deep.RegionLaw
import Derived.Sort.AtCall
import Derived.LoopN
namespace Go.Proofs.Ytdihgldfncjbpaa
open Go.RowKit
set_option linter.unusedVariables false
set_option linter.unusedSimpArgs false


theorem freeF_snoc (f : Tm → List (List UInt8) → List (List UInt8) → List (List UInt8)) (k : Int) (s z : List UInt8) (x : Tm) (Bd : List (List UInt8)) : ∀ (xs : List Tm) (i : Nat) (Fr : List (List UInt8)), freeF f k s z i (xs ++ [x]) Bd Fr = f x (Bd ++ bindsW k s z (i + xs.length)) (freeF f k s z i xs Bd Fr) := by
  intro xs
  induction xs with
  | nil => intro i Fr; rfl
  | cons y xs ih =>
    intro i Fr
    show freeF f k s z (i + 1) (xs ++ [x]) Bd _ = _
    rw [ih]
    have e : i + 1 + xs.length = i + (y :: xs).length := by simp; omega
    rw [e]
    rfl

theorem app_none {base : Nat} {w : World} {v : Value} {P : List (List UInt8)} (h : Toks base w v P) (xo : Option Addr) (c : Nat) : (Builtin.append_ #[55, 55] 55 #[v, .slice xo 0 c]).run Try.prog w = .ok v w := by
  obtain ⟨i0, hi, hz0, hz1, hz2⟩ := info_parts Try.infoStr
  rcases h.2 with ⟨rfl, hn⟩ | ⟨g, cap, cur, rfl, _, _, hnc, _⟩
  · cases xo <;> simp [Builtin.append_, run_underlying Try.underlying55, sizeOf, typeInfo, hi, Builtin.lenOf, Builtin.firstCells, loadCells, loadCellsFrom]
  · cases xo <;> simp [Builtin.append_, run_underlying Try.underlying55, sizeOf, typeInfo, hi, Builtin.lenOf, Builtin.firstCells, hnc, storeCells, loadCells, loadCellsFrom]

/-- A row behind a row: whatever is appended lies in a row of names, or is none. -/
theorem toks_join {base : Nat} {wr : World} {v : Value} {P : List (List UInt8)} (h : Toks base wr v P) (hb : base ≤ wr.heap.size) (N : List (List UInt8)) (hl : P.length + N.length ≤ 1048577) (xo : Option Addr) (c : Nat)
    (hs : 0 < N.length → ∃ sb, xo = some ⟨sb, 0, none⟩ ∧ ∀ j u, (N.map tk)[j]? = some u → wr.cell? ⟨sb, 0 + j, none⟩ = some u) :
    ∃ v' w2, (Builtin.append_ #[55, 55] 55 #[v, .slice xo N.length c]).run Try.prog wr = .ok v' w2 ∧ Toks base w2 v' (P ++ N) ∧ wr.grownBy w2 v.ownBlock ∧ (∀ k, v'.ownBlock = some k → v.ownBlock = some k ∨ k = wr.heap.size) := by
  by_cases hN : 0 < N.length
  · obtain ⟨sb, rfl, hc⟩ := hs hN
    obtain ⟨g, cap, w2, hrun, hT, hg, hat, _⟩ := toks_grow h hb N hN hl sb c hc
    refine ⟨_, w2, hrun, by rw [← List.length_append]  at hT; simpa using hT, hg, fun k hk => ?_⟩
    have e : g = k := by simpa [Value.ownBlock] using hk
    subst e
    exact hat
  · have e : N = [] := List.length_eq_zero_iff.1 (by omega)
    subst e
    exact ⟨v, wr, app_none h xo c, by simpa using h, ⟨rfl, rfl, rfl, Nat.le_refl _, fun _ _ _ => rfl⟩, fun k hk => Or.inl hk⟩

theorem toks_src {base : Nat} {w : World} {ao : Option Addr} {cap : Nat} {P : List (List UInt8)} (h : Toks base w (.slice ao P.length cap) P) (hp : 0 < P.length) : ∃ sb, ao = some ⟨sb, 0, none⟩ ∧ ∀ j u, (P.map tk)[j]? = some u → w.cell? ⟨sb, 0 + j, none⟩ = some u := by
  obtain ⟨g, cp, e, _, _, _⟩ := toks_at h 0 hp
  injection e with e1 e2 e3
  subst e1
  refine ⟨g, rfl, fun j u hu => ?_⟩
  have hj : j < P.length := by have := (List.getElem?_eq_some_iff.1 hu).1; simpa using this
  obtain ⟨g', cp', e', _, _, hc⟩ := toks_at h j hj
  injection e' with e1 e2 e3
  injection e1 with e1
  injection e1 with e1
  subst e1
  rw [hc]
  have : (P.map tk)[j]? = some (tk P[j]) := by simp [hj]
  rw [← this, hu]

/-- The row has grown, and nothing else has changed. -/
theorem ko_grown {vo : Value} {w W w2 : World} {g n cap : Nat} (hW : Below w.heap.size w W) (hg : W.grownBy w2 vo.ownBlock) (hat : vo.ownBlock = some g ∨ g = W.heap.size) : Ko vo w (.slice (some ⟨g, 0, none⟩) n cap) w2 := by
  have hz := hW.size
  refine ⟨hg.os.trans hW.os, hg.tape.trans hW.tape, hg.output.trans hW.output, Nat.le_trans hW.size hg.size, fun k hk hne => (hg.block k (by omega) (fun e => hne e.symm)).trans (hW.block k hk), fun k hk => ?_⟩
  have e : g = k := by simpa [Value.ownBlock] using hk
  subst e
  rcases hat with e | e
  · exact Or.inl e
  · exact Or.inr (by omega)

end Go.Proofs.Ytdihgldfncjbpaa

/-
  Free names in the model: 'l2Binds'.
-/
namespace Go.Proofs.Ytdihgldfncjbpaa
open Go.RowKit
set_option linter.unusedVariables false
set_option linter.unusedSimpArgs false

set_option maxRecDepth 100000 in
set_option maxHeartbeats 1000000 in
theorem l2Binds_any (t : Tm) (a1 : Option Addr) (l1 c1 : Nat) (a2 : Option Addr) (l2 c2 : Nat) (a3 : Option Addr) (l3 c3 : Nat) (i : Nat) (hi : i ≤ 1000) (w : World) :
    Calls Try.prog 103 #[.agg #[.int .i64 t.K, .int .i64 t.N, .string t.S, .string t.Z, .int .i64 t.T.K, .int .i64 t.T.N, .slice a1 l1 c1, .slice a2 l2 c2, .slice a3 l3 c3], .int .i64 i] w fun e w' => LitE w w' e (bindsW t.K (bs t.S) (bs t.Z) i) := by
  by_cases h4 : t.K = 4
  · have HN : Hid (bindsW t.K (bs t.S) (bs t.Z) i = [bs t.S]) := by show _ = _; simp [bindsW, h4]
    rw [HN.out]
    go_enter Try.func103, Try.ntmps103
    go_wp2_with fail
    go_ret
    exact lit_1 _ _ _
  by_cases h7 : t.K = 7
  · have HN : Hid (bindsW t.K (bs t.S) (bs t.Z) i = [bs t.S]) := by show _ = _; simp [bindsW, h7]
    rw [HN.out]
    go_enter Try.func103, Try.ntmps103
    go_wp2_with fail
    go_ret
    exact lit_1 _ _ _
  by_cases h6 : t.K = 6
  · by_cases hi1 : i = 1
    · have HN : Hid (bindsW t.K (bs t.S) (bs t.Z) i = [bs t.S]) := by show _ = _; simp [bindsW, h6, hi1]
      have bi : ((i : Int) == 1) = true := by simp [hi1]
      rw [HN.out]
      clear hi1
      go_enter Try.func103, Try.ntmps103
      go_wp2_with fail
      go_ret
      exact lit_1 _ _ _
    · have HN : Hid (bindsW t.K (bs t.S) (bs t.Z) i = []) := by show _ = _; simp [bindsW, h6, hi1]
      have bi : ((i : Int) == 1) = false := by rw [beq_eq_false_iff_ne]; omega
      rw [HN.out]
      clear hi1
      go_enter Try.func103, Try.ntmps103
      go_wp2_with fail
      go_ret
      exact lit_0 _ _
  by_cases h17 : t.K = 17
  · by_cases hi1 : i = 1
    · have HN : Hid (bindsW t.K (bs t.S) (bs t.Z) i = [bs t.S]) := by show _ = _; simp [bindsW, h17, hi1]
      have bi : ((i : Int) == 1) = true := by simp [hi1]
      rw [HN.out]
      clear hi1
      go_enter Try.func103, Try.ntmps103
      go_wp2_with fail
      go_ret
      exact lit_1 _ _ _
    · have HN : Hid (bindsW t.K (bs t.S) (bs t.Z) i = []) := by show _ = _; simp [bindsW, h17, hi1]
      have bi : ((i : Int) == 1) = false := by rw [beq_eq_false_iff_ne]; omega
      rw [HN.out]
      clear hi1
      go_enter Try.func103, Try.ntmps103
      go_wp2_with fail
      go_ret
      exact lit_0 _ _
  by_cases h14 : t.K = 14
  · by_cases hi2 : i = 2
    · have HN : Hid (bindsW t.K (bs t.S) (bs t.Z) i = [bs t.S, bs t.Z]) := by show _ = _; simp [bindsW, h14, hi2]
      have bi : ((i : Int) == 2) = true := by simp [hi2]
      rw [HN.out]
      clear hi2
      go_enter Try.func103, Try.ntmps103
      go_wp2_with fail
      go_ret
      exact lit_2 _ _ _ _
    · have HN : Hid (bindsW t.K (bs t.S) (bs t.Z) i = []) := by show _ = _; simp [bindsW, h14, hi2]
      have bi : ((i : Int) == 2) = false := by rw [beq_eq_false_iff_ne]; omega
      rw [HN.out]
      clear hi2
      go_enter Try.func103, Try.ntmps103
      go_wp2_with fail
      go_ret
      exact lit_0 _ _
  have HN : Hid (bindsW t.K (bs t.S) (bs t.Z) i = []) := by show _ = _; simp [bindsW, h4, h7, h6, h17, h14]
  have b4 : (t.K == 4) = false := by simp [h4]
  have b7 : (t.K == 7) = false := by simp [h7]
  have b6 : (t.K == 6) = false := by simp [h6]
  have b17 : (t.K == 17) = false := by simp [h17]
  have b14 : (t.K == 14) = false := by simp [h14]
  clear h4 h7 h6 h17 h14
  rw [HN.out]
  go_enter Try.func103, Try.ntmps103
  go_wp2_with fail
  go_ret
  exact lit_0 _ _

end Go.Proofs.Ytdihgldfncjbpaa
