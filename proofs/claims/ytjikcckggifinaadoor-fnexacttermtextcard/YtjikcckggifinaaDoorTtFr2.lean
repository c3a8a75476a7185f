/-
  What the program's 'rebuiltBehind' comes to where it makes forms; 'formOf'.
-/
import Derived.Test.YtjikcckggifinaaDoorTtFr1
import Derived.Test.YtjikcckggifinaaDoorTtZ25
import Derived.Test.YtjikcckggifinaaDoorTtZ5
import Derived.Deep.Cut
import Derived.Deep.CutRange
namespace Go.Proofs.YtjikcckggifinaaDoor
open Go.RowKit
set_option linter.unusedVariables false
set_option linter.unusedSimpArgs false

theorem Tryd.infoForm : (Tryd.prog.info? 50).map (fun i => (i.zero, i.size, i.bytes)) = some (some .nilIface, 1, 16) := by kernel_rfl

/-- A row of forms that can be appended to. -/
def Frw (base : Nat) (w : World) (v : Value) (P : List Value) : Prop := w.ownsRow base 50 1 v P.length P

theorem frw_own {base : Nat} {w : World} {v : Value} {P : List Value} (h : Frw base w v P) {g : Nat} (hg : v.ownBlock = some g) : base ≤ g ∧ g < w.heap.size := by
  rcases h.2 with ⟨rfl, _⟩ | ⟨g', cap, cur, rfl, hb', hh, _⟩
  · cases hg
  · have e : g' = g := by simpa [Value.ownBlock] using hg
    subst e
    exact ⟨hb', (Array.getElem?_eq_some_iff.1 hh).1⟩
theorem frw_keep {base : Nat} {w w' : World} {v : Value} {P : List Value} (h : Frw base w v P) (hk : ∀ g, base ≤ g → g < w.heap.size → w'.heap[g]? = w.heap[g]?) : Frw base w' v P := by
  have ho := fun g hg => frw_own h (g := g) hg
  refine ⟨h.1, ?_⟩
  rcases h.2 with hn | ⟨g, cap, cur, rfl, hg, hh, r⟩
  · exact Or.inl hn
  · exact Or.inr ⟨g, cap, cur, rfl, hg, (hk g (ho g rfl).1 (ho g rfl).2).trans hh, r⟩
theorem frw_form {base : Nat} {w : World} {v : Value} {P : List Value} (h : Frw base w v P) : ∃ ao cap, v = .slice ao P.length cap := by
  rcases h.2 with ⟨rfl, hn⟩ | ⟨g, cap, cur, rfl, _⟩
  · exact ⟨none, 0, by rw [hn]⟩
  · exact ⟨_, cap, rfl⟩
theorem frw_push {base : Nat} {wr : World} {v : Value} {P : List Value} (h : Frw base wr v P) (hb : base ≤ wr.heap.size) (hl : P.length ≤ 1000) (τ : TypeId) (u : Value) :
    ∃ g cap w2, (Builtin.append_ #[71, 71] 71 #[v, .slice (some ⟨wr.heap.size, 0, none⟩) 1 1]).run Tryd.prog (wr.alloc (.cells #[.iface τ u] 50)) = .ok (.slice (some ⟨g, 0, none⟩) (P.length + 1) cap) w2 ∧
      Frw base w2 (.slice (some ⟨g, 0, none⟩) (P.length + 1) cap) (P ++ [.iface τ u]) ∧ Below base wr w2 := by
  obtain ⟨i0, hi, hz0, hz1, hz2⟩ := info_parts Tryd.infoForm
  have hA : Below wr.heap.size wr (wr.alloc (.cells #[.iface τ u] 50)) := (Below.refl _ _).alloc (Nat.le_refl _) _
  have h1 : Frw base (wr.alloc (.cells #[.iface τ u] 50)) v P := frw_keep h fun g _ hg => hA.block g hg
  obtain ⟨g, cap, w2, hrun, hown2, hgrow, hat, hlt⟩ := run_append_lies (P := Tryd.prog) (wr.alloc (.cells #[.iface τ u] 50)) 71 71 base 50 i0 _ 1 16 Tryd.underlying71 hi hz0 hz1 hz2 rfl (by omega) v P.length _ h1
    ⟨wr.heap.size, 0, none⟩ 1 1 [.iface τ u] rfl (World.news_of_block (cs := #[.iface τ u]) (t := 50) (fr := (0, 0)) (heap_alloc_new wr _)) (by simp [Value.oneCell'])
    (by omega) (by unfold maxLen; omega) (by omega) (by simp; omega) _ rfl
  have hvb : ∀ g, v.ownBlock = some g → base ≤ g := fun g hg => (frw_own h hg).1
  have hsz := hgrow.size
  simp only [World.size_alloc] at hsz
  refine ⟨g, cap, w2, hrun, ?_, ⟨hgrow.os, hgrow.tape, hgrow.output, by omega, fun q hq => ?_⟩⟩
  · unfold Frw
    simpa using hown2
  · exact (hgrow.block q (by simp; omega) (fun e => by have := hvb q e.symm; omega)).trans (hA.block q (by omega))

theorem frw_prt {base : Nat} {w : World} {v : Value} {P : List Value} (h : Frw base w v P) (q : Nat → Value) (hq : ∀ i (hi : i < P.length), P[i] = q i) : ∃ ao cap, v = .slice ao P.length cap ∧ Prt w ao P.length q := by
  rcases h.2 with ⟨rfl, hn⟩ | ⟨g, cap, cur, rfl, hg, hh, h1, h2, h3, h4⟩
  · exact ⟨none, 0, by rw [hn], fun i hi => by omega⟩
  · refine ⟨_, cap, rfl, fun i hi => ⟨g, 0, rfl, (Array.getElem?_eq_some_iff.1 hh).1, ?_⟩⟩
    have e : P[i]? = some (q i) := by rw [List.getElem?_eq_getElem hi, hq i hi]
    rw [← h4, List.getElem?_take, if_pos (by omega)] at e
    rw [Nat.zero_add, row_cell hh, ← Array.getElem?_toList, e]

set_option maxRecDepth 100000 in
set_option maxHeartbeats 1000000 in
theorem within_any (t : Tm) (a1 : Option Addr) (l1 c1 : Nat) (a2 : Option Addr) (l2 c2 : Nat) (a3 : Option Addr) (l3 c3 : Nat) (w : World) :
    Calls Tryd.prog 91 #[.agg #[.int .i64 t.K, .int .i64 t.N, .string t.S, .string t.Z, .int .i64 t.T.K, .int .i64 t.T.N, .slice a1 l1 c1, .slice a2 l2 c2, .slice a3 l3 c3]] w fun e w' => e = .returned (.slice a3 l3 c3) ∧ Below w.heap.size w w' := by
  go_enter Tryd.func91, Tryd.ntmps91
  go_wp2_with fail
  go_ret
  exact ⟨rfl, (Below.refl _ _).alloc (Nat.le_refl _) _⟩

theorem made_any (nd : Int) (t : Tm) (a1 : Option Addr) (l1 c1 : Nat) (a2 : Option Addr) (l2 c2 : Nat) (a3 : Option Addr) (l3 c3 : Nat) (ap : Option Addr) (n cp : Nat) (τ : Nat → TypeId) (u : Nat → Value) (w : World) (hk1 : 1 ≤ t.K) (hk2 : t.K ≤ 17) (hn : (n : Int) = shP t.K) (hq : Prt w ap n fun i => .iface (τ i) (u i)) :
    Calls Tryd.prog 34 #[.int .i64 nd, .agg #[.int .i64 t.K, .int .i64 t.N, .string t.S, .string t.Z, .int .i64 t.T.K, .int .i64 t.T.N, .slice a1 l1 c1, .slice a2 l2 c2, .slice a3 l3 c3], .slice ap n cp] w fun e w' => e = .returned (fval nd t.K t.N t.S t.Z t.T.K t.T.N (.slice a1 l1 c1) (.slice a2 l2 c2) (.iface (τ 0) (u 0)) (.iface (τ 1) (u 1)) (.iface (τ 2) (u 2))) ∧ Below w.heap.size w w' := by
  have hks : t.K = 1 ∨ t.K = 2 ∨ t.K = 3 ∨ t.K = 4 ∨ t.K = 5 ∨ t.K = 6 ∨ t.K = 7 ∨ t.K = 8 ∨ t.K = 9 ∨ t.K = 10 ∨ t.K = 11 ∨ t.K = 12 ∨ t.K = 13 ∨ t.K = 14 ∨ t.K = 15 ∨ t.K = 16 ∨ t.K = 17 := by omega
  rcases hks with e | e | e | e | e | e | e | e | e | e | e | e | e | e | e | e | e
  · have en : n = 0 := by rw [e] at hn; have : shP 1 = 0 := rfl; omega
    subst en
    refine (made_1 nd t a1 l1 c1 a2 l2 c2 a3 l3 c3 ap cp τ u w e hq).mono ?_
    rintro x w' ⟨rfl, hb⟩
    refine ⟨?_, hb⟩
    rw [e]
    rfl
  · have en : n = 0 := by rw [e] at hn; have : shP 2 = 0 := rfl; omega
    subst en
    refine (made_2 nd t a1 l1 c1 a2 l2 c2 a3 l3 c3 ap cp τ u w e hq).mono ?_
    rintro x w' ⟨rfl, hb⟩
    refine ⟨?_, hb⟩
    rw [e]
    rfl
  · have en : n = 0 := by rw [e] at hn; have : shP 3 = 0 := rfl; omega
    subst en
    refine (made_3 nd t a1 l1 c1 a2 l2 c2 a3 l3 c3 ap cp τ u w e hq).mono ?_
    rintro x w' ⟨rfl, hb⟩
    refine ⟨?_, hb⟩
    rw [e]
    rfl
  · have en : n = 1 := by rw [e] at hn; have : shP 4 = 1 := rfl; omega
    subst en
    refine (made_4 nd t a1 l1 c1 a2 l2 c2 a3 l3 c3 ap cp τ u w e hq).mono ?_
    rintro x w' ⟨rfl, hb⟩
    refine ⟨?_, hb⟩
    rw [e]
    rfl
  · have en : n = 2 := by rw [e] at hn; have : shP 5 = 2 := rfl; omega
    subst en
    refine (made_5 nd t a1 l1 c1 a2 l2 c2 a3 l3 c3 ap cp τ u w e hq).mono ?_
    rintro x w' ⟨rfl, hb⟩
    refine ⟨?_, hb⟩
    rw [e]
    rfl
  · have en : n = 2 := by rw [e] at hn; have : shP 6 = 2 := rfl; omega
    subst en
    refine (made_6 nd t a1 l1 c1 a2 l2 c2 a3 l3 c3 ap cp τ u w e hq).mono ?_
    rintro x w' ⟨rfl, hb⟩
    refine ⟨?_, hb⟩
    rw [e]
    rfl
  · have en : n = 2 := by rw [e] at hn; have : shP 7 = 2 := rfl; omega
    subst en
    refine (made_7 nd t a1 l1 c1 a2 l2 c2 a3 l3 c3 ap cp τ u w e hq).mono ?_
    rintro x w' ⟨rfl, hb⟩
    refine ⟨?_, hb⟩
    rw [e]
    rfl
  · have en : n = 3 := by rw [e] at hn; have : shP 8 = 3 := rfl; omega
    subst en
    refine (made_8 nd t a1 l1 c1 a2 l2 c2 a3 l3 c3 ap cp τ u w e hq).mono ?_
    rintro x w' ⟨rfl, hb⟩
    refine ⟨?_, hb⟩
    rw [e]
    rfl
  · have en : n = 2 := by rw [e] at hn; have : shP 9 = 2 := rfl; omega
    subst en
    refine (made_9 nd t a1 l1 c1 a2 l2 c2 a3 l3 c3 ap cp τ u w e hq).mono ?_
    rintro x w' ⟨rfl, hb⟩
    refine ⟨?_, hb⟩
    rw [e]
    rfl
  · have en : n = 1 := by rw [e] at hn; have : shP 10 = 1 := rfl; omega
    subst en
    refine (made_10 nd t a1 l1 c1 a2 l2 c2 a3 l3 c3 ap cp τ u w e hq).mono ?_
    rintro x w' ⟨rfl, hb⟩
    refine ⟨?_, hb⟩
    rw [e]
    rfl
  · have en : n = 1 := by rw [e] at hn; have : shP 11 = 1 := rfl; omega
    subst en
    refine (made_11 nd t a1 l1 c1 a2 l2 c2 a3 l3 c3 ap cp τ u w e hq).mono ?_
    rintro x w' ⟨rfl, hb⟩
    refine ⟨?_, hb⟩
    rw [e]
    rfl
  · have en : n = 0 := by rw [e] at hn; have : shP 12 = 0 := rfl; omega
    subst en
    refine (made_12 nd t a1 l1 c1 a2 l2 c2 a3 l3 c3 ap cp τ u w e hq).mono ?_
    rintro x w' ⟨rfl, hb⟩
    refine ⟨?_, hb⟩
    rw [e]
    rfl
  · have en : n = 2 := by rw [e] at hn; have : shP 13 = 2 := rfl; omega
    subst en
    refine (made_13 nd t a1 l1 c1 a2 l2 c2 a3 l3 c3 ap cp τ u w e hq).mono ?_
    rintro x w' ⟨rfl, hb⟩
    refine ⟨?_, hb⟩
    rw [e]
    rfl
  · have en : n = 3 := by rw [e] at hn; have : shP 14 = 3 := rfl; omega
    subst en
    refine (made_14 nd t a1 l1 c1 a2 l2 c2 a3 l3 c3 ap cp τ u w e hq).mono ?_
    rintro x w' ⟨rfl, hb⟩
    refine ⟨?_, hb⟩
    rw [e]
    rfl
  · have en : n = 2 := by rw [e] at hn; have : shP 15 = 2 := rfl; omega
    subst en
    refine (made_15 nd t a1 l1 c1 a2 l2 c2 a3 l3 c3 ap cp τ u w e hq).mono ?_
    rintro x w' ⟨rfl, hb⟩
    refine ⟨?_, hb⟩
    rw [e]
    rfl
  · have en : n = 1 := by rw [e] at hn; have : shP 16 = 1 := rfl; omega
    subst en
    refine (made_16 nd t a1 l1 c1 a2 l2 c2 a3 l3 c3 ap cp τ u w e hq).mono ?_
    rintro x w' ⟨rfl, hb⟩
    refine ⟨?_, hb⟩
    rw [e]
    rfl
  · have en : n = 2 := by rw [e] at hn; have : shP 17 = 2 := rfl; omega
    subst en
    refine (made_17 nd t a1 l1 c1 a2 l2 c2 a3 l3 c3 ap cp τ u w e hq).mono ?_
    rintro x w' ⟨rfl, hb⟩
    refine ⟨?_, hb⟩
    rw [e]
    rfl

end Go.Proofs.YtjikcckggifinaaDoor
