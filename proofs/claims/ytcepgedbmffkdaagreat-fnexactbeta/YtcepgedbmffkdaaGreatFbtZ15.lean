/-
  What the program's 'mapTys' comes to: a new row, each element what the function that was handed in makes of the old one; and 'copyTy'.
-/
import Derived.Test.YtcepgedbmffkdaaGreatFbtZ1
import Derived.Deep.RegionHeld3
import Derived.Deep.RegionWith
import Derived.Deep.RegionLaw
import Derived.Test.YtcepgedbmffkdaaGreatFbtZ3
import Derived.Test.YtcepgedbmffkdaaGreatFbtFr1
import Derived.Deep.Cut
import Derived.Deep.CutRange
namespace Go.Proofs.YtcepgedbmffkdaaGreat
open Go.RowKit
set_option linter.unusedVariables false
set_option linter.unusedSimpArgs false

theorem Tryz.infoTy3 : (Tryz.prog.info? 31).map (fun i => (i.zero, i.size, i.bytes)) = some (some (.agg #[.int .i64 0, .int .i64 0, .slice none 0 0]), 3, 40) := by kernel_rfl

theorem make_ty (len : Nat) (hl : len ≤ 1048576) : ∃ C : Array Value, C.size = len * 3 ∧ ∀ w : World, (Instr.makeSlice 29 (.int .i64 (len : Int)) (.int .i64 (len : Int))).run Tryz.prog w = .ok (.slice (some ⟨w.heap.size, 0, none⟩) len len) (w.alloc (.cells C 31)) := by
  obtain ⟨i0, hi, hz0, hz1, hz2⟩ := info_parts Tryz.infoTy3
  refine ⟨madeCells (Value.cells (.agg #[.int .i64 0, .int .i64 0, .slice none 0 0])) (len * 3), size_madeCells _ _, fun w => ?_⟩
  have := run_make (P := Tryz.prog) (w := w) 29 31 i0 _ Tryz.underlying29 hi hz0 .i64 .i64 (len : Int) (len : Int) (by omega) (by omega) (by rw [hz2]; omega) (by omega)
  rw [hz1] at this
  simpa using this

theorem Hs.up {L B : Nat} {w : World} {d : Nat} {ao : Option Addr} {len : Nat} {ts : List Tr} (h : Hs L B w 0 ao len ts) : Hs L B w (d + 1) ao len ts := by
  obtain ⟨rfl, rfl⟩ := h
  exact ⟨rfl, by omega, fun i hi => by simp at hi⟩

theorem OwR.len0 {L B : Nat} {w : World} {d : Nat} {ao : Option Addr} {len : Nat} (h : OwR L B w d ao len []) : len = 0 := by
  obtain ⟨bs, h1, _⟩ := h
  cases d with
  | zero => exact h1.1
  | succ d =>
    rcases h1 with h1 | ⟨_, _, _, _, hl, _⟩
    · exact h1.1
    · simpa using hl

end Go.Proofs.YtcepgedbmffkdaaGreat

/-
  What the model's 'l1Copy' comes to: the same tree in new memory.
-/
namespace Go.Proofs.YtcepgedbmffkdaaGreat
open Go.RowKit
set_option linter.unusedVariables false
set_option linter.unusedSimpArgs false

/-- One element more appended to it: what the run of 'append' gives, w1 being the world behind the call that made the element. -/
theorem ap_run {base : Nat} {wr w1 : World} {d : Nat} {v : Value} {k : Nat} {ts : List Tr} (h : ApRel base wr d v k ts) (hk : k < ts.length) (hk2 : ts.length ≤ 1048576) (hb : Below wr.heap.size wr w1) (hbase : base ≤ wr.heap.size) {ao1 : Option Addr} {len1 cap1 : Nat}
    (ho : OwR wr.heap.size w1.heap.size w1 d ao1 len1 ts[k].A) :
    ∃ g cap w2, (Builtin.append_ #[29, 29] 29 #[v, .slice (some ⟨w1.heap.size, 0, none⟩) 1 1]).run Tryz.prog (w1.alloc (.cells #[.int .i64 ts[k].K, .int .i64 ts[k].N, .slice ao1 len1 cap1] 31)) = .ok (.slice (some ⟨g, 0, none⟩) (k + 1) cap) w2 ∧
      ApRel base w2 d (.slice (some ⟨g, 0, none⟩) (k + 1) cap) (k + 1) ts ∧ Below base wr w2 := by
  obtain ⟨i0, hi, hz0, hz1, hz2⟩ := info_parts Tryz.infoTy3
  have hX : Below wr.heap.size wr (w1.alloc (.cells #[.int .i64 ts[k].K, .int .i64 ts[k].N, .slice ao1 len1 cap1] 31)) := hb.alloc hb.size _
  have h1 := ap_below h hX
  obtain ⟨xs, hown, _⟩ := h1.own
  obtain ⟨xs0, hown0, _⟩ := h.own
  have hsz := hb.size
  obtain ⟨g, cap, w2, hrun, hown2, hgrow, hat, hlt⟩ := run_append_lies (P := Tryz.prog) (w1.alloc (.cells #[.int .i64 ts[k].K, .int .i64 ts[k].N, .slice ao1 len1 cap1] 31)) 29 29 base 31 i0 _ 3 40 Tryz.underlying29 hi hz0 hz1 hz2 rfl (by omega) v k xs hown
    ⟨w1.heap.size, 0, none⟩ 1 1 [.int .i64 ts[k].K, .int .i64 ts[k].N, .slice ao1 len1 cap1] rfl (World.news_of_block (cs := #[.int .i64 ts[k].K, .int .i64 ts[k].N, .slice ao1 len1 cap1]) (t := 31) (fr := (0, 0)) (heap_alloc_new w1 _)) (by simp [Value.oneCell'])
    (by omega) (by unfold maxLen; omega) (by omega) (by simp; omega) _ rfl
  refine ⟨g, cap, w2, hrun, ?_, ?_⟩
  · have hxx : xs = xs0 := by
      rcases hown.2 with ⟨hv, hn⟩ | ⟨g1, cap1', cur1, hv, _, hh, _, _, _, ht⟩
      · have q1 := hown.1
        have q2 := hown0.1
        rw [hn] at q1 q2
        simp at q1 q2
        rw [q1, q2]
      · rcases hown0.2 with ⟨hv2, _⟩ | ⟨g2, cap2, cur2, hv2, _, hh2, _, _, _, ht2⟩
        · rw [hv] at hv2; cases hv2
        · rw [hv] at hv2
          cases hv2
          rw [hX.block g1 (Array.getElem?_eq_some_iff.1 hh2).1, hh2] at hh
          cases hh
          rw [← ht, ← ht2]
    subst hxx
    exact ap_next h hk hX hbase (ho.keep (fun q _ hq => Below.heap_alloc _ _ _ hq) (Nat.le_refl _) (by simp)) hown0 hown2 hgrow hat
  · exact (hX.mono hbase).grown hgrow (by simp; omega) (fun q hq => (ap_block h1 hq).1)


end Go.Proofs.YtcepgedbmffkdaaGreat

/-
  Rows that are appended to, where what lies between was made by calls that write into older blocks too (a cursor).
-/
namespace Go.Proofs.YtcepgedbmffkdaaGreat
open Go.RowKit
set_option linter.unusedVariables false
set_option linter.unusedSimpArgs false

/-- From block 'base' on nothing that was there has turned. -/
structure Sm (base : Nat) (w w' : World) : Prop where
  size : w.heap.size ≤ w'.heap.size
  block : ∀ k, base ≤ k → k < w.heap.size → w'.heap[k]? = w.heap[k]?
theorem Sm.alloc {base : Nat} {w w' : World} (h : Sm base w w') (o : Obj) : Sm base w (w'.alloc o) :=
  ⟨Nat.le_trans h.size (by simp), fun k hk hk' => (Below.heap_alloc _ _ _ (Nat.lt_of_lt_of_le hk' h.size)).trans (h.block k hk hk')⟩
theorem Sm.grown {base p : Nat} {w w' : World} (h : w.grownBy w' (some p)) (hp : p < base) : Sm base w w' := ⟨h.size, fun k hk hk' => h.block k hk' (by simp; omega)⟩
theorem Sm.drew {base : Nat} {w w' : World} (h : Sm base w.drew w') : Sm base w w' := ⟨h.size, h.block⟩

end Go.Proofs.YtcepgedbmffkdaaGreat

/-
  A term's parts, as the generic functions ask for them.
-/
namespace Go.Proofs.YtcepgedbmffkdaaGreat
open Go.RowKit
set_option linter.unusedVariables false
set_option linter.unusedSimpArgs false

set_option maxRecDepth 100000 in
set_option maxHeartbeats 1000000 in
theorem within_any (t : Tm) (a1 : Option Addr) (l1 c1 : Nat) (a2 : Option Addr) (l2 c2 : Nat) (a3 : Option Addr) (l3 c3 : Nat) (w : World) :
    Calls Tryz.prog 156 #[.agg #[.int .i64 t.K, .int .i64 t.N, .string t.S, .string t.Z, .int .i64 t.T.K, .int .i64 t.T.N, .slice a1 l1 c1, .slice a2 l2 c2, .slice a3 l3 c3]] w fun e w' => e = .returned (.slice a3 l3 c3) ∧ Below w.heap.size w w' := by
  go_enter Tryz.func156, Tryz.ntmps156
  go_wp2_with fail
  go_ret
  exact ⟨rfl, (Below.refl _ _).alloc (Nat.le_refl _) _⟩

theorem mt_within (x : Value) (W : World) : Sem.run Tryz.prog (method 330 34 x "loop.example/g00187/impl.within") W = .ok (156, x) W := by kernel_rfl

end Go.Proofs.YtcepgedbmffkdaaGreat

/-
  What the program's 'rebuiltBehind' comes to where it makes forms; 'formOf'.
-/
namespace Go.Proofs.YtcepgedbmffkdaaGreat
open Go.RowKit
set_option linter.unusedVariables false
set_option linter.unusedSimpArgs false

theorem Tryz.infoForm : (Tryz.prog.info? 52).map (fun i => (i.zero, i.size, i.bytes)) = some (some .nilIface, 1, 16) := by kernel_rfl

/-- A row of forms that can be appended to. -/
def Frw (base : Nat) (w : World) (v : Value) (P : List Value) : Prop := w.ownsRow base 52 1 v P.length P

theorem frw_own {base : Nat} {w : World} {v : Value} {P : List Value} (h : Frw base w v P) {g : Nat} (hg : v.ownBlock = some g) : base ≤ g ∧ g < w.heap.size := by
  rcases h.2 with ⟨rfl, _⟩ | ⟨g', cap, cur, rfl, hb', hh, _⟩
  · cases hg
  · have e : g' = g := by simpa [Value.ownBlock] using hg
    subst e
    exact ⟨hb', (Array.getElem?_eq_some_iff.1 hh).1⟩
theorem frw_keep {base : Nat} {w w' : World} {v : Value} {P : List Value} (h : Frw base w v P) (hk : ∀ g, base ≤ g → g < w.heap.size → w'.heap[g]? = w.heap[g]?) : Frw base w' v P := by
  have ho := fun g hg => frw_own h (g := g) hg
  refine ⟨h.1, ?_⟩
  rcases h.2 with hn | ⟨g, cap, cur, rfl, hg, hh, r⟩
  · exact Or.inl hn
  · exact Or.inr ⟨g, cap, cur, rfl, hg, (hk g (ho g rfl).1 (ho g rfl).2).trans hh, r⟩
theorem frw_form {base : Nat} {w : World} {v : Value} {P : List Value} (h : Frw base w v P) : ∃ ao cap, v = .slice ao P.length cap := by
  rcases h.2 with ⟨rfl, hn⟩ | ⟨g, cap, cur, rfl, _⟩
  · exact ⟨none, 0, by rw [hn]⟩
  · exact ⟨_, cap, rfl⟩
theorem frw_push {base : Nat} {wr : World} {v : Value} {P : List Value} (h : Frw base wr v P) (hb : base ≤ wr.heap.size) (hl : P.length ≤ 1000) (τ : TypeId) (u : Value) :
    ∃ g cap w2, (Builtin.append_ #[68, 68] 68 #[v, .slice (some ⟨wr.heap.size, 0, none⟩) 1 1]).run Tryz.prog (wr.alloc (.cells #[.iface τ u] 52)) = .ok (.slice (some ⟨g, 0, none⟩) (P.length + 1) cap) w2 ∧
      Frw base w2 (.slice (some ⟨g, 0, none⟩) (P.length + 1) cap) (P ++ [.iface τ u]) ∧ Below base wr w2 := by
  obtain ⟨i0, hi, hz0, hz1, hz2⟩ := info_parts Tryz.infoForm
  have hA : Below wr.heap.size wr (wr.alloc (.cells #[.iface τ u] 52)) := (Below.refl _ _).alloc (Nat.le_refl _) _
  have h1 : Frw base (wr.alloc (.cells #[.iface τ u] 52)) v P := frw_keep h fun g _ hg => hA.block g hg
  obtain ⟨g, cap, w2, hrun, hown2, hgrow, hat, hlt⟩ := run_append_lies (P := Tryz.prog) (wr.alloc (.cells #[.iface τ u] 52)) 68 68 base 52 i0 _ 1 16 Tryz.underlying68 hi hz0 hz1 hz2 rfl (by omega) v P.length _ h1
    ⟨wr.heap.size, 0, none⟩ 1 1 [.iface τ u] rfl (World.news_of_block (cs := #[.iface τ u]) (t := 52) (fr := (0, 0)) (heap_alloc_new wr _)) (by simp [Value.oneCell'])
    (by omega) (by unfold maxLen; omega) (by omega) (by simp; omega) _ rfl
  have hvb : ∀ g, v.ownBlock = some g → base ≤ g := fun g hg => (frw_own h hg).1
  have hsz := hgrow.size
  simp only [World.size_alloc] at hsz
  refine ⟨g, cap, w2, hrun, ?_, ⟨hgrow.os, hgrow.tape, hgrow.output, by omega, fun q hq => ?_⟩⟩
  · unfold Frw
    simpa using hown2
  · exact (hgrow.block q (by simp; omega) (fun e => by have := hvb q e.symm; omega)).trans (hA.block q (by omega))

theorem frw_prt {base : Nat} {w : World} {v : Value} {P : List Value} (h : Frw base w v P) (q : Nat → Value) (hq : ∀ i (hi : i < P.length), P[i] = q i) : ∃ ao cap, v = .slice ao P.length cap ∧ Prt w ao P.length q := by
  rcases h.2 with ⟨rfl, hn⟩ | ⟨g, cap, cur, rfl, hg, hh, h1, h2, h3, h4⟩
  · exact ⟨none, 0, by rw [hn], fun i hi => by omega⟩
  · refine ⟨_, cap, rfl, fun i hi => ⟨g, 0, rfl, (Array.getElem?_eq_some_iff.1 hh).1, ?_⟩⟩
    have e : P[i]? = some (q i) := by rw [List.getElem?_eq_getElem hi, hq i hi]
    rw [← h4, List.getElem?_take, if_pos (by omega)] at e
    rw [Nat.zero_add, row_cell hh, ← Array.getElem?_toList, e]

theorem made_any (nd : Int) (t : Tm) (a1 : Option Addr) (l1 c1 : Nat) (a2 : Option Addr) (l2 c2 : Nat) (a3 : Option Addr) (l3 c3 : Nat) (ap : Option Addr) (n cp : Nat) (τ : Nat → TypeId) (u : Nat → Value) (w : World) (hk1 : 1 ≤ t.K) (hk2 : t.K ≤ 17) (hn : (n : Int) = shP t.K) (hq : Prt w ap n fun i => .iface (τ i) (u i)) :
    Calls Tryz.prog 52 #[.int .i64 nd, .agg #[.int .i64 t.K, .int .i64 t.N, .string t.S, .string t.Z, .int .i64 t.T.K, .int .i64 t.T.N, .slice a1 l1 c1, .slice a2 l2 c2, .slice a3 l3 c3], .slice ap n cp] w fun e w' => e = .returned (fval nd t.K t.N t.S t.Z t.T.K t.T.N (.slice a1 l1 c1) (.slice a2 l2 c2) (.iface (τ 0) (u 0)) (.iface (τ 1) (u 1)) (.iface (τ 2) (u 2))) ∧ Below w.heap.size w w' := by
  have hks : t.K = 1 ∨ t.K = 2 ∨ t.K = 3 ∨ t.K = 4 ∨ t.K = 5 ∨ t.K = 6 ∨ t.K = 7 ∨ t.K = 8 ∨ t.K = 9 ∨ t.K = 10 ∨ t.K = 11 ∨ t.K = 12 ∨ t.K = 13 ∨ t.K = 14 ∨ t.K = 15 ∨ t.K = 16 ∨ t.K = 17 := by omega
  rcases hks with e | e | e | e | e | e | e | e | e | e | e | e | e | e | e | e | e
  · have en : n = 0 := by rw [e] at hn; have : shP 1 = 0 := rfl; omega
    subst en
    refine (made_1 nd t a1 l1 c1 a2 l2 c2 a3 l3 c3 ap cp τ u w e hq).mono ?_
    rintro x w' ⟨rfl, hb⟩
    refine ⟨?_, hb⟩
    rw [e]
    rfl
  · have en : n = 0 := by rw [e] at hn; have : shP 2 = 0 := rfl; omega
    subst en
    refine (made_2 nd t a1 l1 c1 a2 l2 c2 a3 l3 c3 ap cp τ u w e hq).mono ?_
    rintro x w' ⟨rfl, hb⟩
    refine ⟨?_, hb⟩
    rw [e]
    rfl
  · have en : n = 0 := by rw [e] at hn; have : shP 3 = 0 := rfl; omega
    subst en
    refine (made_3 nd t a1 l1 c1 a2 l2 c2 a3 l3 c3 ap cp τ u w e hq).mono ?_
    rintro x w' ⟨rfl, hb⟩
    refine ⟨?_, hb⟩
    rw [e]
    rfl
  · have en : n = 1 := by rw [e] at hn; have : shP 4 = 1 := rfl; omega
    subst en
    refine (made_4 nd t a1 l1 c1 a2 l2 c2 a3 l3 c3 ap cp τ u w e hq).mono ?_
    rintro x w' ⟨rfl, hb⟩
    refine ⟨?_, hb⟩
    rw [e]
    rfl
  · have en : n = 2 := by rw [e] at hn; have : shP 5 = 2 := rfl; omega
    subst en
    refine (made_5 nd t a1 l1 c1 a2 l2 c2 a3 l3 c3 ap cp τ u w e hq).mono ?_
    rintro x w' ⟨rfl, hb⟩
    refine ⟨?_, hb⟩
    rw [e]
    rfl
  · have en : n = 2 := by rw [e] at hn; have : shP 6 = 2 := rfl; omega
    subst en
    refine (made_6 nd t a1 l1 c1 a2 l2 c2 a3 l3 c3 ap cp τ u w e hq).mono ?_
    rintro x w' ⟨rfl, hb⟩
    refine ⟨?_, hb⟩
    rw [e]
    rfl
  · have en : n = 2 := by rw [e] at hn; have : shP 7 = 2 := rfl; omega
    subst en
    refine (made_7 nd t a1 l1 c1 a2 l2 c2 a3 l3 c3 ap cp τ u w e hq).mono ?_
    rintro x w' ⟨rfl, hb⟩
    refine ⟨?_, hb⟩
    rw [e]
    rfl
  · have en : n = 3 := by rw [e] at hn; have : shP 8 = 3 := rfl; omega
    subst en
    refine (made_8 nd t a1 l1 c1 a2 l2 c2 a3 l3 c3 ap cp τ u w e hq).mono ?_
    rintro x w' ⟨rfl, hb⟩
    refine ⟨?_, hb⟩
    rw [e]
    rfl
  · have en : n = 2 := by rw [e] at hn; have : shP 9 = 2 := rfl; omega
    subst en
    refine (made_9 nd t a1 l1 c1 a2 l2 c2 a3 l3 c3 ap cp τ u w e hq).mono ?_
    rintro x w' ⟨rfl, hb⟩
    refine ⟨?_, hb⟩
    rw [e]
    rfl
  · have en : n = 1 := by rw [e] at hn; have : shP 10 = 1 := rfl; omega
    subst en
    refine (made_10 nd t a1 l1 c1 a2 l2 c2 a3 l3 c3 ap cp τ u w e hq).mono ?_
    rintro x w' ⟨rfl, hb⟩
    refine ⟨?_, hb⟩
    rw [e]
    rfl
  · have en : n = 1 := by rw [e] at hn; have : shP 11 = 1 := rfl; omega
    subst en
    refine (made_11 nd t a1 l1 c1 a2 l2 c2 a3 l3 c3 ap cp τ u w e hq).mono ?_
    rintro x w' ⟨rfl, hb⟩
    refine ⟨?_, hb⟩
    rw [e]
    rfl
  · have en : n = 0 := by rw [e] at hn; have : shP 12 = 0 := rfl; omega
    subst en
    refine (made_12 nd t a1 l1 c1 a2 l2 c2 a3 l3 c3 ap cp τ u w e hq).mono ?_
    rintro x w' ⟨rfl, hb⟩
    refine ⟨?_, hb⟩
    rw [e]
    rfl
  · have en : n = 2 := by rw [e] at hn; have : shP 13 = 2 := rfl; omega
    subst en
    refine (made_13 nd t a1 l1 c1 a2 l2 c2 a3 l3 c3 ap cp τ u w e hq).mono ?_
    rintro x w' ⟨rfl, hb⟩
    refine ⟨?_, hb⟩
    rw [e]
    rfl
  · have en : n = 3 := by rw [e] at hn; have : shP 14 = 3 := rfl; omega
    subst en
    refine (made_14 nd t a1 l1 c1 a2 l2 c2 a3 l3 c3 ap cp τ u w e hq).mono ?_
    rintro x w' ⟨rfl, hb⟩
    refine ⟨?_, hb⟩
    rw [e]
    rfl
  · have en : n = 2 := by rw [e] at hn; have : shP 15 = 2 := rfl; omega
    subst en
    refine (made_15 nd t a1 l1 c1 a2 l2 c2 a3 l3 c3 ap cp τ u w e hq).mono ?_
    rintro x w' ⟨rfl, hb⟩
    refine ⟨?_, hb⟩
    rw [e]
    rfl
  · have en : n = 1 := by rw [e] at hn; have : shP 16 = 1 := rfl; omega
    subst en
    refine (made_16 nd t a1 l1 c1 a2 l2 c2 a3 l3 c3 ap cp τ u w e hq).mono ?_
    rintro x w' ⟨rfl, hb⟩
    refine ⟨?_, hb⟩
    rw [e]
    rfl
  · have en : n = 2 := by rw [e] at hn; have : shP 17 = 2 := rfl; omega
    subst en
    refine (made_17 nd t a1 l1 c1 a2 l2 c2 a3 l3 c3 ap cp τ u w e hq).mono ?_
    rintro x w' ⟨rfl, hb⟩
    refine ⟨?_, hb⟩
    rw [e]
    rfl

end Go.Proofs.YtcepgedbmffkdaaGreat
