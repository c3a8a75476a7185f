/-
  The library's 'slices.Backward' over a row of instructions: what it hands to the loop's body.
-/
import Derived.Test.YtchdmpipfmedaaaPcS
import Derived.RangeFuncNested
import Derived.RangeFuncBound
import Derived.RangeFuncCalls
import Derived.RangeFuncLeaves
import Derived.Shelf.Abstract
import Derived.Shelf.RegionOpen
import Derived.WalkKit
import Derived.OwnWalkIn
import Derived.TacticsInMore
import Derived.LoopNIn
import Derived.LoopIn
namespace Go.Proofs.Ytchdmpipfmedaaa
open Go.RowKit Go.Shelf
set_option linter.unusedVariables false
set_option linter.unusedSimpArgs false

attribute [local go_sem] Oper.semAt_some

/-- What a round is handed: a place, an instruction, the slice of its list. -/
structure At where
  k : Int
  i : Insn
  ao : Option Addr
  len : Nat
  cap : Nat

def encA (x : At) : Array Value := #[.int .i64 x.k, vI x.i x.ao x.len x.cap]

/-- The slice holds these. -/
def LiesA (n₀ : Nat) (W : World) (ao : Option Addr) (A : Nat → At) (m : Nat) : Prop :=
  ∀ j, j < m → ∃ b o, ao = some ⟨b, o, none⟩ ∧ b < n₀ ∧ (A j).k = (j : Int) ∧ Sev W b (o + j * 7) (A j).i (A j).ao (A j).len (A j).cap

theorem LiesA.below {n₀ : Nat} {W W' : World} {ao : Option Addr} {A : Nat → At} {m : Nat} (h : LiesA n₀ W ao A m) (hb : Below n₀ W W') : LiesA n₀ W' ao A m := fun j hj => by
  obtain ⟨b, o, e, h1, h2, h3⟩ := h j hj
  exact ⟨b, o, e, h1, h2, h3.block (hb.block b h1)⟩

/-- The last k of them, from the last one on. -/
def dn (A : Nat → At) (m k : Nat) : List At := (List.range k).map fun t => A (m - 1 - t)
theorem dn_succ (A : Nat → At) (m k : Nat) : dn A m (k + 1) = dn A m k ++ [A (m - 1 - k)] := by simp [dn, List.range_succ]
theorem dn_len (A : Nat → At) (m k : Nat) : (dn A m k).length = k := by simp [dn]
theorem dn_prefix (A : Nat → At) (m k k' : Nat) (h : k ≤ k') : dn A m k <+: dn A m k' := by
  refine ⟨((List.range k').drop k).map fun t => A (m - 1 - t), ?_⟩
  unfold dn
  rw [← List.map_append]
  congr 1
  have : List.range k = (List.range k').take k := by rw [List.take_range, Nat.min_eq_left h]
  rw [this, List.take_append_drop]

/-- What a round that goes on keeps: what lay below n₀, and one box. -/
structure KpB (n₀ Bs : Nat) (W W' : World) : Prop where
  bel : Below n₀ W W'
  box : ∀ c t fr, W.heap[Bs]? = some (.cells c t fr) → W'.heap[Bs]? = some (.cells c t fr)
theorem KpB.refl (n₀ Bs : Nat) (W : World) : KpB n₀ Bs W W := ⟨Below.refl _ _, fun _ _ _ h => h⟩
theorem KpB.trans {n₀ Bs : Nat} {A B C : World} (h : KpB n₀ Bs A B) (k : KpB n₀ Bs B C) : KpB n₀ Bs A C := ⟨h.bel.trans k.bel, fun c t fr hc => k.box c t fr (h.box c t fr hc)⟩
theorem KpB.put {n₀ Bs B : Nat} (hB : n₀ ≤ B) (W : World) (l : Nat) (o o' : Obj) (hl : B ≤ l) (h : W.heap[l]? = some o) (ho : o.isCells = false) : KpB n₀ Bs W (W.putObj l o') := by
  have hg := grownBy_putObj' W l o'
  refine ⟨⟨hg.os, hg.tape, hg.output, hg.size, fun k hk => ?_⟩, fun c t fr hc => ?_⟩
  · exact World.putObj_heap_other (by omega)
  · have hne : l ≠ Bs := fun e => by
      subst e
      rw [hc] at h
      cases h
      cases ho
    rw [World.putObj_heap_other hne.symm]
    exact hc

set_option maxRecDepth 100000 in
set_option maxHeartbeats 2000000 in
theorem back1_in (F : Fence) (n : Nat) (hf : F.fn 47) (hro : F.round = none) (hn : 1 ≤ n) (l Bs n₀ m cap : Nat) (ao : Option Addr) (A : Nat → At) (hm : m ≤ 1048576) (J Jx : List At → World → Prop)
    (hY : ∀ pre x W, J pre W → pre.length < m → YieldAt F (n - 1) Try.prog l (encA x) W fun e W' =>
      (e = .returned (.bool true) ∧ J (pre ++ [x]) W' ∧ KpB n₀ Bs W W') ∨ (e = .returned (.bool false) ∧ Jx (pre ++ [x]) W'))
    (W : World) (hBs : W.heap[Bs]? = some (.cells #[.slice ao m cap] 27 (0, 0))) (hc : LiesA n₀ W ao A m) (h0 : J [] W) :
    CallsIn F n Try.prog 47 #[.func (.yield l) #[] #[], .pointer (some ⟨Bs, 0, none⟩)] W fun e W' => (∃ v, e = .returned v) ∧
      ((∃ ys, ys = dn A m m ∧ J ys W') ∨ (∃ pre, pre <+: dn A m m ∧ Jx pre W')) := by
  have hB0 := row_cell hBs 0
  refine callsIn_of_wp Try.func47 rfl hf ?_ hro
  simp only [Try.ntmps47, List.size_toArray, List.length_cons, List.length_nil, Nat.reduceAdd, Nat.reduceSub, Array.replicate_succ, Array.replicate_zero, List.push_toArray, List.append_toArray, List.nil_append, List.cons_append]
  gi_wp2
  gi_loopw [3] (fun i wr => ∃ (t : Nat) (i0 : Int), t ≤ m ∧ i0 = (t : Int) - 1 ∧ i = .int .i64 i0 ∧ J (dn A m (m - t)) wr ∧ KpB n₀ Bs W wr) (fun i _ => (intOf i + 1).toNat)
  case atStart => exact ⟨m, _, Nat.le_refl _, rfl, by go_num, by rw [Nat.sub_self]; exact h0, KpB.refl _ _ _⟩
  case round =>
    obtain ⟨t, i0, ht, hi0, rfl, hJs, hnx⟩ := hrel
    cases t with
    | zero =>
      have hneg : i0 < 0 := by omega
      clear hi0
      gi_wp2
      go_end0
      exact ⟨⟨_, rfl⟩, .inl ⟨_, rfl, hJs⟩⟩
    | succ j =>
      obtain rfl : i0 = (j : Int) := by omega
      have hj : j < m := ht
      obtain ⟨b, o, rfl, hbn, hk, hsev⟩ := hc j hj
      have hBr := row_cell (hnx.box _ _ _ hBs) 0
      have hD : dn A m (m - j) = dn A m (m - (j + 1)) ++ [A j] := by
        rw [show m - j = m - (j + 1) + 1 by omega, dn_succ]
        rw [show m - 1 - (m - (j + 1)) = j by omega]
      have HD : Hid (dn A m (m - j) = dn A m (m - (j + 1)) ++ [A j]) := hD
      have HP : Hid (dn A m (m - j) <+: dn A m m) := dn_prefix A m _ _ (by omega)
      have hlen : (dn A m (m - (j + 1))).length < m := by rw [dn_len]; omega
      obtain ⟨x, hx⟩ : ∃ x, A j = x := ⟨_, rfl⟩
      rw [hx] at hk hsev HD
      obtain ⟨xk, xi, xao, xlen, xcap⟩ := x
      simp only at hk hsev
      subst hk
      obtain ⟨e0, e1, e2, e3, e4, e5, e6⟩ := hsev.block (hnx.bel.block b hbn)
      obtain ⟨fn, tmps, assign, body, hy, hR⟩ := hY _ ⟨(j : Int), xi, xao, xlen, xcap⟩ wr hJs hlen
      dsimp only [encA, vI] at hy
      clear hx hsev hD hi0 hB0
      gi_wp2
      refine hR.mono ?_
      rintro e W3 (⟨rfl, hJ3, hk3⟩ | ⟨rfl, hJx3⟩)
      · gi_wp2
        go_roundw
        case rel => exact ⟨j, (j : Int) - 1, by omega, rfl, by go_num, by rw [HD.out]; exact hJ3, hnx.trans hk3⟩
        case measure => simp [intOf]
      · gi_wp2
        refine bodyPost_ret (results_none rfl _ _ _) rfl ?_
        exact ⟨⟨_, rfl⟩, .inr ⟨_, HP.out, by rw [HD.out]; exact hJx3⟩⟩

set_option maxHeartbeats 1000000 in
theorem back_in (F : Fence) (n : Nat) (hf : F.fn 43) (hro : F.round = none) (a : Option Addr) (len cap : Nat) (w : World) :
    CallsIn F n Try.prog 43 #[.slice a len cap] w fun e w' => e = .returned (.func (.func 47) #[] #[.pointer (some ⟨w.heap.size, 0, none⟩)]) ∧ w' = w.alloc (.cells #[.slice a len cap] 27) := by
  refine callsIn_of_wp Try.func43 rfl hf ?_ hro
  simp only [Try.ntmps43, List.size_toArray, List.length_cons, List.length_nil, Nat.reduceAdd, Nat.reduceSub, Array.replicate_succ, Array.replicate_zero, List.push_toArray, List.append_toArray, List.nil_append, List.cons_append]
  gi_wp2
  go_ret
  exact ⟨rfl, rfl⟩

theorem back_stops (F : Fence) (n : Nat) (hf : F.fn 47) (hro : F.round = none) (hn : 1 ≤ n) (Bs n₀ m cap : Nat) (ao : Option Addr) (A : Nat → At) (hm : m ≤ 1048576) (w : World) (hn₀ : n₀ ≤ w.heap.size)
    (hb : w.heap[Bs]? = some (.cells #[.slice ao m cap] 27 (0, 0))) (hc : LiesA n₀ w ao A m) :
    SeqStopsK F n Try.prog 47 #[.pointer (some ⟨Bs, 0, none⟩)] encA (KpB n₀ Bs) (fun ys => ys = dn A m m) (fun pre => pre <+: dn A m m) m w := fun l J Jx W hW _ _ hY h0 =>
  back1_in F n hf hro hn l Bs n₀ m cap ao A hm J Jx hY W ((hW.block Bs (Array.getElem?_eq_some_iff.1 hb).1).trans hb) (hc.below (hW.mono hn₀)) h0

end Go.Proofs.Ytchdmpipfmedaaa
