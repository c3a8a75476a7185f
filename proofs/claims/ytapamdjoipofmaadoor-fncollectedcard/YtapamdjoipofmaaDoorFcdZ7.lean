/-
  The program's 'right', 'objectAt'.
-/
import Derived.Test.YtapamdjoipofmaaDoorFcdZ6
import Derived.Test.YtapamdjoipofmaaDoorFcdZ3
import Derived.RangeFuncNested
import Derived.RangeFuncBound
import Derived.RangeFuncCalls
import Derived.RangeFuncLeaves
import Derived.Shelf.Abstract
import Derived.Shelf.RegionOpen
import Derived.WalkKit
import Derived.OwnWalkIn
import Derived.TacticsInMore
import Derived.LoopNIn
import Derived.LoopIn
namespace Go.Proofs.YtapamdjoipofmaaDoor
open Go.RowKit
set_option linter.unusedVariables false
set_option linter.unusedSimpArgs false

theorem all_take {α : Type} (p : α → Bool) (l : List α) (k : Nat) (h : k < l.length) : (l.take (k + 1)).all p = ((l.take k).all p && p l[k]) := by
  rw [List.take_succ_eq_append_getElem h, List.all_append]; simp
theorem all_false {α : Type} (p : α → Bool) (l : List α) (k : Nat) (h : k < l.length) (hf : p l[k] = false) : l.all p = false := by
  rw [List.all_eq_false]
  exact ⟨l[k], List.getElem_mem _, by rw [hf]; simp⟩

set_option maxRecDepth 100000 in
set_option maxHeartbeats 1000000 in
theorem right_any (g len cap : Nat) (hs : List Bool) (L B : Nat) (ao : Option Addr) (n c : Nat) (ws : List Wrd) (w : World) (hr : BRow w g hs) (hlen : len = hs.length) (hl : len ≤ 1048576) (hB : B ≤ w.heap.size) (hw : Ws L B w ao n ws) (hn : n ≤ 1048576) :
    Calls Tryd.prog 32 #[.slice (some ⟨g, 0, none⟩) len cap, .slice ao n c] w fun e w' => e = .returned (.bool (ws.all (rgt hs))) ∧ Below w.heap.size w w' := by
  have HN : Hid (n = ws.length) := hw.1
  have HL : Hid (len = hs.length) := hlen
  clear hlen
  go_enter Tryd.func32, Tryd.ntmps32
  go_wp2_with fail
  go_loopw [9] (fun i wr => ∃ k : Nat, k ≤ n ∧ i = .int .i64 k ∧ Hid ((ws.take k).all (rgt hs) = true) ∧ Below w.heap.size w wr) (fun i _ => n - (intOf i).toNat)
  case atStart => exact ⟨0, by omega, rfl, rfl, Below.refl _ _⟩
  case round =>
    obtain ⟨k, hk, rfl, HA, hbr⟩ := hrel
    have hsz := hbr.size
    by_cases hlt : k < n
    · have hlt' : k < ws.length := by have := HN.out; omega
      obtain ⟨b, o, rfl, _, hbB, htw⟩ := hw.2.2 k hlt'
      obtain ⟨e0, e1⟩ := htw.block (hbr.block b (by omega))
      have hwb : b < wr.heap.size := by omega
      have HT := all_take (rgt hs) ws k hlt'
      rw [HA.out, Bool.true_and] at HT
      have HT' : Hid ((ws.take (k + 1)).all (rgt hs) = rgt hs ws[k]) := HT
      have HAF : Hid (rgt hs ws[k] = false → ws.all (rgt hs) = false) := all_false _ _ k hlt'
      clear HT htw
      have hbX : Below w.heap.size w (wr.alloc (.cells #[.int .i64 ws[k].K, .int .i64 ws[k].N] 34)) := hbr.alloc hsz _
      have K := rightWord_any g len cap hs ws[k] _ (hr.bel hbX (hr.lt)) HL.out hl
      generalize ws[k] = x at *
      obtain ⟨q, hq⟩ : ∃ q, rgt hs x = q := ⟨_, rfl⟩
      rw [hq] at K HT' HAF
      clear hq
      go_wp2_with fail
      refine K.mono ?_
      rintro e w1 ⟨rfl, hb1⟩
      have hb1w : Below w.heap.size w w1 := hbX.trans (hb1.mono (by simp; omega))
      clear K
      cases q with
      | true =>
        go_wp2_with fail
        go_roundw
        case rel => exact ⟨k + 1, by omega, by go_num, HT', hb1w⟩
        case measure => simp [intOf]; omega
      | false =>
        go_wp2_with fail
        go_ret
        exact ⟨ret_bool (by rw [HAF.out (by trivial)]), hb1w⟩
    · have HE : Hid (ws.all (rgt hs) = true) := by show _ = _; rw [← HA.out, List.take_of_length_le (by have := HN.out; omega)]
      go_wp2_with fail
      go_ret
      exact ⟨ret_bool (by rw [HE.out]), hbr⟩

/-- What 'objectAt' comes to. -/
def OaEnd (ao : Option Addr) (a : Nat) (r : Option Nat) (e : Ending) : Prop := match r with
  | some c => ∃ b o, ao = some ⟨b, o, none⟩ ∧ e = .returned (.tuple #[.slice (some ⟨b, o + a * 2, none⟩) (c + 1) (c + 1), .bool true])
  | none => e = .returned (.tuple #[.slice none 0 0, .bool false])

set_option maxRecDepth 100000 in
set_option maxHeartbeats 1000000 in
theorem objectAt_any (L B : Nat) (ao : Option Addr) (len cap : Nat) (l : List Wrd) (a : Nat) (w : World) (hB : B ≤ w.heap.size) (hs : Ws L B w ao len l) (hl : len ≤ 1048576) (hcap : len ≤ cap) (ha : a < len) :
    Calls Tryd.prog 35 #[.slice ao len cap, .int .i64 a] w fun e w' => OaEnd ao a (ob l a) e ∧ Below w.heap.size w w' := by
  have hal : a < l.length := by have := hs.1; omega
  have HL : Hid (len = l.length) := hs.1
  obtain ⟨b, o, rfl, _, hbB, e0, e1⟩ := hs.2.2 a hal
  have K := fieldCount_any l[a] w
  have HO : Hid (∀ x : Wrd, l[a] = x → (cntH x = none → ob l a = none) ∧ (∀ c, cntH x = some c → a + c < l.length → ob l a = some c) ∧ (∀ c, cntH x = some c → l.length ≤ a + c → ob l a = none)) := by
    rintro x rfl
    exact ⟨fun h => ob_no hal h, fun c h1 h2 => ob_mk hal h1 h2, fun c h1 h2 => ob_far hal h1 h2⟩
  obtain ⟨x, hx⟩ : ∃ x, l[a] = x := ⟨_, rfl⟩
  have HO2 := HO.out x hx
  rw [hx] at e0 e1 K
  obtain ⟨r, hr⟩ : ∃ r, ob l a = r := ⟨_, rfl⟩
  rw [hr] at HO2 ⊢
  have HO3 : Hid ((cntH x = none → r = none) ∧ (∀ c, cntH x = some c → a + c < l.length → r = some c) ∧ (∀ c, cntH x = some c → l.length ≤ a + c → r = none)) := HO2
  clear HO HO2 hs hr hx hal
  go_enter Tryd.func35, Tryd.ntmps35
  go_wp2_with fail
  refine K.mono ?_
  rintro e w1 ⟨⟨c, ok, rfl, hok, hcn, hc1, hc2⟩, hb1⟩
  clear K
  cases hcx : cntH x with
  | none =>
    rw [hcx] at hok
    obtain rfl : ok = false := hok
    obtain rfl : r = none := HO3.out.1 hcx
    clear hcn
    go_wp2_with fail
    refine bodyPost_ret (results_tmp2 rfl _ _ _) rfl ?_
    exact ⟨rfl, hb1⟩
  | some k =>
    rw [hcx] at hok
    obtain rfl : ok = true := hok
    obtain rfl : c = (k : Int) := hcn k hcx
    by_cases hlt : a + k < len
    · obtain rfl : r = some k := HO3.out.2.1 k hcx (by have := HL.out; omega)
      clear hcn
      go_wp2_with fail
      refine bodyPost_ret (results_tmp2 rfl _ _ _) rfl ?_
      refine ⟨⟨b, o, rfl, ?_⟩, hb1⟩
      rw [show k + 1 = a + 1 + k - a by omega]
      rfl
    · obtain rfl : r = none := HO3.out.2.2 k hcx (by have := HL.out; omega)
      clear hcn
      go_wp2_with fail
      refine bodyPost_ret (results_tmp2 rfl _ _ _) rfl ?_
      exact ⟨rfl, hb1⟩

end Go.Proofs.YtapamdjoipofmaaDoor

/-
  What a round of a loop over an iterator keeps; blocks of cells there. No walk, no statement.
-/
namespace Go.Proofs.YtapamdjoipofmaaDoor
open Go.RowKit Go.Shelf
set_option linter.unusedVariables false
set_option linter.unusedSimpArgs false

/-- What a round that goes on keeps: what lay below n₀, and one box. -/
structure KpB (n₀ Bs : Nat) (W W' : World) : Prop where
  bel : Below n₀ W W'
  box : ∀ c t fr, W.heap[Bs]? = some (.cells c t fr) → W'.heap[Bs]? = some (.cells c t fr)
theorem KpB.refl (n₀ Bs : Nat) (W : World) : KpB n₀ Bs W W := ⟨Below.refl _ _, fun _ _ _ h => h⟩
theorem KpB.trans {n₀ Bs : Nat} {A B C : World} (h : KpB n₀ Bs A B) (k : KpB n₀ Bs B C) : KpB n₀ Bs A C := ⟨h.bel.trans k.bel, fun c t fr hc => k.box c t fr (h.box c t fr hc)⟩
theorem KpB.put {n₀ Bs B : Nat} (hB : n₀ ≤ B) (W : World) (l : Nat) (o o' : Obj) (hl : B ≤ l) (h : W.heap[l]? = some o) (ho : o.isCells = false) : KpB n₀ Bs W (W.putObj l o') := by
  have hg := grownBy_putObj' W l o'
  refine ⟨⟨hg.os, hg.tape, hg.output, hg.size, fun k hk => ?_⟩, fun c t fr hc => ?_⟩
  · exact World.putObj_heap_other (by omega)
  · have hne : l ≠ Bs := fun e => by
      subst e
      rw [hc] at h
      cases h
      cases ho
    rw [World.putObj_heap_other hne.symm]
    exact hc

/-- A block of cells. -/
def Blk (W : World) (B : Nat) (t : TypeId) (c : Array Value) : Prop := W.heap[B]? = some (.cells c t (0, 0))
theorem blk_own {β : Type} (B : Nat) (t : TypeId) (f : β → Array Value) : Own (fun s W => Blk W B t (f s)) := fun s X Y row hs hg hrow =>
  (hg.block B (Array.getElem?_eq_some_iff.1 hs).1 (fun e' => by obtain ⟨o, ho, hc⟩ := hrow B e'.symm; rw [show X.heap[B]? = _ from hs] at ho; cases ho; cases hc)).trans hs
theorem Blk.alloc {W : World} {B : Nat} {t : TypeId} {c : Array Value} (h : Blk W B t c) (o : Obj) : Blk (W.alloc o) B t c := (Below.heap_alloc _ _ _ (Array.getElem?_eq_some_iff.1 h).1).trans h
theorem Blk.set {W : World} {B B' : Nat} {t : TypeId} {c : Array Value} (h : Blk W B t c) (o : Nat) (v : Value) (hne : B ≠ B') : Blk (W.setCell ⟨B', o, none⟩ v) B t c := (row_other _ _ _ hne).trans h
theorem Blk.lt {W : World} {B : Nat} {t : TypeId} {c : Array Value} (h : Blk W B t c) : B < W.heap.size := (Array.getElem?_eq_some_iff.1 h).1

/-- Blocks of cells behind the end of a loop over an iterator. -/
theorem Blk.put {W : World} {B D : Nat} {t : TypeId} {c : Array Value} {o : Obj} (h : Blk W B t c) (hD : W.heap[D]? = some o) (ho : o.isCells = false) (o' : Obj) : Blk (W.putObj D o') B t c := by
  have hne : D ≠ B := fun e => by
    subst e
    rw [show W.heap[D]? = _ from h] at hD
    cases hD
    cases ho
  exact (World.putObj_heap_other hne.symm).trans h

theorem KpB.of_below {n₀ Bs : Nat} {X Y : World} (h : Below X.heap.size X Y) (hn : n₀ ≤ X.heap.size) : KpB n₀ Bs X Y :=
  ⟨h.mono hn, fun c t fr hc => (h.block Bs (Array.getElem?_eq_some_iff.1 hc).1).trans hc⟩
theorem grown_belK {X Y : World} (h : Below X.heap.size X Y) : X.grownBy Y none := ⟨h.os, h.tape, h.output, h.size, fun k hk _ => h.block k hk⟩

end Go.Proofs.YtapamdjoipofmaaDoor
