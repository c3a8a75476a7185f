/-
  What the model's 'l1New' comes to: a cursor over the bytes.
-/
import Derived.Test.YtapamdjoipofmaaDoorFcdDr
import Derived.Test.YtapamdjoipofmaaDoorFcdZ9
import Derived.Test.YtapamdjoipofmaaDoorFcdZ12
namespace Go.Proofs.YtapamdjoipofmaaDoor
open Go.RowKit
set_option linter.unusedVariables false
set_option linter.unusedSimpArgs false

/-- Bytes that lie in memory. -/
def Bts (w : World) (cao : Option Addr) (clen : Nat) : Prop := ∀ j, j < clen → ∃ b o x, cao = some ⟨b, o, none⟩ ∧ b < w.heap.size ∧ w.cell? ⟨b, o + j, none⟩ = some (.int .u8 x) ∧ 0 ≤ x ∧ x ≤ 255

set_option maxRecDepth 100000 in
set_option maxHeartbeats 1000000 in
theorem l1New_any (cao : Option Addr) (clen ccap : Nat) (w : World) (hb : Bts w cao clen) (hl : clen ≤ 1048576) :
    Calls Tryd.prog 10 #[.slice cao clen ccap] w fun e w' => ∃ p, e = .returned (.pointer (some ⟨p, 0, none⟩)) ∧ Below w.heap.size w w' ∧ w.heap.size ≤ p ∧ Cur w' p cao clen ccap := by
  go_enter Tryd.func10, Tryd.ntmps10
  go_wp2_with fail
  go_loopw [3, 4] (fun hv i wr => ∃ (x : Int) (j : Nat), j ≤ clen ∧ hv = .int .i64 x ∧ i = .int .i64 j ∧ wr = w) (fun _ i _ => clen - (intOf i).toNat)
  case atStart => exact ⟨_, 0, by omega, rfl, rfl, rfl⟩
  case round =>
    obtain ⟨x, j, hj, rfl, rfl, rfl⟩ := hrel
    by_cases hlt : j < clen
    · by_cases hlt2 : j < 4000
      · obtain ⟨b, o, y, rfl, hbw, hy, hy0, hy1⟩ := hb j hlt
        go_wp2_with fail
        go_roundw
        case rel => exact ⟨_, j + 1, by omega, rfl, by go_num, by first | rfl | trivial⟩
        case measure => simp [intOf]; omega
      · go_wp2_with fail
        go_ret
        refine ⟨wr.heap.size, rfl, (Below.refl _ _).alloc (Nat.le_refl _) _, Nat.le_refl _, ⟨0, x, heap_new rfl, by omega, by omega⟩, fun q hq => ?_, hl⟩
        obtain ⟨b, o, y, e, hbw, hy, hy0⟩ := hb q hq
        exact ⟨b, o, y, e, hbw, (World.cell?_of_block (Below.heap_alloc _ _ _ hbw)).trans hy, hy0⟩
    · go_wp2_with fail
      go_ret
      refine ⟨wr.heap.size, rfl, (Below.refl _ _).alloc (Nat.le_refl _) _, Nat.le_refl _, ⟨0, x, heap_new rfl, by omega, by omega⟩, fun q hq => ?_, hl⟩
      obtain ⟨b, o, y, e, hbw, hy, hy0⟩ := hb q hq
      exact ⟨b, o, y, e, hbw, (World.cell?_of_block (Below.heap_alloc _ _ _ hbw)).trans hy, hy0⟩

end Go.Proofs.YtapamdjoipofmaaDoor

/-
  What the model's 'l1Size', 'l12Head' and 'l12Some' come to: some number, some head, some word; the cursor is moved on.
-/
namespace Go.Proofs.YtapamdjoipofmaaDoor
open Go.RowKit
set_option linter.unusedVariables false
set_option linter.unusedSimpArgs false

theorem drw_refl {w : World} {p : Nat} {cao : Option Addr} {clen ccap : Nat} (hc : Cur w p cao clen ccap) : Drw w w p cao clen ccap := ⟨grown_refl' _ _, hc⟩
theorem drw_below {w w' : World} {p : Nat} {cao : Option Addr} {clen ccap : Nat} (hc : Cur w p cao clen ccap) (hb : Below w.heap.size w w') : Drw w w' p cao clen ccap := ⟨grown_below _ hb, hc.below hb⟩
/-- What lies in blocks that came later is written. -/
theorem drw_set {w w1 : World} {p : Nat} {cao : Option Addr} {clen ccap : Nat} (hD : Drw w w1 p cao clen ccap) (q o : Nat) (v : Value) (hq : w.heap.size ≤ q) (hp : p < w.heap.size) : Drw w (w1.setCell ⟨q, o, none⟩ v) p cao clen ccap :=
  ⟨⟨hD.grown.os, hD.grown.tape, hD.grown.output, by have := hD.grown.size; simpa using this, fun k hk hne => (row_other _ _ _ (by show k ≠ q; omega)).trans (hD.grown.block k hk hne)⟩, hD.cur.keep fun k hk => row_other _ _ _ (by show k ≠ q; omega)⟩
/-- A call that draws leaves a block of another. -/
theorem Drw.blk {w w1 : World} {p : Nat} {cao : Option Addr} {clen ccap : Nat} (hD : Drw w w1 p cao clen ccap) {k : Nat} (hk : k < w.heap.size) (hne : k ≠ p) : w1.heap[k]? = w.heap[k]? := hD.grown.block k hk (by simp; omega)

set_option maxHeartbeats 400000 in
theorem l1Size_any (cao : Option Addr) (clen ccap : Nat) (most : Int) (w : World) (hl : clen ≤ 1048576) (h1 : 3 ≤ most) (h2 : most ≤ 200) :
    Calls Tryd.prog 12 #[.slice cao clen ccap, .int .i64 most] w fun e w' => ∃ x : Int, e = .returned (.int .i64 x) ∧ 3 ≤ x ∧ x ≤ most ∧ Below w.heap.size w w' := by
  have hq : (clen : Int).tdiv 12 = (clen / 12 : Nat) := rfl
  have hq2 : clen / 12 ≤ 1048576 := by omega
  generalize clen / 12 = d at hq hq2
  by_cases hc : most < 3 + (d : Int)
  · go_enter Tryd.func12, Tryd.ntmps12
    go_wp2_with fail
    go_ret
    exact ⟨_, rfl, h1, Int.le_refl _, Below.refl _ _⟩
  · go_enter Tryd.func12, Tryd.ntmps12
    go_wp2_with fail
    go_ret
    exact ⟨_, rfl, by omega, by omega, Below.refl _ _⟩

/-- A head that is drawn has few fields. -/
def few (x : Wrd) : Prop := ∃ c, cntH x = some c ∧ c ≤ 3
theorem few5 : few ⟨5, 0⟩ := ⟨2, rfl, by omega⟩
theorem few6 : few ⟨6, 0⟩ := ⟨2, rfl, by omega⟩
theorem few7 (a b : Int) (h1 : 0 ≤ a) (h2 : a < 5) (h3 : 0 ≤ b) (h4 : b < 4) : few ⟨7, 100 * a + b⟩ := by
  refine ⟨(100 * a + b).toNat % 100, ?_, by omega⟩
  unfold cntH
  rw [if_neg (by simp), if_pos ⟨rfl, by simp; omega, by simp; omega⟩]

set_option maxHeartbeats 400000 in
theorem l12Head_any (p : Nat) (cao : Option Addr) (clen ccap : Nat) (w : World) (hc : Cur w p cao clen ccap) :
    Calls Tryd.prog 27 #[.pointer (some ⟨p, 0, none⟩)] w fun e w' => ∃ x : Wrd, e = .returned (vW x) ∧ few x ∧ Drw w w' p cao clen ccap := by
  have hp := hc.lt
  have hA : Below w.heap.size w (w.alloc (.cells #[.int .i64 0, .int .i64 0] 34)) := (Below.refl _ _).alloc (Nat.le_refl _) _
  have hr0 : (w.alloc (.cells #[.int .i64 0, .int .i64 0] 34)).heap[w.heap.size]? = some (.cells #[.int .i64 0, .int .i64 0] 34 (0, 0)) := heap_new rfl
  go_enter Tryd.func27, Tryd.ntmps27
  go_wp2_with fail
  refine (l1Below_any p cao clen ccap 3 _ (hc.below hA) (by omega) (by omega)).mono ?_
  rintro e w1 ⟨x, rfl, hx0, hx1, hD⟩
  have hr1 := (hD.blk (by simp) (by omega)).trans hr0
  have hD1 := (drw_below hc hA).trans hD
  obtain ⟨c0, c1⟩ := cells2 hr1
  have f1 := row_free hr1
  clear hr0
  by_cases e0 : x = 0
  · subst e0
    go_wp2_with fail
    refine bodyPost_ret (v := vW ⟨5, 0⟩) (by simp [results, Tryd.results27, go_sem, c0, c1]) rfl ⟨_, rfl, few5, ?_⟩
    exact drw_set (drw_set hD1 _ _ _ (Nat.le_refl _) hp) _ _ _ (Nat.le_refl _) hp
  · by_cases e1 : x = 1
    · subst e1
      go_wp2_with fail
      refine bodyPost_ret (v := vW ⟨6, 0⟩) (by simp [results, Tryd.results27, go_sem, c0, c1]) rfl ⟨_, rfl, few6, ?_⟩
      exact drw_set (drw_set hD1 _ _ _ (Nat.le_refl _) hp) _ _ _ (Nat.le_refl _) hp
    · go_wp2_with fail
      refine (l1Below_any p cao clen ccap 5 _ hD.cur (by omega) (by omega)).mono ?_
      rintro e w2 ⟨a, rfl, ha0, ha1, hD2⟩
      go_wp2_with fail
      refine (l1Below_any p cao clen ccap 4 _ hD2.cur (by omega) (by omega)).mono ?_
      rintro e w3 ⟨b, rfl, hb0, hb1, hD3⟩
      have hz1 := hD1.grown.size
      have hlt1 : w.heap.size < w1.heap.size := (Array.getElem?_eq_some_iff.1 hr1).1
      have hr3 := (hD3.blk (by have := hD2.grown.size; omega) (by omega)).trans ((hD2.blk hlt1 (by omega)).trans hr1)
      obtain ⟨d0, d1⟩ := cells2 hr3
      have f3 := row_free hr3
      clear c0 c1 f1
      have hD4 := (hD1.trans hD2).trans hD3
      go_wp2_with fail
      refine bodyPost_ret (v := vW ⟨7, 100 * a + b⟩) (by simp [results, Tryd.results27, go_sem, d0, d1]) rfl ⟨_, rfl, few7 a b ha0 ha1 hb0 hb1, ?_⟩
      exact drw_set (drw_set hD4 _ _ _ (Nat.le_refl _) hp) _ _ _ (Nat.le_refl _) hp

end Go.Proofs.YtapamdjoipofmaaDoor
