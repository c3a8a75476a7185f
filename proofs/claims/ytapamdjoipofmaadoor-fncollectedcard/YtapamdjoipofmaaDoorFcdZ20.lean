/-
  The model's 'l12Roots', 'l12Move'.
-/
import Derived.Test.YtapamdjoipofmaaDoorFcdRc2
import Derived.Test.YtapamdjoipofmaaDoorFcdZ19
import Derived.Test.YtapamdjoipofmaaDoorFcdZ12
import Derived.Test.YtapamdjoipofmaaDoorFcdZ7
import Derived.Test.YtapamdjoipofmaaDoorFcdZ8
namespace Go.Proofs.YtapamdjoipofmaaDoor
open Go.RowKit
set_option linter.unusedVariables false
set_option linter.unusedSimpArgs false

theorem nums_put {base : Nat} {w : World} {g n cap : Nat} {P : List Int} (h : Nums base w (.slice (some ⟨g, 0, none⟩) n cap) P) (j : Nat) (hj : j < P.length) (x : Int) :
    Nums base (w.setCell ⟨g, j, none⟩ (ik x)) (.slice (some ⟨g, 0, none⟩) n cap) (P.set j x) ∧ w.frozen? ⟨g, j, none⟩ = false := by
  rcases h.2 with ⟨e, hn⟩ | ⟨g', cap', cur, e, hg, hh, h1, h2, h3, h4⟩
  · cases e
  · injection e with e1 e2 e3
    injection e1 with e1
    injection e1 with e1
    subst e1
    subst e3
    refine ⟨⟨by simp, Or.inr ⟨g, _, cur.setIfInBounds j (ik x), by rw [e2]; simp, hg, row_set hh j (ik x), by simpa using h1, h2, by simpa using h3, ?_⟩⟩, row_free hh j⟩
    simp only [List.length_set, Array.toList_setIfInBounds]
    rw [List.take_set, h4, List.map_set]

theorem nums_cell {base : Nat} {w : World} {g n cap : Nat} {P : List Int} (h : Nums base w (.slice (some ⟨g, 0, none⟩) n cap) P) (j : Nat) (hj : j < P.length) : w.cell? ⟨g, j, none⟩ = some (ik P[j]) := by
  obtain ⟨g', c', e, _, _, hc⟩ := nums_at h j hj
  injection e with e1 e2 e3
  injection e1 with e1
  injection e1 with e1
  subst e1
  rw [Nat.zero_add] at hc
  exact hc

/-- Nothing has changed but two rows. -/
structure ChM (vt vc vc' : Value) (W W' : World) : Prop where
  os : W'.os = W.os
  tape : W'.tape = W.tape
  output : W'.output = W.output
  size : W.heap.size ≤ W'.heap.size
  block : ∀ k, k < W.heap.size → vt.ownBlock ≠ some k → vc.ownBlock ≠ some k → W'.heap[k]? = W.heap[k]?
  new : ∀ k, vc'.ownBlock = some k → vc.ownBlock = some k ∨ W.heap.size ≤ k
theorem ChM.of_below {vt vc : Value} {W W' : World} (h : Below W.heap.size W W') : ChM vt vc vc W W' := ⟨h.os, h.tape, h.output, h.size, fun k hk _ _ => h.block k hk, fun _ h => Or.inl h⟩

theorem ws_obj {L B : Nat} {w : World} {b o len : Nat} {l : List Wrd} (h : Ws L B w (some ⟨b, o, none⟩) len l) {a c : Nat} (hob : ob l a = some c) : Ws L B w (some ⟨b, o + a * 2, none⟩) (c + 1) (objW l a) := by
  have hl := objW_len hob
  obtain ⟨h1, _, h2⟩ := ob_some hob
  refine ⟨hl.symm, by have := h.2.1; have := h.1; omega, fun i hi => ?_⟩
  have e := objW_get hob (show i ≤ c by omega)
  rw [List.getElem?_eq_getElem hi, List.getElem?_eq_getElem (by omega)] at e
  injection e with e
  obtain ⟨b', o', e1, e2, e3, e4⟩ := h.2.2 (a + i) (by omega)
  injection e1 with e1
  injection e1 with e5 e6
  subst e5 e6
  refine ⟨b, _, rfl, e2, e3, ?_⟩
  rw [e, show o + a * 2 + i * 2 = o + (a + i) * 2 by omega]
  exact e4

end Go.Proofs.YtapamdjoipofmaaDoor

/-
  The program's 'moveTo': the words of a part of a row name their new places.
-/
namespace Go.Proofs.YtapamdjoipofmaaDoor
open Go.RowKit
set_option linter.unusedVariables false
set_option linter.unusedSimpArgs false

def mvP (P : List Int) (x : Wrd) : Wrd := if x.K = 4 then ⟨4, P.getD x.N.toNat 0⟩ else x
/-- The words from a on, m of them, are moved. -/
def mvR (P : List Int) (R : List Wrd) (a m : Nat) : List Wrd := (List.range R.length).map fun i => if a ≤ i ∧ i < a + m then mvP P (R.getD i ⟨0, 0⟩) else R.getD i ⟨0, 0⟩
theorem mvR_len (P : List Int) (R : List Wrd) (a m : Nat) : (mvR P R a m).length = R.length := by simp [mvR]
theorem mvR_get (P : List Int) (R : List Wrd) (a m : Nat) {i : Nat} {x : Wrd} (hx : R[i]? = some x) : (mvR P R a m)[i]? = some (if a ≤ i ∧ i < a + m then mvP P x else x) := by
  have hi := (List.getElem?_eq_some_iff.1 hx).1
  unfold mvR
  rw [List.getElem?_map, List.getElem?_range hi]
  simp only [Option.map_some, List.getD_eq_getElem?_getD, hx, Option.getD_some]
theorem mvR_zero (P : List Int) (R : List Wrd) (a : Nat) : mvR P R a 0 = R := by
  apply List.ext_getElem?
  intro i
  cases hx : R[i]? with
  | none =>
    have := List.getElem?_eq_none_iff.1 hx
    rw [List.getElem?_eq_none (by rw [mvR_len]; exact this)]
  | some x => rw [mvR_get P R a 0 hx, if_neg (by omega)]
theorem mvR_next (P : List Int) (R : List Wrd) (a m : Nat) {x : Wrd} (hx : R[a + m]? = some x) : mvR P R a (m + 1) = (mvR P R a m).set (a + m) (mvP P x) := by
  apply List.ext_getElem?
  intro i
  rw [List.getElem?_set]
  cases hy : R[i]? with
  | none =>
    have h1 := List.getElem?_eq_none_iff.1 hy
    have h2 := (List.getElem?_eq_some_iff.1 hx).1
    rw [List.getElem?_eq_none (by rw [mvR_len]; exact h1), if_neg (by omega), List.getElem?_eq_none (by rw [mvR_len]; exact h1)]
  | some y =>
    have h2 := (List.getElem?_eq_some_iff.1 hx).1
    rw [mvR_get P R a (m + 1) hy, mvR_get P R a m hy]
    by_cases e : a + m = i
    · subst e
      rw [hx] at hy
      injection hy with hy
      subst hy
      rw [if_pos (by omega), if_pos rfl, if_pos (by rw [mvR_len]; exact h2)]
    · rw [if_neg e]
      by_cases h : a ≤ i ∧ i < a + m
      · rw [if_pos h, if_pos (by omega)]
      · rw [if_neg h, if_neg (by omega)]
theorem mvR_same (P : List Int) (R : List Wrd) (a m : Nat) {x : Wrd} (hx : R[a + m]? = some x) (hk : x.K ≠ 4) : mvR P R a (m + 1) = mvR P R a m := by
  rw [mvR_next P R a m hx]
  have h1 := mvR_get P R a m hx
  rw [if_neg (by omega)] at h1
  have h2 : mvP P x = x := by unfold mvP; rw [if_neg hk]
  rw [h2]
  apply List.ext_getElem?
  intro i
  rw [List.getElem?_set]
  split
  · rename_i e
    subst e
    rw [if_pos (List.getElem?_eq_some_iff.1 h1).1, h1]
  · rfl

theorem set_same {w : World} {g o : Nat} {cs : Array Value} {t : TypeId} {v u : Value} {o2 : Nat} (hh : w.heap[g]? = some (.cells cs t (0, 0))) (hc : w.cell? ⟨g, o, none⟩ = some v) : ((w.setCell ⟨g, o, none⟩ v).setCell ⟨g, o2, none⟩ u).heap[g]? = (w.setCell ⟨g, o2, none⟩ u).heap[g]? := by
  rw [row_set (row_set hh o v) o2 u, row_set hh o2 u]
  rw [row_cell hh] at hc
  have e : cs.setIfInBounds o v = cs := by
    apply Array.ext_getElem?
    intro i
    rw [Array.getElem?_setIfInBounds]
    split
    · rename_i e
      subst e
      rw [if_pos (Array.getElem?_eq_some_iff.1 hc).1, hc]
    · rfl
  rw [e]
/-- A word's number is set. -/
theorem wors_putN {base : Nat} {w : World} {g n cap : Nat} {R : List Wrd} (h : Wors base w (.slice (some ⟨g, 0, none⟩) n cap) R) (j : Nat) {x : Wrd} (hx : R[j]? = some x) (y : Int) : Wors base (w.setCell ⟨g, j * 2 + 1, none⟩ (.int .i64 y)) (.slice (some ⟨g, 0, none⟩) n cap) (R.set j ⟨x.K, y⟩) := by
  obtain ⟨hj, rfl⟩ := List.getElem?_eq_some_iff.1 hx
  have h1 := (wors_put h j hj ⟨R[j].K, y⟩ _ rfl).1
  obtain ⟨g2, c2, he, _, _, htw, _⟩ := wors_at h j hj
  injection he with he
  injection he with he
  injection he with he
  subst he
  rw [Nat.zero_add] at htw
  refine wors_keep h1 (fun q hq => ?_)
  have e : g = q := by simp [Value.ownBlock] at hq; exact hq
  subst e
  rcases h.2 with ⟨e, hn⟩ | ⟨g', cap', cur, e, hg, hh, _⟩
  · cases e
  · injection e with e1 e2 e3
    injection e1 with e1
    injection e1 with e1
    subst e1
    exact (set_same hh htw.1).symm

set_option maxRecDepth 100000 in
set_option maxHeartbeats 2000000 in
theorem moveTo_any (bp bw : Nat) (vt : Value) (P : List Int) (g n cap : Nat) (R : List Wrd) (a m c : Nat) (w : World) (hP : Nums bp w vt P) (hR : Wors bw w (.slice (some ⟨g, 0, none⟩) n cap) R) (ham : a + m ≤ R.length) (hm : m ≤ 1048576) (hPl : P.length ≤ 1048576) (hin : ∀ i x, a ≤ i → i < a + m → R[i]? = some x → x.K = 4 → ∃ b : Nat, x.N = (b : Int) ∧ b < P.length) (hap : vt.ownBlock ≠ some g) :
    Calls Tryd.prog 21 #[vt, .slice (some ⟨g, a * 2, none⟩) m c] w fun e w' => e = .returned (.tuple #[]) ∧ Wors bw w' (.slice (some ⟨g, 0, none⟩) n cap) (mvR P R a m) ∧ Oth [g] w w' := by
  have hgo : (Value.slice (some ⟨g, 0, none⟩) n cap).ownBlock = some g := rfl
  have hgw : g < w.heap.size := (wors_own hR hgo).2
  have HIN : Hid (∀ i x, a ≤ i → i < a + m → R[i]? = some x → x.K = 4 → ∃ b : Nat, x.N = (b : Int) ∧ b < P.length) := hin
  have h0 : Wors bw w (.slice (some ⟨g, 0, none⟩) n cap) (mvR P R a 0) := by rw [mvR_zero]; exact hR
  clear hin
  go_enter Tryd.func21, Tryd.ntmps21
  go_wp2_with fail
  go_loopw [4, 5, 8] (fun _ _ i wr => ∃ (k : Nat), i = .int .i64 k ∧ k ≤ m ∧ Wors bw wr (.slice (some ⟨g, 0, none⟩) n cap) (mvR P R a k) ∧ Oth [g] w wr) (fun _ _ i _ => m - (intOf i).toNat)
  case atStart => exact ⟨0, rfl, by omega, h0, Oth.refl _ _⟩
  case round =>
    obtain ⟨k, rfl, hk, hW, hO⟩ := hrel
    have hOs := hO.size
    by_cases hlt : k < m
    · obtain ⟨x, hx⟩ : ∃ x, R[a + k]? = some x := ⟨R[a + k], List.getElem?_eq_getElem (by omega)⟩
      have hxk := mvR_get P R a k hx
      rw [if_neg (by omega)] at hxk
      obtain ⟨hxl, hxe⟩ := List.getElem?_eq_some_iff.1 hxk
      obtain ⟨g2, c2, he, _, _, htw, _⟩ := wors_at hW (a + k) hxl
      rw [hxe, Nat.zero_add, show (a + k) * 2 = a * 2 + k * 2 by omega] at htw
      injection he with he
      injection he with he
      injection he with he
      subst he
      obtain ⟨e0, e1⟩ := htw
      have hbA : Below wr.heap.size wr (wr.alloc (.cells #[.int .i64 x.K, .int .i64 x.N] 34)) := (Below.refl _ _).alloc (Nat.le_refl _) _
      have hWA := wors_bel hW hbA
      have hOA : Oth [g] w (wr.alloc (.cells #[.int .i64 x.K, .int .i64 x.N] 34)) := hO.alloc _
      clear hxl hxe hxk
      by_cases hk4 : x.K = 4
      · obtain ⟨b, hb, hbl⟩ := HIN.out (a + k) x (by omega) (by omega) hx hk4
        obtain ⟨gp, cp, hve, _, hgpw, hgc⟩ := nums_at hP b hbl
        have hgpg : gp ≠ g := by
          intro e
          subst e
          rw [hve] at hap
          exact hap rfl
        rw [Nat.zero_add] at hgc
        unfold ik at hgc
        have q0 := (World.cell?_of_block (hOA.block gp hgpw (by simp [hgpg]))).trans hgc
        have hWN := wors_putN hW (a + k) (x := x) (by rw [mvR_get P R a k hx, if_neg (by omega)]) P[b]
        have HMV : Hid ((mvR P R a k).set (a + k) ⟨x.K, P[b]⟩ = mvR P R a (k + 1)) := by
          show _ = _
          rw [mvR_next P R a k hx]
          unfold mvP
          rw [if_pos hk4, hk4, hb]
          simp [hbl]
        rw [HMV.out, show (a + k) * 2 + 1 = a * 2 + k * 2 + 1 by omega] at hWN
        have hON := hO.set (g := g) (by simp) (a * 2 + k * 2 + 1) (.int .i64 P[b])
        have hfz := wors_cells hWA
        have e1A := (bcell hbA (by omega) (a * 2 + k * 2 + 1)).trans e1
        obtain ⟨xK, xN⟩ := x
        simp only at hk4 hb
        subst hk4 hb hve
        clear hW hWA hO hOA hbA HMV hx hP hap
        generalize P[b] = pb at *
        go_wp2_with fail
        go_roundw
        case rel => exact ⟨k + 1, by go_num, by omega, wors_bel hWN ((Below.refl _ _).alloc (Nat.le_refl _) _), hON.alloc _⟩
        case measure => simp [intOf]; omega
      · have HMV : Hid (mvR P R a k = mvR P R a (k + 1)) := (mvR_same P R a k hx hk4).symm
        rw [HMV.out] at hWA
        clear hW hO hbA hx HMV
        go_wp2_with fail
        go_roundw
        case rel => exact ⟨k + 1, by go_num, by omega, hWA, hOA⟩
        case measure => simp [intOf]; omega
    · obtain rfl : k = m := by omega
      go_wp2_with fail
      refine bodyPost_end (v := .tuple #[]) (by simp [results, Tryd.results21, go_sem]) rfl ?_
      exact ⟨rfl, hW, hO⟩

end Go.Proofs.YtapamdjoipofmaaDoor
