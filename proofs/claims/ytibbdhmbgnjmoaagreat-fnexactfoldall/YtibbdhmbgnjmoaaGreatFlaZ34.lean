/-
  A part of a term is put anew, in memory of its own: no walk.
-/
import Derived.Test.YtibbdhmbgnjmoaaGreatFlaZ31
import Derived.Test.YtibbdhmbgnjmoaaGreatFlaZ33
import Derived.Test.YtibbdhmbgnjmoaaGreatFlaZ1
import Derived.Test.YtibbdhmbgnjmoaaGreatFlaZ12
import Derived.Test.YtibbdhmbgnjmoaaGreatFlaZ14
namespace Go.Proofs.YtibbdhmbgnjmoaaGreat
open Go.RowKit
set_option linter.unusedVariables false
set_option linter.unusedSimpArgs false

/-- The parts ahead of i are folded. -/
def mixM (t : Tm) (i : Nat) : Tm := { t with A := (t.A.take i).map foldM ++ t.A.drop i }

theorem mix_zero (t : Tm) : mixM t 0 = t := by cases t; simp [mixM]
theorem mix_all (t : Tm) : mixM t t.A.length = upM t := by simp [mixM, upM]
theorem mix_len (t : Tm) (i : Nat) (h : i ≤ t.A.length) : (mixM t i).A.length = t.A.length := by simp [mixM]; omega
theorem mix_get (t : Tm) (i : Nat) (h : i < t.A.length) (h' : i < (mixM t i).A.length) : (mixM t i).A[i] = t.A[i] := by
  rw [List.getElem_of_eq (show (mixM t i).A = (t.A.take i).map foldM ++ t.A.drop i from rfl), List.getElem_append_right (by simp; omega)]
  simp [Nat.min_eq_left (Nat.le_of_lt h)]
theorem mix_set (t : Tm) (i : Nat) (h : i < t.A.length) : (mixM t i).A.set i (foldM t.A[i]) = (mixM t (i + 1)).A := by
  show ((t.A.take i).map foldM ++ t.A.drop i).set i (foldM t.A[i]) = (t.A.take (i + 1)).map foldM ++ t.A.drop (i + 1)
  have e : i - (List.map foldM (List.take i t.A)).length = 0 := by simp; omega
  rw [List.set_append_right _ _ (by simp; omega), e, List.drop_eq_getElem_cons h, List.set_cons_zero, List.take_succ_eq_append_getElem h, List.map_append, List.append_assoc]
  rfl

theorem nodup_setb {bss : List (List Nat)} {i M : Nat} {bx : List Nat} (hi : i < bss.length) (h : bss.flatten.Nodup) (hx : bx.Nodup) (hlt : ∀ b ∈ bss.flatten, b < M) (hge : ∀ b ∈ bx, M ≤ b) : (bss.set i bx).flatten.Nodup := by
  have e1 : bss.flatten = (bss.take i).flatten ++ (bss[i] ++ (bss.drop (i + 1)).flatten) := by
    have h0 : bss = bss.take i ++ bss[i] :: bss.drop (i + 1) := by rw [← List.drop_eq_getElem_cons hi, List.take_append_drop]
    have h1 := congrArg List.flatten h0
    rw [List.flatten_append, List.flatten_cons] at h1
    exact h1
  have e2 : (bss.set i bx).flatten = (bss.take i).flatten ++ (bx ++ (bss.drop (i + 1)).flatten) := by
    rw [List.set_eq_take_append_cons_drop, if_pos hi]
    simp
  rw [e2]
  rw [e1] at h hlt
  obtain ⟨n1, n2, d1⟩ := List.nodup_append.1 h
  obtain ⟨n3, n4, d2⟩ := List.nodup_append.1 n2
  refine List.nodup_append.2 ⟨n1, List.nodup_append.2 ⟨hx, n4, fun a ha b hb => ?_⟩, fun a ha b hb => ?_⟩
  · have h1 := hge a ha
    have h2 := hlt b (by simp only [List.mem_append]; exact Or.inr (Or.inr hb))
    omega
  · rcases List.mem_append.1 hb with hb | hb
    · have h1 := hge b hb
      have h2 := hlt a (by simp only [List.mem_append]; exact Or.inl ha)
      omega
    · exact d1 a ha b (by simp only [List.mem_append]; exact Or.inr hb)

theorem Ow.deeperR {L B : Nat} {w : World} {D D' : Nat} {ao : Option Addr} {len : Nat} {ts : List Tr} {bs : List Nat} (h : Ow w D ao len ts bs) (hD : D ≤ D') : Ow w D' ao len ts bs := h.deeper hD

/-- Deeper, types and terms. -/
theorem OwM.deep2 {w : World} {D D' : Nat} (hD : D ≤ D') : ∀ {d d' : Nat} {ao : Option Addr} {len : Nat} {ts : List Tm} {bs : List Nat}, d ≤ d' → OwM w D d ao len ts bs → OwM w D' d' ao len ts bs := by
  intro d
  induction d with
  | zero =>
    intro d' ao len ts bs _ h
    cases d' with
    | zero => exact h
    | succ d' => exact Or.inl h
  | succ d ih =>
    intro d' ao len ts bs hd h
    cases d' with
    | zero => omega
    | succ d' =>
      rcases h with h | ⟨g, cs, bss, e, hl, hm, hg, hc, hbl, hbs, hE⟩
      · exact Or.inl h
      · refine Or.inr ⟨g, cs, bss, e, hl, hm, hg, hc, hbl, hbs, fun i hi hi' => ?_⟩
        obtain ⟨a1, l1, c1, a2, l2, c2, a3, l3, c3, h9, hf⟩ := hE i hi hi'
        exact ⟨a1, l1, c1, a2, l2, c2, a3, l3, c3, h9, hf.map (fun _ _ _ _ _ hr => hr.deeper hD) (fun _ _ _ _ _ hr => ih (by omega) hr)⟩

theorem FmO.deep2 {L B : Nat} {w : World} {D D' d d' : Nat} {t : Tm} {a1 a2 a3 : Option Addr} {l1 l2 l3 : Nat} (h : FmO L B w D d t a1 l1 a2 l2 a3 l3) (hD : D ≤ D') (hd : d ≤ d') : FmO L B w D' d' t a1 l1 a2 l2 a3 l3 := by
  obtain ⟨bs, h1, h2, h3⟩ := h
  exact ⟨bs, h1.map (fun _ _ _ _ _ hr => hr.deeper hD) (fun _ _ _ _ _ hr => hr.deep2 hD hd), h2, h3⟩

theorem FmP.deep2 {P : Nat → Prop} {L B : Nat} {w : World} {D D' d d' : Nat} {t : Tm} {a1 a2 a3 : Option Addr} {l1 l2 l3 : Nat} (h : FmP P L B w D d t a1 l1 a2 l2 a3 l3) (hD : D ≤ D') (hd : d ≤ d') : FmP P L B w D' d' t a1 l1 a2 l2 a3 l3 := by
  obtain ⟨bs, h1, h2, h3⟩ := h
  exact ⟨bs, h1.map (fun _ _ _ _ _ hr => hr.deeper hD) (fun _ _ _ _ _ hr => hr.deep2 hD hd), h2, h3⟩

/-- One part anew, in blocks that were not there: what the row holds behind nine stores. -/
theorem fmp_put {P : Nat → Prop} {L M B : Nat} {w w1 : World} {D d : Nat} {u x : Tm} {b1 b2 : Option Addr} {m1 m2 m3 g : Nat} (h : FmP P L M w D (d + 1) u b1 m1 b2 m2 (some ⟨g, 0, none⟩) m3) (hs : ∀ k, k < M → P k → w1.heap[k]? = w.heap[k]?) (hMB : M ≤ B) (hL : L ≤ M) {x1 x2 x3 : Option Addr} {n1 n2 n3 i1 i2 i3 : Nat} (hx : FmO M B w1 D d x x1 n1 x2 n2 x3 n3) (hP : ∀ k, M ≤ k → k < B → P k) (i : Nat) (hi : i < u.A.length) :
    FmP P L B (set9 w1 g (i * 9) (.int .i64 x.K) (.int .i64 x.N) (.string x.S) (.string x.Z) (.int .i64 x.T.K) (.int .i64 x.T.N) (.slice x1 n1 i1) (.slice x2 n2 i2) (.slice x3 n3 i3)) D (d + 1) { u with A := u.A.set i x } b1 m1 b2 m2 (some ⟨g, 0, none⟩) m3 := by
  obtain ⟨bs, ⟨p1, p2, p3, rfl, h1, h2, h3, h4, hA⟩, hnd, hbd⟩ := h
  obtain ⟨bx, hfx, hndx, hbdx⟩ := hx
  rcases hA with ⟨_, hA, _⟩ | ⟨g', cs, bss, hg', hl, hm, hg, hc, hbl, rfl, hE⟩
  · rw [hA] at hi; simp at hi
  cases hg'
  have hgb := hbd g (by simp)
  have hg1 : w1.heap[g]? = some (.cells cs 34 (0, 0)) := (hs g hgb.1.2 hgb.2).trans hg
  obtain ⟨cs', hrow, hcs⟩ := set9_row (o := i * 9) (a0 := .int .i64 x.K) (a1 := .int .i64 x.N) (a2 := .string x.S) (a3 := .string x.Z) (a4 := .int .i64 x.T.K) (a5 := .int .i64 x.T.N) (a6 := .slice x1 n1 i1) (a7 := .slice x2 n2 i2) (a8 := .slice x3 n3 i3) hg1
  have hoth : ∀ k, k ≠ g → (set9 w1 g (i * 9) (.int .i64 x.K) (.int .i64 x.N) (.string x.S) (.string x.Z) (.int .i64 x.T.K) (.int .i64 x.T.N) (.slice x1 n1 i1) (.slice x2 n2 i2) (.slice x3 n3 i3)).heap[k]? = w1.heap[k]? := fun k hk => set9_other k hk
  have hold : ∀ b, b ∈ p1 ++ p2 ++ g :: bss.flatten → b ≠ g → (set9 w1 g (i * 9) (.int .i64 x.K) (.int .i64 x.N) (.string x.S) (.string x.Z) (.int .i64 x.T.K) (.int .i64 x.T.N) (.slice x1 n1 i1) (.slice x2 n2 i2) (.slice x3 n3 i3)).heap[b]? = w.heap[b]? := fun b hb hne => (hoth b hne).trans (hs b (hbd b hb).1.2 (hbd b hb).2)
  have hnd2 := hnd
  rw [List.nodup_append] at hnd2
  obtain ⟨hnd12, hndg, hdis⟩ := hnd2
  have hgf : g ∉ bss.flatten := (List.nodup_cons.1 hndg).1
  have hg12 : g ∉ p1 ++ p2 := fun hh => hdis g hh g (by simp) rfl
  have hmem : ∀ b, b ∈ (bss.set i bx).flatten → b ∈ bss.flatten ∨ b ∈ bx := by
    intro b hb
    obtain ⟨l, hl1, hl2⟩ := List.mem_flatten.1 hb
    rcases List.mem_or_eq_of_mem_set hl1 with h' | rfl
    · exact Or.inl (List.mem_flatten.2 ⟨l, h', hl2⟩)
    · exact Or.inr hl2
  have hib : i < bss.length := by omega
  refine ⟨p1 ++ p2 ++ g :: (bss.set i bx).flatten, ⟨p1, p2, g :: (bss.set i bx).flatten, rfl, h1, h2, Ow.keep (fun b hb => hold b (by simp [hb]) (fun e => hg12 (e ▸ by simp [hb]))) h3, Ow.keep (fun b hb => hold b (by simp [hb]) (fun e => hg12 (e ▸ by simp [hb]))) h4, Or.inr ⟨g, cs', bss.set i bx, rfl, by simpa using hl, hm, hrow, by omega, by simpa using hbl, rfl, fun j hj hj' => ?_⟩⟩, ?_, ?_⟩
  · have hj1 : j < u.A.length := by simpa using hj
    have hj2 : j < bss.length := by simpa using hj'
    by_cases hji : j = i
    · subst hji
      refine ⟨x1, n1, i1, x2, n2, i2, x3, n3, i3, ?_, ?_⟩
      · simp only [List.getElem_set_self]
        exact set9_cells hg1 (by omega)
      · simp only [List.getElem_set_self]
        exact FldO.keep (fun b hb => hoth b (by have := (hbdx b hb).1; omega)) hfx
    · obtain ⟨y1, k1, j1, y2, k2, j2, y3, k3, j3, h9, hfl⟩ := hE j hj1 hj2
      refine ⟨y1, k1, j1, y2, k2, j2, y3, k3, j3, ?_, ?_⟩
      · simp only [List.getElem_set_ne (fun e => hji e.symm)]
        refine (h9.world (hs g hgb.1.2 hgb.2)).of_cells fun q hq => ?_
        exact set9_far hg1 _ (by omega)
      · simp only [List.getElem_set_ne (fun e => hji e.symm)]
        exact FldO.keep (fun b hb => hold b (by simp; exact Or.inr (Or.inr (Or.inr ⟨_, List.getElem_mem hj2, hb⟩))) (fun e => hgf (e ▸ mem_part hj2 hb))) hfl
  · rw [List.nodup_append]
    refine ⟨hnd12, ?_, ?_⟩
    · refine List.nodup_cons.2 ⟨fun hh => ?_, ?_⟩
      · rcases hmem g hh with h' | h'
        · exact hgf h'
        · have := (hbdx g h').1; omega
      · exact nodup_setb (M := M) hib (List.nodup_cons.1 hndg).2 hndx (fun b hb => (hbd b (by simp only [List.mem_append, List.mem_cons]; exact Or.inr (Or.inr hb))).1.2) (fun b hb => (hbdx b hb).1)
    · intro a ha b hb
      rcases List.mem_cons.1 hb with rfl | hb
      · exact hdis a ha b (by simp)
      · rcases hmem b hb with h' | h'
        · exact hdis a ha b (List.mem_cons_of_mem _ h')
        · have h5 := (hbd a (List.mem_append_left _ ha)).1.2
          have := (hbdx b h').1
          omega
  · intro b hb
    rcases List.mem_append.1 hb with hb | hb
    · have := hbd b (List.mem_append_left _ hb)
      exact ⟨⟨this.1.1, by omega⟩, this.2⟩
    · rcases List.mem_cons.1 hb with rfl | hb
      · exact ⟨⟨hgb.1.1, by omega⟩, hgb.2⟩
      · rcases hmem b hb with h' | h'
        · have := hbd b (by simp; exact Or.inr (Or.inr (Or.inr (by simpa using h'))))
          exact ⟨⟨this.1.1, by omega⟩, this.2⟩
        · have := hbdx b h'
          exact ⟨⟨by omega, this.2⟩, hP b this.1 this.2⟩

end Go.Proofs.YtibbdhmbgnjmoaaGreat

/-
  The model's 'l1In'.
-/
namespace Go.Proofs.YtibbdhmbgnjmoaaGreat
open Go.RowKit
set_option linter.unusedVariables false
set_option linter.unusedSimpArgs false

theorem l1In3_any (x lo hi : Int) (b : Bool) (hb : b = (decide (lo ≤ x) && decide (x ≤ hi))) (w : World) : Calls Tryz.prog 88 #[.int .i64 x, .int .i64 lo, .int .i64 hi] w fun e w' => e = .returned (.bool b) ∧ w' = w := by
  by_cases h1 : lo ≤ x
  · by_cases h2 : x ≤ hi
    · have HB : Hid (b = true) := by show _ = _; rw [hb]; simp [h1, h2]
      clear hb
      go_enter Tryz.func88, Tryz.ntmps88
      go_wp2_with fail
      go_ret
      exact ⟨ret_bool (by rw [HB.out]), rfl⟩
    · have HB : Hid (b = false) := by show _ = _; rw [hb]; simp [h2]
      clear hb
      go_enter Tryz.func88, Tryz.ntmps88
      go_wp2_with fail
      go_ret
      exact ⟨ret_bool (by rw [HB.out]), rfl⟩
  · have HB : Hid (b = false) := by show _ = _; rw [hb]; simp [h1]
    clear hb
    go_enter Tryz.func88, Tryz.ntmps88
    go_wp2_with fail
    go_ret
    exact ⟨ret_bool (by rw [HB.out]), rfl⟩

end Go.Proofs.YtibbdhmbgnjmoaaGreat

/-
  What the model's 'l4Op' comes to, of two numbers. (Written by mksf1.py.)
-/
namespace Go.Proofs.YtibbdhmbgnjmoaaGreat
open Go.RowKit
set_option linter.unusedVariables false
set_option linter.unusedSimpArgs false

/-- A number, or a truth, as the model's value. -/
abbrev c4 (k n : Int) : Array Value := #[.int .i64 k, .int .i64 n, .slice none 0 0, .int .i64 0, .int .i64 0, .string ⟨#[]⟩, .string ⟨#[]⟩, .int .i64 0, .int .i64 0, .slice none 0 0, .slice none 0 0, .slice none 0 0, .slice none 0 0]
abbrev v4 (k n : Int) : Value := .agg #[.int .i64 k, .int .i64 n, .slice none 0 0, .int .i64 0, .int .i64 0, .string ⟨#[]⟩, .string ⟨#[]⟩, .int .i64 0, .int .i64 0, .slice none 0 0, .slice none 0 0, .slice none 0 0, .slice none 0 0]

/-- A run that has raised nothing, or this number. -/
structure Rn (w w' : World) (rp : Nat) (e n : Int) : Prop where
  kf : Kf (fun k => k = rp) w (fun k => k = rp) w'
  is : w'.heap[rp]? = some (.cells #[.int .i64 0, .int .i64 0, .int .i64 e, .int .i64 n] 86 (0, 0))

/-- What an operation of two numbers leaves: a number or a truth, or a raise. -/
def Op4 (w : World) (rp : Nat) (b : Bool) (k v : Int) (e : Ending) (w' : World) : Prop := ∃ k' v' u, e = .returned (v4 k' v') ∧ Rn w w' rp (if b = true then 0 else 2) u ∧ (b = true → k' = k ∧ v' = v)

theorem rn_set {w W : World} {rp q j : Nat} {e u : Int} {v : Value} (h : Rn w W rp e u) (hq : w.heap.size ≤ q) (hr : rp < w.heap.size) : Rn w (W.setCell ⟨q, j, none⟩ v) rp e u :=
  ⟨⟨h.kf.os, h.kf.tape, h.kf.output, by simpa using h.kf.size, fun i hi hne => (row_other _ _ _ (by omega)).trans (h.kf.block i hi hne), h.kf.own⟩, (row_other _ _ _ (by omega)).trans h.is⟩

set_option maxRecDepth 100000 in
set_option maxHeartbeats 4000000 in
theorem l4Raise_any (n : Int) (rp : Nat) (w : World) (hr : w.heap[rp]? = some (.cells #[.int .i64 0, .int .i64 0, .int .i64 0, .int .i64 0] 86 (0, 0))) :
    Calls Tryz.prog 87 #[.pointer (some ⟨rp, 0, none⟩), .int .i64 n] w fun e w' => e = .returned (v4 0 0) ∧ Rn w w' rp 2 n := by
  have hrl : rp < w.heap.size := (Array.getElem?_eq_some_iff.1 hr).1
  obtain ⟨X, hX⟩ : ∃ X, X = (w.setCell ⟨rp, 2, none⟩ (.int .i64 2)).setCell ⟨rp, 3, none⟩ (.int .i64 n) := ⟨_, rfl⟩
  have hXr : X.heap[rp]? = some (.cells #[.int .i64 0, .int .i64 0, .int .i64 2, .int .i64 n] 86 (0, 0)) := by rw [hX, row_set (row_set hr _ _)]; rfl
  have hXo : ∀ i, i ≠ rp → X.heap[i]? = w.heap[i]? := fun i hi => by rw [hX, row_other _ _ _ hi, row_other _ _ _ hi]
  have hXs : X.heap.size = w.heap.size := by rw [hX]; simp
  have hfin : Rn w (X.alloc (.cells #[.int .i64 0, .int .i64 0, .slice none 0 0, .int .i64 0, .int .i64 0, .string ⟨#[]⟩, .string ⟨#[]⟩, .int .i64 0, .int .i64 0, .slice none 0 0, .slice none 0 0, .slice none 0 0, .slice none 0 0] 90)) rp 2 n := by
    refine ⟨⟨by rw [hX]; rfl, by rw [hX]; rfl, by rw [hX]; rfl, by simp; omega, fun i hi hne => ?_, fun i hi => Or.inl hi⟩, ?_⟩
    · rw [Below.heap_alloc _ _ _ (by omega)]; exact hXo i hne
    · rw [Below.heap_alloc _ _ _ (by omega)]; exact hXr
  have hz : ∀ A j, (X.alloc (.cells A 90)).cell? ⟨w.heap.size, j, none⟩ = A[j]? := fun A j => row_cell (heap_new hXs.symm) j
  rw [hX] at hfin hz
  have r0 := row_cell hr 2
  have r1 := row_cell hr 3
  have rf := row_free hr
  clear hX hXr hXo hXs
  go_enter Tryz.func87, Tryz.ntmps87
  go_wp2_with fail
  refine bodyPost_ret (v := v4 0 0) (by simp [results, Tryz.results87, go_sem, hz]) rfl ⟨rfl, hfin⟩

set_option maxRecDepth 100000 in
set_option maxHeartbeats 8000000 in
theorem l4Op_any (n x y : Int) (rp : Nat) (w : World) (hn : 1 ≤ n ∧ n ≤ 5) (hx : -1000000 ≤ x ∧ x ≤ 1000000) (hy : -1000000 ≤ y ∧ y ≤ 1000000) (hr : w.heap[rp]? = some (.cells #[.int .i64 0, .int .i64 0, .int .i64 0, .int .i64 0] 86 (0, 0))) :
    Calls Tryz.prog 68 #[.pointer (some ⟨rp, 0, none⟩), .int .i64 n, v4 1 x, v4 1 y] w (Op4 w rp (rkB n x y) (if 4 ≤ n then 2 else 1) (rkV n x y)) := by
  have hrl : rp < w.heap.size := (Array.getElem?_eq_some_iff.1 hr).1
  have hm1 : -1000000000000 ≤ x * y ∧ x * y ≤ 1000000000000 := by
    have h1 : x.natAbs ≤ 1000000 := by omega
    have h2 : y.natAbs ≤ 1000000 := by omega
    have h3 : (x * y).natAbs ≤ 1000000 * 1000000 := by rw [Int.natAbs_mul]; exact Nat.mul_le_mul h1 h2
    omega
  have w1 : IntKind.i64.wrap (x + y) = x + y := by rw [IntKind.wrap_i64]; omega
  have w2 : IntKind.i64.wrap (x - y) = x - y := by rw [IntKind.wrap_i64]; omega
  have w3 : IntKind.i64.wrap (x * y) = x * y := by rw [IntKind.wrap_i64]; omega
  have hz : ∀ A j, (((w.alloc (.cells #[.int .i64 1, .int .i64 x, .slice none 0 0, .int .i64 0, .int .i64 0, .string ⟨#[]⟩, .string ⟨#[]⟩, .int .i64 0, .int .i64 0, .slice none 0 0, .slice none 0 0, .slice none 0 0, .slice none 0 0] 90)).alloc (.cells #[.int .i64 1, .int .i64 y, .slice none 0 0, .int .i64 0, .int .i64 0, .string ⟨#[]⟩, .string ⟨#[]⟩, .int .i64 0, .int .i64 0, .slice none 0 0, .slice none 0 0, .slice none 0 0, .slice none 0 0] 90)).alloc (.cells A 90)).cell? ⟨w.heap.size + 1 + 1, j, none⟩ = A[j]? := fun A j => row_cell (heap_new (by simp)) j
  have hz2 : ∀ A E j, ((((w.alloc (.cells #[.int .i64 1, .int .i64 x, .slice none 0 0, .int .i64 0, .int .i64 0, .string ⟨#[]⟩, .string ⟨#[]⟩, .int .i64 0, .int .i64 0, .slice none 0 0, .slice none 0 0, .slice none 0 0, .slice none 0 0] 90)).alloc (.cells #[.int .i64 1, .int .i64 y, .slice none 0 0, .int .i64 0, .int .i64 0, .string ⟨#[]⟩, .string ⟨#[]⟩, .int .i64 0, .int .i64 0, .slice none 0 0, .slice none 0 0, .slice none 0 0, .slice none 0 0] 90)).alloc (.cells A 90)).alloc (.cells E 90)).cell? ⟨w.heap.size + 1 + 1, j, none⟩ = A[j]? := fun A E j => row_cell ((Below.heap_alloc _ _ _ (by simp)).trans (heap_new (by simp))) j
  have hb3 : ∀ A, Below w.heap.size w (((w.alloc (.cells #[.int .i64 1, .int .i64 x, .slice none 0 0, .int .i64 0, .int .i64 0, .string ⟨#[]⟩, .string ⟨#[]⟩, .int .i64 0, .int .i64 0, .slice none 0 0, .slice none 0 0, .slice none 0 0, .slice none 0 0] 90)).alloc (.cells #[.int .i64 1, .int .i64 y, .slice none 0 0, .int .i64 0, .int .i64 0, .string ⟨#[]⟩, .string ⟨#[]⟩, .int .i64 0, .int .i64 0, .slice none 0 0, .slice none 0 0, .slice none 0 0, .slice none 0 0] 90)).alloc (.cells A 90)) := fun A => (((Below.refl _ _).alloc (Nat.le_refl _) _).alloc (by simp) _).alloc (by simp; omega) _
  have hb4 : ∀ A E, Below w.heap.size w ((((w.alloc (.cells #[.int .i64 1, .int .i64 x, .slice none 0 0, .int .i64 0, .int .i64 0, .string ⟨#[]⟩, .string ⟨#[]⟩, .int .i64 0, .int .i64 0, .slice none 0 0, .slice none 0 0, .slice none 0 0, .slice none 0 0] 90)).alloc (.cells #[.int .i64 1, .int .i64 y, .slice none 0 0, .int .i64 0, .int .i64 0, .string ⟨#[]⟩, .string ⟨#[]⟩, .int .i64 0, .int .i64 0, .slice none 0 0, .slice none 0 0, .slice none 0 0, .slice none 0 0] 90)).alloc (.cells A 90)).alloc (.cells E 90)) := fun A E => (hb3 A).alloc (hb3 A).size _
  have hgood : ∀ w' : World, Below w.heap.size w w' → Rn w w' rp 0 0 := fun w' hb => ⟨Kf.of_below hb, (hb.block rp hrl).trans hr⟩
  rcases (by omega : n = 1 ∨ n = 2 ∨ n = 3 ∨ n = 4 ∨ n = 5) with rfl | rfl | rfl | rfl | rfl
  · obtain ⟨v, hv⟩ : ∃ v, x + y = v := ⟨_, rfl⟩
    have e1 : rkV 1 x y = v := by simp [rkV, hv]
    rw [hv] at w1
    have e2 : rkB 1 x y = (decide (-1000000 ≤ v) && decide (v ≤ 1000000)) := by rw [rkB, e1]
    obtain ⟨b, hb⟩ : ∃ b, rkB 1 x y = b := ⟨_, rfl⟩
    rw [hb, e1]
    have HB : Hid (b = (decide (-1000000 ≤ v) && decide (v ≤ 1000000))) := by show _ = _; rw [← hb, e2]
    clear e1 e2 hb
    go_enter Tryz.func68, Tryz.ntmps68
    go_wp2_with fail
    refine (l1In3_any v (-1000000) 1000000 b HB.out _).mono ?_
    rintro e w' ⟨rfl, rfl⟩
    cases b
    · go_wp2_with fail
      refine (l4Raise_any (-1) rp _ ((( hb3 _).block rp hrl).trans hr)).mono ?_
      rintro e w5 ⟨rfl, hR⟩
      have hq : w5.heap[w.heap.size + 1 + 1]? = some (.cells #[.int .i64 0, .int .i64 0, .slice none 0 0, .int .i64 0, .int .i64 0, .string ⟨#[]⟩, .string ⟨#[]⟩, .int .i64 0, .int .i64 0, .slice none 0 0, .slice none 0 0, .slice none 0 0, .slice none 0 0] 90 (0, 0)) := (hR.kf.block (w.heap.size + 1 + 1) (by simp) (by omega)).trans (heap_new (by simp))
      have p0 := row_cell hq 0
      have p1 := row_cell hq 1
      have p2 := row_cell hq 2
      have p3 := row_cell hq 3
      have p4 := row_cell hq 4
      have p5 := row_cell hq 5
      have p6 := row_cell hq 6
      have p7 := row_cell hq 7
      have p8 := row_cell hq 8
      have p9 := row_cell hq 9
      have p10 := row_cell hq 10
      have p11 := row_cell hq 11
      have p12 := row_cell hq 12
      have pf := row_free hq
      have hRw : Rn w w5 rp 2 (-1) := ⟨(Kf.of_below (hb3 _)).trans hR.kf, hR.is⟩
      clear hq
      go_wp2_with fail
      refine bodyPost_ret (v := v4 0 0) (by simp [results, Tryz.results68, go_sem, p0, p1, p2, p3, p4, p5, p6, p7, p8, p9, p10, p11, p12]) rfl ?_
      refine ⟨0, 0, -1, rfl, ?_, fun h => by cases h⟩
      show Rn _ _ _ 2 _
      repeat (first | with_reducible exact hRw | with_reducible refine rn_set ?_ (by omega) hrl)
    · go_wp2_with fail
      refine bodyPost_ret (v := v4 1 v) (by simp [results, Tryz.results68, go_sem, hz]) rfl ?_
      exact ⟨1, v, 0, rfl, hgood _ (hb3 _), fun _ => ⟨rfl, rfl⟩⟩
  · obtain ⟨v, hv⟩ : ∃ v, x - y = v := ⟨_, rfl⟩
    have e1 : rkV 2 x y = v := by simp [rkV, hv]
    rw [hv] at w2
    have e2 : rkB 2 x y = (decide (-1000000 ≤ v) && decide (v ≤ 1000000)) := by rw [rkB, e1]
    obtain ⟨b, hb⟩ : ∃ b, rkB 2 x y = b := ⟨_, rfl⟩
    rw [hb, e1]
    have HB : Hid (b = (decide (-1000000 ≤ v) && decide (v ≤ 1000000))) := by show _ = _; rw [← hb, e2]
    clear e1 e2 hb
    go_enter Tryz.func68, Tryz.ntmps68
    go_wp2_with fail
    refine (l1In3_any v (-1000000) 1000000 b HB.out _).mono ?_
    rintro e w' ⟨rfl, rfl⟩
    cases b
    · go_wp2_with fail
      refine (l4Raise_any (-1) rp _ ((( hb3 _).block rp hrl).trans hr)).mono ?_
      rintro e w5 ⟨rfl, hR⟩
      have hq : w5.heap[w.heap.size + 1 + 1]? = some (.cells #[.int .i64 0, .int .i64 0, .slice none 0 0, .int .i64 0, .int .i64 0, .string ⟨#[]⟩, .string ⟨#[]⟩, .int .i64 0, .int .i64 0, .slice none 0 0, .slice none 0 0, .slice none 0 0, .slice none 0 0] 90 (0, 0)) := (hR.kf.block (w.heap.size + 1 + 1) (by simp) (by omega)).trans (heap_new (by simp))
      have p0 := row_cell hq 0
      have p1 := row_cell hq 1
      have p2 := row_cell hq 2
      have p3 := row_cell hq 3
      have p4 := row_cell hq 4
      have p5 := row_cell hq 5
      have p6 := row_cell hq 6
      have p7 := row_cell hq 7
      have p8 := row_cell hq 8
      have p9 := row_cell hq 9
      have p10 := row_cell hq 10
      have p11 := row_cell hq 11
      have p12 := row_cell hq 12
      have pf := row_free hq
      have hRw : Rn w w5 rp 2 (-1) := ⟨(Kf.of_below (hb3 _)).trans hR.kf, hR.is⟩
      clear hq
      go_wp2_with fail
      refine bodyPost_ret (v := v4 0 0) (by simp [results, Tryz.results68, go_sem, p0, p1, p2, p3, p4, p5, p6, p7, p8, p9, p10, p11, p12]) rfl ?_
      refine ⟨0, 0, -1, rfl, ?_, fun h => by cases h⟩
      show Rn _ _ _ 2 _
      repeat (first | with_reducible exact hRw | with_reducible refine rn_set ?_ (by omega) hrl)
    · go_wp2_with fail
      refine bodyPost_ret (v := v4 1 v) (by simp [results, Tryz.results68, go_sem, hz]) rfl ?_
      exact ⟨1, v, 0, rfl, hgood _ (hb3 _), fun _ => ⟨rfl, rfl⟩⟩
  · obtain ⟨v, hv⟩ : ∃ v, x * y = v := ⟨_, rfl⟩
    have e1 : rkV 3 x y = v := by simp [rkV, hv]
    rw [hv] at w3
    have e2 : rkB 3 x y = (decide (-1000000 ≤ v) && decide (v ≤ 1000000)) := by rw [rkB, e1]
    obtain ⟨b, hb⟩ : ∃ b, rkB 3 x y = b := ⟨_, rfl⟩
    rw [hb, e1]
    have HB : Hid (b = (decide (-1000000 ≤ v) && decide (v ≤ 1000000))) := by show _ = _; rw [← hb, e2]
    clear e1 e2 hb
    go_enter Tryz.func68, Tryz.ntmps68
    go_wp2_with fail
    refine (l1In3_any v (-1000000) 1000000 b HB.out _).mono ?_
    rintro e w' ⟨rfl, rfl⟩
    cases b
    · go_wp2_with fail
      refine (l4Raise_any (-1) rp _ ((( hb3 _).block rp hrl).trans hr)).mono ?_
      rintro e w5 ⟨rfl, hR⟩
      have hq : w5.heap[w.heap.size + 1 + 1]? = some (.cells #[.int .i64 0, .int .i64 0, .slice none 0 0, .int .i64 0, .int .i64 0, .string ⟨#[]⟩, .string ⟨#[]⟩, .int .i64 0, .int .i64 0, .slice none 0 0, .slice none 0 0, .slice none 0 0, .slice none 0 0] 90 (0, 0)) := (hR.kf.block (w.heap.size + 1 + 1) (by simp) (by omega)).trans (heap_new (by simp))
      have p0 := row_cell hq 0
      have p1 := row_cell hq 1
      have p2 := row_cell hq 2
      have p3 := row_cell hq 3
      have p4 := row_cell hq 4
      have p5 := row_cell hq 5
      have p6 := row_cell hq 6
      have p7 := row_cell hq 7
      have p8 := row_cell hq 8
      have p9 := row_cell hq 9
      have p10 := row_cell hq 10
      have p11 := row_cell hq 11
      have p12 := row_cell hq 12
      have pf := row_free hq
      have hRw : Rn w w5 rp 2 (-1) := ⟨(Kf.of_below (hb3 _)).trans hR.kf, hR.is⟩
      clear hq
      go_wp2_with fail
      refine bodyPost_ret (v := v4 0 0) (by simp [results, Tryz.results68, go_sem, p0, p1, p2, p3, p4, p5, p6, p7, p8, p9, p10, p11, p12]) rfl ?_
      refine ⟨0, 0, -1, rfl, ?_, fun h => by cases h⟩
      show Rn _ _ _ 2 _
      repeat (first | with_reducible exact hRw | with_reducible refine rn_set ?_ (by omega) hrl)
    · go_wp2_with fail
      refine bodyPost_ret (v := v4 1 v) (by simp [results, Tryz.results68, go_sem, hz]) rfl ?_
      exact ⟨1, v, 0, rfl, hgood _ (hb3 _), fun _ => ⟨rfl, rfl⟩⟩
  · by_cases hlt : x < y
    · skip
      have e1 : rkV 4 x y = 1 := by simp [rkV, hlt]
      have e2 : rkB 4 x y = true := by rw [rkB, e1]; decide
      rw [e2, e1]
      go_enter Tryz.func68, Tryz.ntmps68
      go_wp2_with fail
      refine bodyPost_ret (v := v4 2 1) (by simp [results, Tryz.results68, go_sem, hz2]) rfl ?_
      exact ⟨2, 1, 0, rfl, hgood _ (hb4 _ _), fun _ => ⟨rfl, rfl⟩⟩
    · have e1 : rkV 4 x y = 0 := by simp [rkV, hlt]
      have e2 : rkB 4 x y = true := by rw [rkB, e1]; decide
      rw [e2, e1]
      have hge : y ≤ x := by omega
      go_enter Tryz.func68, Tryz.ntmps68
      go_wp2_with fail
      refine bodyPost_ret (v := v4 2 0) (by simp [results, Tryz.results68, go_sem, hz2]) rfl ?_
      exact ⟨2, 0, 0, rfl, hgood _ (hb4 _ _), fun _ => ⟨rfl, rfl⟩⟩
  · by_cases hlt : x = y
    · subst hlt
      have e1 : rkV 5 x x = 1 := by simp [rkV]
      have e2 : rkB 5 x x = true := by rw [rkB, e1]; decide
      rw [e2, e1]
      go_enter Tryz.func68, Tryz.ntmps68
      go_wp2_with fail
      refine bodyPost_ret (v := v4 2 1) (by simp [results, Tryz.results68, go_sem, hz2]) rfl ?_
      exact ⟨2, 1, 0, rfl, hgood _ (hb4 _ _), fun _ => ⟨rfl, rfl⟩⟩
    · have e1 : rkV 5 x y = 0 := by simp [rkV, hlt]
      have e2 : rkB 5 x y = true := by rw [rkB, e1]; decide
      rw [e2, e1]
      have hlb : (x == y) = false := by simp [hlt]
      go_enter Tryz.func68, Tryz.ntmps68
      go_wp2_with fail
      refine bodyPost_ret (v := v4 2 0) (by simp [results, Tryz.results68, go_sem, hz2]) rfl ?_
      exact ⟨2, 0, 0, rfl, hgood _ (hb4 _ _), fun _ => ⟨rfl, rfl⟩⟩

end Go.Proofs.YtibbdhmbgnjmoaaGreat
