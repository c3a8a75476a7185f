/-
  The program's 'headsOf'.
-/
import Derived.Test.YtapamdjoipofmaaDoorFcdZ8
import Derived.Test.YtapamdjoipofmaaDoorFcdZ9
import Derived.Stop.RegionWithIn
namespace Go.Proofs.YtapamdjoipofmaaDoor
open Go.RowKit Go.Shelf
set_option linter.unusedVariables false
set_option linter.unusedSimpArgs false

set_option maxHeartbeats 400000 in
theorem heapSizeOk_any (n : Int) (w : World) : Calls Tryd.prog 37 #[.int .i64 n] w fun e w' => e = .returned (.bool (sizeB n)) ∧ w' = w := by
  obtain ⟨ans, hans⟩ : ∃ c, sizeB n = c := ⟨_, rfl⟩
  rw [hans]
  have HA : Hid (sizeB n = ans) := hans
  clear hans
  by_cases h0 : 0 ≤ n
  · by_cases h1 : n ≤ 5000
    · have HE : Hid (ans = true) := by show _ = _; rw [← HA.out]; simp [sizeB, h0, h1]
      go_enter Tryd.func37, Tryd.ntmps37
      go_wp2_with fail
      go_ret
      exact ⟨ret_bool (by rw [HE.out]), rfl⟩
    · have HE : Hid (ans = false) := by show _ = _; rw [← HA.out]; simp [sizeB, h0, h1]
      go_enter Tryd.func37, Tryd.ntmps37
      go_wp2_with fail
      go_ret
      exact ⟨ret_bool (by rw [HE.out]), rfl⟩
  · have HE : Hid (ans = false) := by show _ = _; rw [← HA.out]; simp [sizeB, h0]
    go_enter Tryd.func37, Tryd.ntmps37
    go_wp2_with fail
    go_ret
    exact ⟨ret_bool (by rw [HE.out]), rfl⟩

/-- Where the last of these ends. -/
def endP (pre : List (Nat × Nat)) : Nat := match pre.getLast? with
  | some x => x.1 + x.2 + 1
  | none => 0
theorem endP_snoc (pre : List (Nat × Nat)) (x : Nat × Nat) : endP (pre ++ [x]) = x.1 + x.2 + 1 := by simp [endP]
theorem vis_endP {l : List Wrd} : ∀ {p : List (Nat × Nat)} {a b : Nat}, vis l a p b → p ≠ [] → endP p = b
  | [x], a, b, h, _ => by
    have e1 := h.1
    have e2 : a + x.2 + 1 = b := h.2.2
    show x.1 + x.2 + 1 = b
    omega
  | x :: y :: ys, a, b, h, _ => by
    have := vis_endP h.2.2 (by simp)
    rw [← this]
    simp [endP]
theorem endP_all (l : List Wrd) : endP (allO l) = endO l := by
  by_cases h : allO l = []
  · have hv := (vis_all l).1
    rw [h] at hv ⊢
    exact hv
  · exact vis_endP (vis_all l).1 h

/-- What 'headsOf' comes to. -/
def HoEnd (n : Nat) (ok : Bool) (len : Nat) (hs : List Bool) (e : Ending) (w : World) : Prop :=
  if ok then ∃ g, e = .returned (.tuple #[.slice (some ⟨g, 0, none⟩) len len, .bool true]) ∧ n ≤ g ∧ BRow w g hs else e = .returned (.tuple #[.slice none 0 0, .bool false])

theorem flds_len {l : List Wrd} {a c : Nat} (h : ob l a = some c) : (flds l (a, c)).length = c := by
  obtain ⟨h1, _, h2⟩ := ob_some h
  simp only [flds, List.length_take, List.length_drop]
  omega
theorem ws_flds {L B : Nat} {w : World} {b o len : Nat} {l : List Wrd} (h : Ws L B w (some ⟨b, o, none⟩) len l) {a c : Nat} (hob : ob l a = some c) : Ws L B w (some ⟨b, o + a * 2 + 2, none⟩) c (flds l (a, c)) := by
  have hl := flds_len hob
  obtain ⟨h1, _, h2⟩ := ob_some hob
  refine ⟨hl.symm, by have := h.2.1; have := h.1; omega, fun i hi => ?_⟩
  have e := flds_get l (a, c) i
  rw [if_pos (by simp only; omega), List.getElem?_eq_getElem hi, List.getElem?_eq_getElem (by simp only; omega)] at e
  injection e with e
  obtain ⟨b', o', e1, e2, e3, e4⟩ := h.2.2 (a + 1 + i) (by omega)
  injection e1 with e1
  injection e1 with e5 e6
  subst e5 e6
  refine ⟨b, _, rfl, e2, e3, ?_⟩
  rw [e, show o + a * 2 + 2 + i * 2 = o + (a + 1 + i) * 2 by omega]
  exact e4

/-- The same, at the address that the slice's cut shows. -/
theorem ws_cut {L B : Nat} {w : World} {b o len : Nat} {l : List Wrd} (h : Ws L B w (some ⟨b, o, none⟩) len l) {a c : Nat} (hob : ob l a = some c) : Ws L B w (if c = 0 then some ⟨b, o + a * 2, none⟩ else some ⟨b, o + a * 2 + 2, none⟩) c (flds l (a, c)) := by
  have h2 := ws_flds h hob
  split
  · rename_i h0
    refine ⟨h2.1, h2.2.1, fun i hi => ?_⟩
    rw [flds_len hob] at hi
    omega
  · exact h2

/-- Two result cells are written. -/
theorem two_cells {W w : World} {R1 R2 n : Nat} {t1 t2 : TypeId} {u1 u2 : Value} (hne : R1 ≠ R2) (h1 : W.heap[R1]? = some (.cells #[u1] t1 (0, 0))) (h2 : W.heap[R2]? = some (.cells #[u2] t2 (0, 0))) (hn1 : n ≤ R1) (hn2 : n ≤ R2) (hB : Below n w W) (v1 v2 : Value) :
    ∀ Z, Z = (W.setCell ⟨R1, 0, none⟩ v1).setCell ⟨R2, 0, none⟩ v2 → KeepsOthers W Z ∧ Blk Z R1 t1 #[v1] ∧ Blk Z R2 t2 #[v2] ∧ Below n w Z ∧ Oth [R1, R2] W Z := by
  rintro Z rfl
  refine ⟨keeps_set.trans keeps_set, ?_, ?_, (hB.setCell (p := ⟨R1, 0, none⟩) hn1 _).setCell (p := ⟨R2, 0, none⟩) hn2 _, ((Oth.refl _ _).set (by simp) _ _).set (by simp) _ _⟩
  · refine (row_other _ _ _ hne).trans ?_
    have := row_set h1 0 v1
    rw [this]
    simp
  · have h3 : (W.setCell ⟨R1, 0, none⟩ v1).heap[R2]? = _ := (row_other _ _ _ hne.symm).trans h2
    have := row_set h3 0 v2
    unfold Blk
    rw [this]
    simp

attribute [local go_sem] Oper.semAt_some

set_option maxRecDepth 100000 in
set_option maxHeartbeats 4000000 in
theorem headsOf_in (L B : Nat) (s : Int) (ao : Option Addr) (len cap : Nat) (l : List Wrd) (w : World) (hB : B ≤ w.heap.size) (hs : Ws L B w ao len l) (hl : len ≤ 1048576) (hcap : len ≤ cap) (hwk : wok s l = true) :
    Calls Tryd.prog 22 #[vH s ao len cap] w fun e w' => HoEnd w.heap.size (decide (endO l = l.length) && fok l) len (heads l) e w' ∧ Below w.heap.size w w' := by
  have HL : Hid (len = l.length) := hs.1
  have hfit : (len : Int) ≤ s := by have := hs.1; unfold wok at hwk; simp at hwk; omega
  have hsz : sizeB s = true := by unfold wok at hwk; simp at hwk; exact hwk.1
  obtain ⟨X, hX⟩ : ∃ X, X = ((w.alloc (.cells #[.int .i64 s, .slice ao len cap] 26)).alloc (.cells #[.slice none 0 0] 53)).alloc (.cells #[.bool false] 4) := ⟨_, rfl⟩
  have hXs : X.heap.size = w.heap.size + 3 := by rw [hX]; simp
  have hXb : Below w.heap.size w X := by rw [hX]; exact (((Below.refl _ _).alloc (Nat.le_refl _) _).alloc (by simp) _).alloc (by simp; omega) _
  have x0 : X.heap[w.heap.size]? = some (.cells #[.int .i64 s, .slice ao len cap] 26 (0, 0)) := by
    rw [hX, Below.heap_alloc _ _ _ (by simp; omega), Below.heap_alloc _ _ _ (by simp)]; exact heap_new (by simp)
  have x1 : X.heap[w.heap.size + 1]? = some (.cells #[.slice none 0 0] 53 (0, 0)) := by
    rw [hX, Below.heap_alloc _ _ _ (by simp)]; exact heap_new (by simp)
  have x2 : X.heap[w.heap.size + 1 + 1]? = some (.cells #[.bool false] 4 (0, 0)) := by
    rw [hX]; exact heap_new (by simp)
  have KP := heapSizeOk_any s X
  rw [hsz] at KP
  have HX : Hid (X = _) := hX
  clear hX hsz hwk
  obtain ⟨C, hmk, hC⟩ := make_bools 53 Tryd.underlying53 len hl X
  obtain ⟨f0, f1⟩ := cells2 x0
  have HC : Hid (C = ((List.replicate len false).map Value.bool).toArray) := hC
  have HXS : Hid (X.heap.size = w.heap.size + 3) := hXs
  have hx3 : w.heap.size < X.heap.size := by omega
  have hx4 : w.heap.size < X.heap.size + 1 := by omega
  have hx5 : w.heap.size < X.heap.size + 1 + 1 := by omega
  clear hC hXs
  refine (callsIn_wide (n := 10)).1 ?_
  refine callsIn_of_wp_marks Tryd.func22 rfl trivial ?_ rfl
  simp only [Tryd.ntmps22, List.size_toArray, List.length_cons, List.length_nil, Nat.reduceAdd, Nat.reduceSub, Array.replicate_succ, Array.replicate_zero, List.push_toArray, List.append_toArray, List.nil_append, List.cons_append]
  gi_wp2_with fail
  rw [← HX.out]
  refine ⟨trivial, (callsIn_wide.2 KP).mono ?_⟩
  rintro e w1 ⟨rfl, hw1⟩
  obtain rfl : X = w1 := hw1.symm
  clear KP
  gi_wp2_with fail
  refine ⟨trivial, (objIn_in 9 _ _ _ _).mono ?_⟩
  rintro e w2 ⟨rfl, rfl⟩
  gi_wp2_with fail
  obtain ⟨W0, hW0⟩ : ∃ W0, (((X.alloc (.cells C 4)).alloc (.cells #[.slice (some ⟨X.heap.size, 0, none⟩) len len] 53)).alloc (.cells #[.int .i64 0] 3)).alloc (.cells #[.slice ao len cap] 24) = W0 := ⟨_, rfl⟩
  have hsz : W0.heap.size = X.heap.size + 4 := by rw [← hW0]; simp
  have hB0 : Below X.heap.size X W0 := by rw [← hW0]; exact ((((Below.refl _ _).alloc (Nat.le_refl _) _).alloc (by simp) _).alloc (by simp; omega) _).alloc (by simp; omega) _
  have bG : BRow W0 X.heap.size (hd l []) := by
    unfold BRow
    rw [hd_nil, ← HL.out, ← HC.out, ← hW0, Below.heap_alloc _ _ _ (by simp; omega), Below.heap_alloc _ _ _ (by simp; omega), Below.heap_alloc _ _ _ (by simp)]
    exact heap_new rfl
  have b4 : Blk W0 (X.heap.size + 1) 53 #[.slice (some ⟨X.heap.size, 0, none⟩) len len] := by
    unfold Blk
    rw [← hW0, Below.heap_alloc _ _ _ (by simp), Below.heap_alloc _ _ _ (by simp)]
    exact heap_new (by simp)
  have b5 : Blk W0 (X.heap.size + 1 + 1) 3 #[.int .i64 (endP [])] := by
    unfold Blk
    rw [← hW0, Below.heap_alloc _ _ _ (by simp)]
    exact heap_new (by simp)
  have bS : W0.heap[X.heap.size + 1 + 1 + 1]? = some (.cells #[.slice ao len cap] 24 (0, 0)) := by
    rw [← hW0]
    exact heap_new (by simp)
  have hws : Ws 0 w.heap.size W0 ao len l := hs.keep (fun k _ hk => (hB0.block k (by omega)).trans (hXb.block k (by omega))) (Nat.zero_le _) hB
  rw [hW0]
  clear hW0 f0 f1
  refine wpIn_rangeFunc_ownH rfl (by omega) (gf := 36) (lb := #[.pointer (some ⟨X.heap.size + 1 + 1 + 1, 0, none⟩)]) rfl trivial (enters_of Tryd.func36 (by kernel_rfl) rfl)
    (objIn_stops 9 (by omega) (X.heap.size + 1 + 1 + 1) w.heap.size len cap ao l hl hcap W0 (by omega) bS hws) KpB.trans (fun W l o o' hl h ho _ => KpB.put (by omega) W l o o' hl h ho) (Below.refl _ _) (fun _ => rfl)
    (fun pre W => (Blk W (X.heap.size + 1 + 1) 3 #[.int .i64 (endP (prs pre))] ∧ Blk W X.heap.size 4 ((hd l (prs pre)).map Value.bool).toArray) ∧ Oth [X.heap.size, X.heap.size + 1 + 1] W0 W)
    (fun c pre W => False)
    (OwnFrom.and (OwnFrom.and (Own.from (blk_own _ _ _) _) (Own.from (blk_own _ _ _) _)) (ownFrom_oth (Nat.le_refl _)))
    (fun c => fun _ _ _ _ h => h.elim)
    ⟨⟨b5, bG⟩, Oth.refl _ _⟩
    (fun x a' W => a' = { tmps := #[vH s ao len cap, .pointer (some ⟨w.heap.size, 0, none⟩), .pointer (some ⟨w.heap.size + 1, 0, none⟩), .pointer (some ⟨w.heap.size + 1 + 1, 0, none⟩), .pointer (some ⟨X.heap.size + 1, 0, none⟩), .pointer (some ⟨X.heap.size + 1 + 1, 0, none⟩), .int .i64 (x.1.1 : Int), .slice (shf ao x.1.1) (x.1.2 + 1) (x.1.2 + 1), undef, undef, .pointer (some ⟨w.heap.size, 0, none⟩), .int .i64 s, .bool true, .bool false, .bool false, .pointer (some ⟨w.heap.size, 1, none⟩), .slice ao len cap, .int .i64 (len : Int), .pointer (some ⟨w.heap.size, 0, none⟩), .int .i64 s, .bool (decide (s < ↑len)), .bool (decide (s < ↑len)), .pointer (some ⟨w.heap.size, 1, none⟩), .slice ao len cap, .int .i64 (len : Int), .slice (some ⟨X.heap.size, 0, none⟩) len len, .pointer (some ⟨w.heap.size, 1, none⟩), .slice ao len cap, .func (.func 36) #[] #[.pointer (some ⟨X.heap.size + 1 + 1 + 1, 0, none⟩)], .int .i64 (x.1.1 : Int), .slice (shf ao x.1.1) (x.1.2 + 1) (x.1.2 + 1), undef, undef, undef, undef, undef, undef, undef, undef, undef, undef, undef, undef, undef, undef, undef, undef, undef, undef, undef, undef, undef, undef, undef], defers := [] })
    (fun x a' _ X Y row hs hg hr => hs)
    ?assign ?body ?done ?stop
  case assign =>
    rintro l pre x W K ⟨⟨i1, i2⟩, hO⟩ hK
    unfold encO
    gi_wp2
    exact hK _ _ (KeepsFrom.refl _ _) (KpB.refl _ _ _) ⟨⟨i1, i2⟩, hO⟩ rfl
  case body =>
    rintro y pre x a' W hl ⟨r, hr⟩ ⟨⟨i1, i2⟩, hO⟩ rfl hlt
    have c5 := row_cell (show W.heap[X.heap.size + 1 + 1]? = _ from i1) 0
    have z5 := row_free (show W.heap[X.heap.size + 1 + 1]? = _ from i1) 0
    have hG : BRow W X.heap.size (hd l (prs pre)) := i2
    obtain ⟨⟨a, c⟩, hob⟩ := x
    obtain ⟨hal, _, hacl⟩ := ob_some hob
    have hac : a + c < len := by have := HL.out; omega
    have hgc := hG.get a (by rw [hd_len]; exact hal)
    have hgf := hG.free a
    have HN : Hid (hd l (prs (pre ++ [⟨(a, c), hob⟩])) = (hd l (prs pre)).set a true) := by show _ = _; rw [prs_snoc]; exact hd_snoc _ _ _ _
    have HE : Hid (endP (prs (pre ++ [⟨(a, c), hob⟩])) = a + c + 1) := by show _ = _; rw [prs_snoc]; exact endP_snoc _ _
    generalize (hd l (prs pre)).getD a false = q at hgc
    dsimp only
    have c4 := row_cell ((hO.block (X.heap.size + 1) (by omega) (by simp)).trans b4) 0
    have goes : ∀ Z, Z = (W.setCell ⟨X.heap.size, a, none⟩ (.bool true)).setCell ⟨X.heap.size + 1 + 1, 0, none⟩ (.int .i64 ((a : Int) + ((c : Int) + 1))) →
        KeepsFrom (X.heap.size + 4) W Z ∧ KpB w.heap.size (X.heap.size + 1 + 1 + 1) W Z ∧ (Blk Z (X.heap.size + 1 + 1) 3 #[.int .i64 (endP (prs (pre ++ [⟨(a, c), hob⟩])))] ∧ Blk Z X.heap.size 4 ((hd l (prs (pre ++ [⟨(a, c), hob⟩]))).map Value.bool).toArray) ∧ Oth [X.heap.size, X.heap.size + 1 + 1] W0 Z := by
      rintro Z rfl
      have g1 : BRow (W.setCell ⟨X.heap.size, a, none⟩ (.bool true)) X.heap.size ((hd l (prs pre)).set a true) := hG.set a true
      refine ⟨(keeps_set.trans keeps_set).from _, ⟨((Below.refl _ W).setCell (p := ⟨X.heap.size, a, none⟩) (by show w.heap.size ≤ X.heap.size; omega) _).setCell (p := ⟨X.heap.size + 1 + 1, 0, none⟩) (by show w.heap.size ≤ X.heap.size + 1 + 1; omega) _, fun c' t fr hc => (row_other _ _ _ (by omega)).trans ((row_other _ _ _ (by omega)).trans hc)⟩, ⟨?_, ?_⟩, (hO.set (by simp) _ _).set (by simp) _ _⟩
      · rw [HE.out]
        have h5 : (W.setCell ⟨X.heap.size, a, none⟩ (.bool true)).heap[X.heap.size + 1 + 1]? = _ := (row_other _ _ _ (by omega)).trans i1
        have := row_set h5 0 (.int .i64 ((a : Int) + ((c : Int) + 1)))
        unfold Blk
        rw [this]
        simp
        omega
      · rw [HN.out]
        exact (row_other _ _ _ (by omega)).trans g1
    have GOES : Hid (∀ Z, Z = _ → _) := goes
    clear goes
    gi_wp2_with fail
    exact GOES.out _ rfl
  case done =>
    rintro D zs W hD hzs ⟨⟨i1, i2⟩, hO⟩ hK
    rw [hzs] at i1 i2
    rw [endP_all] at i1
    have hG : BRow W X.heap.size (heads l) := i2
    have c5 := row_cell (show W.heap[X.heap.size + 1 + 1]? = _ from i1) 0
    have y0 := (hO.block w.heap.size (by omega) (by simp; omega)).trans ((hB0.block _ (by omega)).trans x0)
    have y1 := (hO.block (w.heap.size + 1) (by have := HXS.out; omega) (by have := HXS.out; simp; omega)).trans ((hB0.block _ (by have := HXS.out; omega)).trans x1)
    have y2 := (hO.block (w.heap.size + 1 + 1) (by have := HXS.out; omega) (by have := HXS.out; simp; omega)).trans ((hB0.block _ (by have := HXS.out; omega)).trans x2)
    have y4 := (hO.block (X.heap.size + 1) (by omega) (by simp)).trans b4
    obtain ⟨f0, f1⟩ := cells2 y0
    have r1 := row_free y1 0
    have r2 := row_free y2 0
    have q1 := row_cell y1 0
    have q2 := row_cell y2 0
    have hbW : Below w.heap.size w W := hXb.trans ((hB0.mono (by omega)).trans ((hO.toBelow (n := w.heap.size) (by omega) (by intro d hd; simp at hd; omega))))
    have hle := endO_le l
    have HK : Hid (W.heap[D]? = some (.deferred (some []))) := hK
    by_cases hwh : endO l = l.length
    · have hnl : ¬ (endO l : Int) < len := by have := HL.out; omega
      generalize endO l = en at c5 hnl
      gi_wp2_with fail
      refine ⟨trivial, (objIn_in 9 _ _ _ _).mono ?_⟩
      rintro e w3 ⟨rfl, rfl⟩
      gi_wp2_with fail
      obtain ⟨V0, hV0⟩ : ∃ V0, W.alloc (.cells #[.slice ao len cap] 24) = V0 := ⟨_, rfl⟩
      have hvs : V0.heap.size = W.heap.size + 1 := by rw [← hV0]; simp
      have hBV : Below W.heap.size W V0 := by rw [← hV0]; exact (Below.refl _ _).alloc (Nat.le_refl _) _
      have hWsz := hO.size
      have bS2 : V0.heap[W.heap.size]? = some (.cells #[.slice ao len cap] 24 (0, 0)) := by rw [← hV0]; exact heap_new rfl
      have hws2 : Ws 0 w.heap.size V0 ao len l := hs.keep (fun k _ hk => (hBV.block k (by have := hbW.size; omega)).trans (hbW.block k (by omega))) (Nat.zero_le _) hB
      have z1 := (hBV.block _ (Array.getElem?_eq_some_iff.1 y1).1).trans y1
      have z2 := (hBV.block _ (Array.getElem?_eq_some_iff.1 y2).1).trans y2
      have z4 := (hBV.block _ (Array.getElem?_eq_some_iff.1 (show W.heap[X.heap.size + 1]? = _ from y4)).1).trans y4
      have hGV : BRow V0 X.heap.size (heads l) := hG.bel hBV hG.lt
      have hKV := (hBV.block D (Array.getElem?_eq_some_iff.1 HK.out).1).trans HK.out
      have hbV : Below w.heap.size w V0 := hbW.trans (hBV.mono hbW.size)
      have hD2 : D < W.heap.size := (Array.getElem?_eq_some_iff.1 HK.out).1
      rw [hV0]
      clear hV0 f0 f1 c5 q1 q2 r1 r2
      refine wpIn_rangeFunc_ownH rfl (by omega) (gf := 36) (lb := #[.pointer (some ⟨W.heap.size, 0, none⟩)]) rfl trivial (enters_of Tryd.func36 (by kernel_rfl) rfl)
        (objIn_stops 9 (by omega) W.heap.size w.heap.size len cap ao l hl hcap V0 (by omega) bS2 hws2) KpB.trans (fun W l o o' hl h ho _ => KpB.put (by omega) W l o o' hl h ho) (Below.refl _ _) (fun _ => rfl)
        (fun pre V => (prs pre).all (fun x => (flds l x).all (rgt (heads l))) = true ∧ Oth [] V0 V)
        (fun c pre V => ((c = .ret ∧ (prs pre).all (fun x => (flds l x).all (rgt (heads l))) = false) ∧ (Blk V (w.heap.size + 1) 53 #[.slice none 0 0] ∧ Blk V (w.heap.size + 1 + 1) 4 #[.bool false])) ∧ Oth [w.heap.size + 1, w.heap.size + 1 + 1] V0 V)
        (OwnFrom.and (ownFrom_pure _ _) (ownFrom_oth (Nat.le_refl _)))
        (fun c => OwnFrom.and (OwnFrom.and (ownFrom_pure _ _) (OwnFrom.and (Own.from (blk_own _ _ _) _) (Own.from (blk_own _ _ _) _))) (ownFrom_oth (Nat.le_refl _)))
        ⟨rfl, Oth.refl _ _⟩
        (fun x a' _ => a' = { tmps := #[vH s ao len cap, .pointer (some ⟨w.heap.size, 0, none⟩), .pointer (some ⟨w.heap.size + 1, 0, none⟩), .pointer (some ⟨w.heap.size + 1 + 1, 0, none⟩), .pointer (some ⟨X.heap.size + 1, 0, none⟩), .pointer (some ⟨X.heap.size + 1 + 1, 0, none⟩), undef, undef, undef, .slice (shf ao x.1.1) (x.1.2 + 1) (x.1.2 + 1), .pointer (some ⟨w.heap.size, 0, none⟩), .int .i64 s, .bool true, .bool false, .bool false, .pointer (some ⟨w.heap.size, 1, none⟩), .slice ao len cap, .int .i64 (len : Int), .pointer (some ⟨w.heap.size, 0, none⟩), .int .i64 s, .bool (decide (s < ↑len)), .bool (decide (s < ↑len)), .pointer (some ⟨w.heap.size, 1, none⟩), .slice ao len cap, .int .i64 (len : Int), .slice (some ⟨X.heap.size, 0, none⟩) len len, .pointer (some ⟨w.heap.size, 1, none⟩), .slice ao len cap, .func (.func 36) #[] #[.pointer (some ⟨X.heap.size + 1 + 1 + 1, 0, none⟩)], undef, undef, undef, undef, undef, undef, undef, undef, undef, .int .i64 (en : Int), .pointer (some ⟨w.heap.size, 1, none⟩), .slice ao len cap, .int .i64 (len : Int), .bool false, .pointer (some ⟨w.heap.size, 1, none⟩), .slice ao len cap, .func (.func 36) #[] #[.pointer (some ⟨W.heap.size, 0, none⟩)], .int .i64 (x.1.1 : Int), .slice (shf ao x.1.1) (x.1.2 + 1) (x.1.2 + 1), undef, undef, undef, undef, undef, undef], defers := [] })
        (fun x a' _ X Y row hs hg hr => hs)
        ?assign2 ?body2 ?done2 ?stop2
      case assign2 =>
        rintro l pre x V K ⟨i1, hO2⟩ hK2
        unfold encO
        gi_wp2
        exact hK2 _ _ (KeepsFrom.refl _ _) (KpB.refl _ _ _) ⟨i1, hO2⟩ rfl
      case body2 =>
        rintro y pre x a' V hly ⟨r, hr⟩ ⟨i1, hO2⟩ rfl hlt
        obtain ⟨⟨a, c⟩, hob⟩ := x
        obtain ⟨hal, _, hacl⟩ := ob_some hob
        have hac : a + c < len := by have := HL.out; omega
        obtain ⟨b, o, rfl, _, hbB, _⟩ := hs.2.2 a hal
        have hbV2 : Below V0.heap.size V0 V := hO2.toBelow (Nat.le_refl _) (by intro d hd; cases hd)
        have hVz := hO2.size
        have hGV2 : BRow V X.heap.size (heads l) := hGV.bel hbV2 hGV.lt
        have c4 := row_cell ((hbV2.block _ (Array.getElem?_eq_some_iff.1 z4).1).trans z4) 0
        have k1 := (hbV2.block _ (Array.getElem?_eq_some_iff.1 z1).1).trans z1
        have k2 := (hbV2.block _ (Array.getElem?_eq_some_iff.1 z2).1).trans z2
        have hwf := ws_cut (hws2.keep (fun k _ hk => hbV2.block k (by omega)) (Nat.le_refl _) (Nat.le_refl _)) hob
        have HA : Hid ((prs (pre ++ [⟨(a, c), hob⟩])).all (fun x => (flds l x).all (rgt (heads l))) = (flds l (a, c)).all (rgt (heads l))) := by
          show _ = _
          rw [prs_snoc, List.all_append, i1, Bool.true_and]
          simp
        have hnV : w.heap.size ≤ V.heap.size := by omega
        dsimp only [shf, Option.map]
        clear hlt hr
        have hc1 : 1 ≤ c + 1 := by omega
        have hc2 : (1 : Int) ≤ (c : Int) + 1 := by omega
        obtain ⟨adr, hadr⟩ : ∃ adr, (if c = 0 then some (⟨b, o + a * 2, none⟩ : Addr) else some ⟨b, o + a * 2 + 2, none⟩) = adr := ⟨_, rfl⟩
        rw [hadr] at hwf
        have K := right_any X.heap.size len len (heads l) 0 w.heap.size _ c c (flds l (a, c)) V.drew hGV2 (by rw [heads_len]; exact HL.out) hl hnV hwf.drew (by omega)
        obtain ⟨q, hq⟩ : ∃ q, (flds l (a, c)).all (rgt (heads l)) = q := ⟨_, rfl⟩
        rw [hq] at K HA
        clear hq
        cases q with
        | true =>
          gi_wp2_with fail
          gi_region_with (refine And.intro trivial ?_; gi_at_call 32; refine ((callsIn_wide.2 K).inRound y).mono ?_; rintro e V1 ⟨rfl, hb1⟩)
          all_goals
            have hb1' : Below V.heap.size V V1 := ⟨hb1.os, hb1.tape, hb1.output, hb1.size, hb1.block⟩
            gi_wp2_with fail
            exact ⟨(keeps_below hb1').from _, KpB.of_below hb1' hnV, HA.out, hO2.below hb1'⟩
        | false =>
          gi_wp2_with fail
          gi_region_with (refine And.intro trivial ?_; gi_at_call 32; refine ((callsIn_wide.2 K).inRound y).mono ?_; rintro e V1 ⟨rfl, hb1⟩)
          all_goals
            have hb1' : Below V.heap.size V V1 := ⟨hb1.os, hb1.tape, hb1.output, hb1.size, hb1.block⟩
            have m1 := (hb1'.block _ (Array.getElem?_eq_some_iff.1 k1).1).trans k1
            have m2 := (hb1'.block _ (Array.getElem?_eq_some_iff.1 k2).1).trans k2
            have m1c := row_cell m1 0
            have m2c := row_cell m2 0
            have m1f := row_free m1 0
            have m2f := row_free m2 0
            have RW := two_cells (w := V1) (n := w.heap.size) (by omega) m1 m2 (by omega) (by omega) (Below.refl _ _) (.slice none 0 0) (.bool false)
            have HRW : Hid (∀ Z, Z = _ → _) := RW
            have hOV := hO2.below hb1'
            clear RW
            gi_wp2_with fail
            obtain ⟨t1, t2, t3, t4, t5⟩ := HRW.out _ rfl
            exact ⟨((keeps_below hb1').trans t1).from _, ⟨⟨rfl, HA.out⟩, t2, t3⟩, oth_join hOV t5⟩
      case done2 =>
        rintro D2 zs V hD2' hzs2 ⟨i1, hO2⟩ hK2
        have HF : Hid ((decide (endO l = l.length) && fok l) = true) := by
          show _ = _
          rw [hzs2] at i1
          simp only [hwh, decide_true, Bool.true_and]
          exact i1
        have hbV2 : Below V0.heap.size V0 V := hO2.toBelow (Nat.le_refl _) (by intro d hd; cases hd)
        have hGV2 : BRow V X.heap.size (heads l) := hGV.bel hbV2 hGV.lt
        have c4 := row_cell ((hbV2.block _ (Array.getElem?_eq_some_iff.1 z4).1).trans z4) 0
        have k1 := (hbV2.block _ (Array.getElem?_eq_some_iff.1 z1).1).trans z1
        have k2 := (hbV2.block _ (Array.getElem?_eq_some_iff.1 z2).1).trans z2
        have m1c := row_cell k1 0
        have m2c := row_cell k2 0
        have m1f := row_free k1 0
        have m2f := row_free k2 0
        have hbVV : Below w.heap.size w V := hbV.trans (hbV2.mono hbV.size)
        have RW := two_cells (by omega) k1 k2 (by omega) (by omega) hbVV (.slice (some ⟨X.heap.size, 0, none⟩) len len) (.bool true)
        have HRW : Hid (∀ Z, Z = _ → _) := RW
        have HK1 : Hid (V.heap[D]? = some (.deferred (some []))) := (hbV2.block _ (Array.getElem?_eq_some_iff.1 hKV).1).trans hKV
        have HK2 : Hid (V.heap[D2]? = some (.deferred (some []))) := hK2
        clear RW hK2 hKV
        gi_wp2_with fail
        obtain ⟨Z, hZ⟩ : ∃ Z, Z = (V.setCell ⟨w.heap.size + 1, 0, none⟩ (.slice (some ⟨X.heap.size, 0, none⟩) len len)).setCell ⟨w.heap.size + 1 + 1, 0, none⟩ (.bool true) := ⟨_, rfl⟩
        obtain ⟨t1, t2, t3, t4, t5⟩ := HRW.out Z hZ
        have hKZ1 := t1.same D _ HK1.out rfl
        have hKZ2 := t1.same D2 _ HK2.out rfl
        have hGZ : BRow Z X.heap.size (heads l) := (t5.block X.heap.size hGV2.lt (by have := HXS.out; simp; omega)).trans hGV2
        rw [← hZ]
        clear hZ
        have hDD : D ≠ D2 := by omega
        have hKZ1' : (Z.putObj D2 (.deferred none)).heap[D]? = some (.deferred (some [])) := (World.putObj_heap_other hDD).trans hKZ1
        refine ⟨by simp, .inl ⟨_, _, rfl, run_takeDeferred hKZ2, ⟨by simp, .inl ⟨_, _, rfl, run_takeDeferred hKZ1', ?_⟩⟩⟩⟩
        have u2 := Blk.put (Blk.put t2 hKZ2 rfl (.deferred none)) hKZ1' rfl (.deferred none)
        have u3 := Blk.put (Blk.put t3 hKZ2 rfl (.deferred none)) hKZ1' rfl (.deferred none)
        have uG := Blk.put (Blk.put (show Blk Z X.heap.size 4 _ from hGZ) hKZ2 rfl (.deferred none)) hKZ1' rfl (.deferred none)
        have s0 := row_cell u2 0
        have s1 := row_cell u3 0
        refine ⟨.tuple #[.slice (some ⟨X.heap.size, 0, none⟩) len len, .bool true], by simp [results, Tryd.results22, go_sem, s0, s1], ?_, (t4.trans (KpB.put (Bs := 0) (show w.heap.size ≤ V0.heap.size by omega) Z D2 _ _ hD2' hKZ2 rfl).bel).trans (KpB.put (Bs := 0) (show w.heap.size ≤ W0.heap.size by omega) _ D _ _ hD hKZ1' rfl).bel⟩
        rw [HF.out]
        exact ⟨X.heap.size, rfl, by omega, uG⟩
      case stop2 =>
        rintro D2 c pre V hD2' hpre ⟨⟨⟨rfl, hfal⟩, t2, t3⟩, hO2⟩ hK2
        have HF : Hid ((decide (endO l = l.length) && fok l) = false) := by
          show _ = _
          obtain ⟨rest, hrest⟩ := hpre
          unfold fok
          rw [← hrest, List.all_append, hfal]
          simp
        have hbVV : Below w.heap.size w V := hbV.trans (hO2.toBelow hbV.size (by intro d hd; simp at hd; omega))
        have hKV1 := (hO2.block D (by omega) (by have := HXS.out; simp; omega)).trans hKV
        gi_wp2_with fail
        have hDD : D ≠ D2 := by omega
        have hKV1' : (V.putObj D2 (.deferred none)).heap[D]? = some (.deferred (some [])) := (World.putObj_heap_other hDD).trans hKV1
        refine ⟨by simp, .inl ⟨_, _, rfl, run_takeDeferred hK2, ⟨by simp, .inl ⟨_, _, rfl, run_takeDeferred hKV1', ?_⟩⟩⟩⟩
        have s0 := row_cell (Blk.put (Blk.put t2 hK2 rfl (.deferred none)) hKV1' rfl (.deferred none)) 0
        have s1 := row_cell (Blk.put (Blk.put t3 hK2 rfl (.deferred none)) hKV1' rfl (.deferred none)) 0
        refine ⟨.tuple #[.slice none 0 0, .bool false], by simp [results, Tryd.results22, go_sem, s0, s1], ?_, (hbVV.trans (KpB.put (Bs := 0) (show w.heap.size ≤ V0.heap.size by omega) V D2 _ _ hD2' hK2 rfl).bel).trans (KpB.put (Bs := 0) (show w.heap.size ≤ W0.heap.size by omega) _ D _ _ hD hKV1' rfl).bel⟩
        rw [HF.out]
        exact rfl
    · have hlt : endO l < len := by have := HL.out; omega
      have HF : Hid ((decide (endO l = l.length) && fok l) = false) := by show _ = _; simp [hwh]
      have RW := two_cells (by omega) y1 y2 (by omega) (by omega) hbW (.slice none 0 0) (.bool false)
      have HRW : Hid (∀ Z, Z = _ → _) := RW
      generalize endO l = en at c5 hlt
      clear RW
      gi_wp2_with fail
      obtain ⟨Z, hZ⟩ : ∃ Z, Z = (W.setCell ⟨w.heap.size + 1, 0, none⟩ (.slice none 0 0)).setCell ⟨w.heap.size + 1 + 1, 0, none⟩ (.bool false) := ⟨_, rfl⟩
      obtain ⟨t1, t2, t3, t4, t5⟩ := HRW.out Z hZ
      have hKZ := t1.same D _ HK.out rfl
      rw [← hZ]
      clear hZ
      refine ⟨by simp, .inl ⟨_, _, rfl, run_takeDeferred hKZ, ?_⟩⟩
      have s0 := row_cell (show (Z.putObj D (.deferred none)).heap[w.heap.size + 1]? = _ from Blk.put t2 hKZ rfl _) 0
      have s1 := row_cell (show (Z.putObj D (.deferred none)).heap[w.heap.size + 1 + 1]? = _ from Blk.put t3 hKZ rfl _) 0
      refine ⟨.tuple #[.slice none 0 0, .bool false], by simp [results, Tryd.results22, go_sem, s0, s1], ?_, t4.trans (KpB.put (Bs := 0) (show w.heap.size ≤ W0.heap.size by omega) Z D _ _ hD hKZ rfl).bel⟩
      rw [HF.out]
      exact rfl
  case stop =>
    rintro D c pre W hD hpre hf hK
    exact hf.elim

end Go.Proofs.YtapamdjoipofmaaDoor
