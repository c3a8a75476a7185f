/-
  What the program's 'ParseTy' comes to; plain facts on types read from tokens.
-/
import Derived.Test.YtfjbgbnhjejchaaDoorPt1
import Derived.Test.YtfjbgbnhjejchaaDoorSb0
namespace Go.Proofs.YtfjbgbnhjejchaaDoor
open Go.RowKit
set_option linter.unusedVariables false
set_option linter.unusedSimpArgs false

/-- The type that the tokens are, all of them. -/
def parT (T : List (List UInt8)) : Option Tr := match prs 6 T with
  | some (t, u) => if u = T.length ∧ okT t = true then some t else none
  | none => none

theorem prsN_nodes {l : Nat} (hf : ∀ T t u, prs l T = some (t, u) → nodesW l t = some u ∧ ∀ x ∈ T.take u, x ≠ []) : ∀ m T ts u, prsN (prs l) m T = some (ts, u) → nodesL (nodesW l) ts = some u ∧ ts.length = m ∧ ∀ x ∈ T.take u, x ≠ [] := by
  intro m
  induction m with
  | zero =>
    intro T ts u h
    simp only [prsN, Option.some.injEq, Prod.mk.injEq] at h
    obtain ⟨rfl, rfl⟩ := h
    exact ⟨rfl, rfl, fun x hx => by simp at hx⟩
  | succ m ih =>
    intro T ts u h
    rw [prsN] at h
    cases h1 : prs l T with
    | none => rw [h1] at h; cases h
    | some p =>
      obtain ⟨t, u1⟩ := p
      rw [h1] at h
      simp only at h
      cases h2 : prsN (prs l) m (T.drop u1) with
      | none => rw [h2] at h; cases h
      | some q =>
        obtain ⟨ts2, u2⟩ := q
        rw [h2] at h
        simp only [Option.some.injEq, Prod.mk.injEq] at h
        obtain ⟨rfl, rfl⟩ := h
        obtain ⟨a1, a2⟩ := hf T t u1 h1
        obtain ⟨b1, b2, b3⟩ := ih _ _ _ h2
        refine ⟨by simp only [nodesL, a1, b1], by simp [b2], fun x hx => ?_⟩
        rw [List.take_add] at hx
        rw [List.mem_append] at hx
        rcases hx with hx | hx
        · exact a2 x hx
        · exact b3 x hx

theorem tok_node {x : List UInt8} {k n : Int} (h : tokTy x = some (k, n)) : x ≠ [] ∧ nodeOk k n (parts k).toNat = true := by
  unfold tokTy at h
  repeat' split at h
  all_goals first | (simp only [Option.some.injEq, Prod.mk.injEq] at h; obtain ⟨rfl, rfl⟩ := h; rename_i hx; exact ⟨by rw [hx]; simp, by decide⟩) | cases h

theorem prs_nodes : ∀ l T t u, prs l T = some (t, u) → nodesW l t = some u ∧ ∀ x ∈ T.take u, x ≠ [] := by
  intro l
  induction l with
  | zero => intro T t u h; simp [prs] at h
  | succ l ih =>
    intro T t u h
    cases T with
    | nil => simp [prs] at h
    | cons x T =>
      cases h1 : tokTy x with
      | none => rw [prs, h1] at h; cases h
      | some p =>
        obtain ⟨k, n⟩ := p
        rw [prs_cons h1] at h
        obtain ⟨q, h2, h3⟩ := Option.map_eq_some_iff.1 h
        obtain ⟨ps, u1⟩ := q
        simp only [Prod.mk.injEq] at h3
        obtain ⟨rfl, rfl⟩ := h3
        obtain ⟨b1, b2, b3⟩ := prsN_nodes ih _ _ _ _ h2
        obtain ⟨c1, c2⟩ := tok_node h1
        refine ⟨?_, fun y hy => ?_⟩
        · simp only [nodesW]
          rw [b2, if_pos c2, b1]
          simp
          omega
        · simp only [List.take_succ_cons, List.mem_cons] at hy
          rcases hy with rfl | hy
          · exact c1
          · exact b3 y hy

theorem ok_le {t : Tr} {u : Nat} (h : nodesW 6 t = some u) (ho : okT t = true) : u ≤ 60 := by
  have hn : nodesT t = if u ≤ 60 then u else 0 := by simp only [nodesT, h]
  unfold okT at ho
  rw [decide_eq_true_eq, hn] at ho
  by_cases h6 : u ≤ 60
  · exact h6
  · rw [if_neg h6] at ho; omega

theorem par_good {T : List (List UInt8)} {t : Tr} (h : parT T = some t) : goodT 60 T = true := by
  unfold parT at h
  cases h1 : prs 6 T with
  | none => rw [h1] at h; cases h
  | some p =>
    obtain ⟨t', u⟩ := p
    rw [h1] at h
    simp only at h
    split at h
    · rename_i hc
      obtain ⟨a1, a2⟩ := prs_nodes 6 T t' u h1
      have hu := ok_le a1 hc.2
      unfold goodT
      rw [Bool.and_eq_true, decide_eq_true_eq, List.all_eq_true]
      refine ⟨by omega, fun x hx => ?_⟩
      have hne := a2 x (by rw [hc.1, List.take_length]; exact hx)
      cases x with
      | nil => exact (hne rfl).elim
      | cons b x => rfl
    · cases h
theorem par_bad {T : List (List UInt8)} (h : goodT 60 T = false) : parT T = none := by
  cases hp : parT T with
  | none => rfl
  | some t => rw [par_good hp] at h; cases h

theorem toks_stx {base : Nat} {w : World} {v : Value} {T : List (List UInt8)} (h : Toks base w v T) : ∃ ao cap, v = .slice ao T.length cap ∧ Stx base w.heap.size w ao T.length T := by
  rcases h.2 with ⟨rfl, hn⟩ | ⟨g, cap, cur, rfl, hg, hh, hc1, hc2, hc3, ht⟩
  · exact ⟨none, 0, by rw [hn], rfl, fun i hi => by omega⟩
  · refine ⟨_, cap, rfl, rfl, fun i hi => ⟨g, 0, rfl, hg, (Array.getElem?_eq_some_iff.1 hh).1, ?_⟩⟩
    rw [Nat.zero_add, row_cell hh]
    have e : (cur.toList.take (T.length * 1))[i]? = (T.map tk)[i]? := by rw [ht]
    rw [List.getElem?_take, if_pos (by omega)] at e
    rw [← Array.getElem?_toList, e]
    simp [hi]

theorem spl_len (s : List UInt8) : (spl s).length ≤ s.length + 1 := by
  have : ∀ (l cur : List UInt8), (splAcc cur l).length ≤ l.length + 1 := by
    intro l
    induction l with
    | nil => intro cur; simp [splAcc]
    | cons b l ih =>
      intro cur
      rw [splAcc]
      split
      · have := ih []
        simp only [List.length_cons]; omega
      · have := ih (cur ++ [b])
        simp only [List.length_cons]; omega
  exact this s []

set_option maxRecDepth 100000 in
set_option maxHeartbeats 4000000 in
theorem parseTy_any (s : ByteArray) (w : World) (hl : s.size ≤ 1048576) :
    Calls Tryd.prog 15 #[.string s] w fun e w' => SubEnd w w' e 6 (parT (spl s.data.toList)) := by
  have hX : Below w.heap.size w (w.alloc (.cells #[.int .i64 0, .int .i64 0, .slice none 0 0] 29)) := (Below.refl _ _).alloc (Nat.le_refl _) _
  have htl : (spl s.data.toList).length ≤ 1048577 := by have := spl_len s.data.toList; have h2 : s.data.toList.length = s.size := Array.length_toList; omega
  obtain ⟨T, hT⟩ : ∃ T, T = spl s.data.toList := ⟨_, rfl⟩
  rw [← hT] at htl ⊢
  have HTT : Hid (spl s.data.toList = T) := hT.symm
  clear hT
  go_enter Tryd.func15, Tryd.ntmps15
  go_wp2_with fail
  refine (splitTokens_any s 60 _ hl (by omega)).mono ?_
  rintro e w1 ⟨v, rfl, hb1, hT1⟩
  rw [HTT.out] at hT1 ⊢
  have hz1 := hb1.size
  simp only [World.size_alloc] at hz1
  have hr1 : w1.heap[w.heap.size]? = some (.cells #[.int .i64 0, .int .i64 0, .slice none 0 0] 29 (0, 0)) := (hb1.block _ (by simp)).trans (heap_new rfl)
  have hbw1 : Below w.heap.size w w1 := hX.trans (hb1.mono (by simp))
  obtain ⟨r0, r1, r2⟩ := box_cells hr1
  have r3 := row_free hr1
  cases hg : goodT 60 T
  · have HN : Hid (parT T = none) := par_bad hg
    clear hg hT1
    go_wp2_with fail
    refine bodyPost_ret (v := .tuple #[.agg #[.int .i64 0, .int .i64 0, .slice none 0 0], .bool false]) (by simp [results, Tryd.results15, go_sem, r0, r1, r2]) rfl ?_
    exact sub_none hbw1 (Nat.le_refl _) _ HN.out
  · obtain ⟨ao, cap, rfl, hS⟩ := toks_stx (hT1 hg)
    clear hg hT1
    go_wp2_with fail
    refine (pt_any 6 (by omega) _ _ ao T.length cap 0 T _ (Nat.le_refl _) hS htl (by omega)).mono ?_
    rintro e w2 ⟨K, N, ao2, len2, cap2, nx, rfl, hb2, hres⟩
    have hz2 := hb2.size
    have hr2 := (hb2.block w.heap.size (by omega)).trans hr1
    have hbw2 : Below w.heap.size w w2 := hbw1.trans (hb2.mono (by omega))
    clear r0 r1 r2 r3
    obtain ⟨r0, r1, r2⟩ := box_cells hr2
    have r3 := row_free hr2
    have hlq : w.heap.size < w2.heap.size := by omega
    have z : ∀ o : Obj, ((set3 w2 w.heap.size 0 (.int .i64 0) (.int .i64 0) (.slice none 0 0)).alloc o).heap[w.heap.size]? = some (.cells #[.int .i64 0, .int .i64 0, .slice none 0 0] 29 (0, 0)) := fun o => (Below.heap_alloc _ _ _ (by rw [set3_size]; omega)).trans (by rw [set3_row hr2]; rfl)
    have z0 : ∀ o : Obj, ((((w2.setCell ⟨w.heap.size, 0, none⟩ (.int .i64 0)).setCell ⟨w.heap.size, 1, none⟩ (.int .i64 0)).setCell ⟨w.heap.size, 2, none⟩ (.slice none 0 0)).alloc o).cell? ⟨w.heap.size, 0, none⟩ = some (.int .i64 0) := fun o => (box_cells (z o)).1
    have z1 : ∀ o : Obj, ((((w2.setCell ⟨w.heap.size, 0, none⟩ (.int .i64 0)).setCell ⟨w.heap.size, 1, none⟩ (.int .i64 0)).setCell ⟨w.heap.size, 2, none⟩ (.slice none 0 0)).alloc o).cell? ⟨w.heap.size, 1, none⟩ = some (.int .i64 0) := fun o => (box_cells (z o)).2.1
    have z2 : ∀ o : Obj, ((((w2.setCell ⟨w.heap.size, 0, none⟩ (.int .i64 0)).setCell ⟨w.heap.size, 1, none⟩ (.int .i64 0)).setCell ⟨w.heap.size, 2, none⟩ (.slice none 0 0)).alloc o).cell? ⟨w.heap.size, 2, none⟩ = some (.slice none 0 0) := fun o => (box_cells (z o)).2.2
    have HZ : Hid (∀ o : Obj, parT T = none → SubEnd w ((set3 w2 w.heap.size 0 (.int .i64 0) (.int .i64 0) (.slice none 0 0)).alloc o) (.returned (.tuple #[.agg #[.int .i64 0, .int .i64 0, .slice none 0 0], .bool false])) 6 (parT T)) := by
      intro o hn
      rw [hn]
      exact ⟨none, 0, 0, rfl, (set3_below hbw2 (Nat.le_refl _)).alloc (by rw [set3_size]; omega) _, OwR.nil _ _ _ _ _⟩
    rw [List.drop_zero] at hres ⊢
    cases hp : prs 6 T with
    | none =>
      have HN : Hid (parT T = none) := by show _ = _; unfold parT; rw [hp]
      clear hp hres
      simp only [Option.isSome_none]
      go_wp2_with fail
      refine bodyPost_ret (v := .tuple #[.agg #[.int .i64 0, .int .i64 0, .slice none 0 0], .bool false]) (by simp [results, Tryd.results15, go_sem, z0, z1, z2]) rfl ?_
      exact HZ.out _ HN.out
    | some tu =>
      obtain ⟨t, u⟩ := tu
      obtain ⟨rfl, rfl, hnx, ho⟩ := hres t u hp
      have hnx' : nx = (u : Int) := by omega
      subst hnx'
      clear hres hnx
      simp only [Option.isSome_some]
      by_cases hu : u = T.length
      case' neg =>
        have HN : Hid (parT T = none) := by show _ = _; unfold parT; rw [hp]; exact if_neg (fun h => hu h.1)
        have hne : ((u : Int) != (T.length : Int)) = true := by rw [bne_iff_ne]; omega
        clear hp hu
        go_wp2_with fail
        refine bodyPost_ret (v := .tuple #[.agg #[.int .i64 0, .int .i64 0, .slice none 0 0], .bool false]) (by simp [results, Tryd.results15, go_sem, z0, z1, z2]) rfl ?_
        exact HZ.out _ HN.out
      have hne : ((u : Int) != (T.length : Int)) = false := by simp [hu]
      have HPT : Hid (parT T = if okT t = true then some t else none) := by
        show _ = _
        unfold parT
        rw [hp]
        simp only [hu, true_and]
      clear hp hu
      have hA2 : Below w2.heap.size w2 (w2.alloc (.cells #[.int .i64 t.K, .int .i64 t.N, .slice ao2 len2 cap2] 29)) := (Below.refl _ _).alloc (Nat.le_refl _) _
      have hs2 := ho.hs.below hA2 (Nat.le_refl _)
      have hoA := ho.below hA2 (Nat.le_refl _)
      clear z z0 z1 z2
      go_wp2_with fail
      refine (tyOk_any 6 _ _ t.K t.N ao2 len2 cap2 t.A _ (by simp) hs2).mono ?_
      rintro e w3 ⟨rfl, hb3⟩
      rw [tr_eta]
      have hz3 := hb3.size
      simp only [World.size_alloc] at hz3
      have hr3 := (hb3.block w.heap.size (by simp; omega)).trans ((hA2.block _ (by omega)).trans hr2)
      have ht3 : w3.heap[w2.heap.size]? = some (.cells #[.int .i64 t.K, .int .i64 t.N, .slice ao2 len2 cap2] 29 (0, 0)) := (hb3.block _ (by simp)).trans (heap_new rfl)
      have hbw3 : Below w.heap.size w w3 := hbw2.trans ((hA2.trans (hb3.mono (by simp))).mono (by omega))
      clear r0 r1 r2 r3
      obtain ⟨r0, r1, r2⟩ := box_cells hr3
      have r3 := row_free hr3
      obtain ⟨f0, f1, f2⟩ := box_cells ht3
      have ho3 := hoA.below hb3 (by simp)
      cases hok : okT t
      · have HN : Hid (parT T = none) := by show _ = _; rw [HPT.out, hok]; rfl
        clear hok
        go_wp2_with fail
        refine bodyPost_ret (v := .tuple #[.agg #[.int .i64 0, .int .i64 0, .slice none 0 0], .bool false]) (by simp [results, Tryd.results15, go_sem, r0, r1, r2]) rfl ?_
        exact sub_none hbw3 (Nat.le_refl _) _ HN.out
      · have HN : Hid (parT T = some t) := by show _ = _; rw [HPT.out, hok]; rfl
        clear hok
        go_wp2_with fail
        refine bodyPost_ret (v := .tuple #[.agg #[.int .i64 t.K, .int .i64 t.N, .slice ao2 len2 cap2], .bool true]) (by simp [results, Tryd.results15, go_sem, r0, r1, r2]) rfl ?_
        rw [HN.out]
        refine ⟨ao2, len2, cap2, rfl, set3_below hbw3 (Nat.le_refl _), ?_⟩
        exact ho3.keep (fun q hq _ => set3_other _ (by omega)) (by omega) (by simp; omega)

end Go.Proofs.YtfjbgbnhjejchaaDoor
