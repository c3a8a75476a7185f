/-
  Plain: the text of a word of a heap, and how many looks are left behind it.
-/
import Derived.Test.YtapamdjoipofmaaDoorFcdZ11
import Derived.Lib.ItoaNum
import Derived.Lib.ItoaLen
import Derived.Test.YtapamdjoipofmaaDoorFcdZ24
namespace Go.Proofs.YtapamdjoipofmaaDoor
open Go.RowKit
set_option linter.unusedVariables false
set_option linter.unusedSimpArgs false

def wz : Wrd := ⟨0, 0⟩
mutual
/-- The text of a word, n looks left. -/
def shw (l : List Wrd) : Nat → Nat → Wrd → List UInt8 × Nat
  | 0, n, _ => ([46], n)
  | _ + 1, 0, _ => ([46], 0)
  | f + 1, n + 1, w =>
    if w.K = 1 then (Lib.itoa w.N, n) else if w.K = 2 then (if w.N = 1 then [116] else [117], n) else if w.K = 3 then ([91, 93], n)
    else if (l.getD w.N.toNat wz).K = 7 then ([102, 110], n)
    else if (l.getD w.N.toNat wz).K = 5 then
      ([40] ++ (shw l f n (l.getD (w.N.toNat + 1) wz)).1 ++ [44] ++ (shw l f (shw l f n (l.getD (w.N.toNat + 1) wz)).2 (l.getD (w.N.toNat + 2) wz)).1 ++ [41], (shw l f (shw l f n (l.getD (w.N.toNat + 1) wz)).2 (l.getD (w.N.toNat + 2) wz)).2)
    else
      ([91] ++ (shw l f n (l.getD (w.N.toNat + 1) wz)).1 ++ (shr l f (shw l f n (l.getD (w.N.toNat + 1) wz)).2 (l.getD (w.N.toNat + 2) wz)).1 ++ [93], (shr l f (shw l f n (l.getD (w.N.toNat + 1) wz)).2 (l.getD (w.N.toNat + 2) wz)).2)
/-- The text of the rest of a list, its commas with it. -/
def shr (l : List Wrd) : Nat → Nat → Wrd → List UInt8 × Nat
  | 0, n, _ => ([], n)
  | f + 1, n, w =>
    if w.K = 4 ∧ (l.getD w.N.toNat wz).K = 6 then
      match n with
      | 0 => ([44, 46], 0)
      | n + 1 => ([44] ++ (shw l f n (l.getD (w.N.toNat + 1) wz)).1 ++ (shr l f (shw l f n (l.getD (w.N.toNat + 1) wz)).2 (l.getD (w.N.toNat + 2) wz)).1, (shr l f (shw l f n (l.getD (w.N.toNat + 1) wz)).2 (l.getD (w.N.toNat + 2) wz)).2)
    else ([], n)
end

theorem shw_le (l : List Wrd) : ∀ f, (∀ n w, (shw l f n w).2 ≤ n) ∧ (∀ n w, (shr l f n w).2 ≤ n)
  | 0 => ⟨fun n w => by simp [shw], fun n w => by simp [shr]⟩
  | f + 1 => by
    obtain ⟨h1, h2⟩ := shw_le l f
    refine ⟨fun n w => ?_, fun n w => ?_⟩
    · cases n with
      | zero => simp [shw]
      | succ n =>
        unfold shw
        have q1 := h1 n (l.getD (w.N.toNat + 1) wz)
        have q2 := h1 (shw l f n (l.getD (w.N.toNat + 1) wz)).2 (l.getD (w.N.toNat + 2) wz)
        have q3 := h2 (shw l f n (l.getD (w.N.toNat + 1) wz)).2 (l.getD (w.N.toNat + 2) wz)
        split
        · simp
        · split
          · simp
          · split
            · simp
            · split
              · simp
              · split
                · show (shw l f (shw l f n (l.getD (w.N.toNat + 1) wz)).2 (l.getD (w.N.toNat + 2) wz)).2 ≤ n + 1
                  omega
                · show (shr l f (shw l f n (l.getD (w.N.toNat + 1) wz)).2 (l.getD (w.N.toNat + 2) wz)).2 ≤ n + 1
                  omega
    · unfold shr
      split
      · cases n with
        | zero => simp
        | succ n =>
          have q1 := h1 n (l.getD (w.N.toNat + 1) wz)
          have q3 := h2 (shw l f n (l.getD (w.N.toNat + 1) wz)).2 (l.getD (w.N.toNat + 2) wz)
          show (shr l f (shw l f n (l.getD (w.N.toNat + 1) wz)).2 (l.getD (w.N.toNat + 2) wz)).2 ≤ n + 1
          omega
      · simp

/-- What is known of a word that is right. -/
theorem fld_rgt {s : Int} {l : List Wrd} (h : okH s l = true) {a c : Nat} (hm : (a, c) ∈ allO l) (j : Nat) (hj : j < c) : rgt (heads l) (l.getD (a + 1 + j) wz) = true := by
  unfold okH at h
  simp only [Bool.and_eq_true] at h
  have hf := h.2.2
  unfold fok at hf
  rw [List.all_eq_true] at hf
  have h1 := hf _ hm
  rw [List.all_eq_true] at h1
  apply h1
  have hb := vis_bound (vis_all l).1 _ hm
  have hlt : a + c < l.length := by have := endO_le l; simp only at hb; omega
  refine List.mem_iff_getElem?.2 ⟨j, ?_⟩
  rw [flds_get, if_pos hj]
  show l[a + 1 + j]? = _
  rw [List.getD_eq_getElem?_getD, List.getElem?_eq_getElem (by omega)]
  rfl

/-- What a right word that names an object names. -/
theorem rg4 {s : Int} {l : List Wrd} (h : okH s l = true) {x : Wrd} (hx : rgt (heads l) x = true) (h4 : x.K = 4) :
    ∃ a c : Nat, x.N = (a : Int) ∧ (a, c) ∈ allO l ∧ a + c < l.length ∧ ob l a = some c ∧ cntH (l.getD a wz) = some c ∧ ((l.getD a wz).K = 5 ∨ (l.getD a wz).K = 6 ∨ (l.getD a wz).K = 7) ∧ ((l.getD a wz).K ≠ 7 → c = 2) := by
  obtain ⟨a, c, h1, h2, h3⟩ := rgt_RW hx h4
  obtain ⟨k1, k2, k3⟩ := ob_some h3
  have e : l.getD a wz = l[a] := by rw [List.getD_eq_getElem?_getD, List.getElem?_eq_getElem k1]; rfl
  refine ⟨a, c, h1, h2, k3, h3, by rw [e]; exact k2, ?_, ?_⟩
  · rw [e]
    unfold cntH at k2
    split at k2
    · rename_i hh
      rcases hh.1 with hh | hh
      · exact Or.inl hh
      · exact Or.inr (Or.inl hh)
    · split at k2
      · rename_i hh
        exact Or.inr (Or.inr hh.1)
      · cases k2
  · rw [e]
    intro hne
    unfold cntH at k2
    split at k2
    · injection k2 with k2; exact k2.symm
    · split at k2
      · rename_i hh
        exact absurd hh.1 hne
      · cases k2
theorem rg_kind {l : List Wrd} {x : Wrd} (hx : rgt (heads l) x = true) : (x.K = 1 ∧ -1000000 ≤ x.N ∧ x.N ≤ 1000000) ∨ x.K = 2 ∨ x.K = 3 ∨ x.K = 4 := by
  unfold rgt at hx
  split at hx
  · rename_i h
    simp only [Bool.and_eq_true, decide_eq_true_eq] at hx
    exact Or.inl ⟨h, hx⟩
  · split at hx
    · rename_i h; exact Or.inr (Or.inl h)
    · split at hx
      · rename_i h; exact Or.inr (Or.inr (Or.inl h))
      · split at hx
        · rename_i h; exact Or.inr (Or.inr (Or.inr h))
        · cases hx

theorem shw_len {s : Int} {l : List Wrd} (h : okH s l = true) : ∀ f, (∀ n w, rgt (heads l) w = true → (shw l f n w).1.length + 32 * (shw l f n w).2 ≤ 32 * n + 1) ∧ (∀ n w, rgt (heads l) w = true → (shr l f n w).1.length + 32 * (shr l f n w).2 ≤ 32 * n + 2)
  | 0 => ⟨fun n w _ => by simp [shw]; omega, fun n w _ => by simp [shr]⟩
  | f + 1 => by
    obtain ⟨h1, h2⟩ := shw_len h f
    refine ⟨fun n w hw => ?_, fun n w hw => ?_⟩
    · cases n with
      | zero => simp [shw]
      | succ n =>
        unfold shw
        rcases rg_kind hw with ⟨hk, hn1, hn2⟩ | hk | hk | hk
        · rw [if_pos hk]
          have := Lib.itoa_length_le w.N (by omega) (by omega)
          show (Lib.itoa w.N).length + 32 * n ≤ _
          omega
        · rw [if_neg (by omega), if_pos hk]
          show (if w.N = 1 then [116] else [117] : List UInt8).length + 32 * n ≤ _
          split <;> simp <;> omega
        · rw [if_neg (by omega), if_neg (by omega), if_pos hk]
          show 2 + 32 * n ≤ _
          omega
        · rw [if_neg (by omega), if_neg (by omega), if_neg (by omega)]
          obtain ⟨a, c, ha, hm, hlt, hob, hc, hkk, hc2⟩ := rg4 h hw hk
          have eN : w.N.toNat = a := by omega
          rw [eN]
          split
          · show 2 + 32 * n ≤ _
            omega
          · rename_i hne
            have hc2' := hc2 hne
            subst hc2'
            have r1 := fld_rgt h hm 0 (by omega)
            have r2 := fld_rgt h hm 1 (by omega)
            have q1 := h1 n (l.getD (a + 1) wz) r1
            have q2 := h1 (shw l f n (l.getD (a + 1) wz)).2 (l.getD (a + 2) wz) r2
            have q3 := h2 (shw l f n (l.getD (a + 1) wz)).2 (l.getD (a + 2) wz) r2
            split
            · simp only [List.length_append, List.length_cons, List.length_nil]
              omega
            · simp only [List.length_append, List.length_cons, List.length_nil]
              omega
    · unfold shr
      split
      · rename_i hk
        cases n with
        | zero => simp
        | succ n =>
          obtain ⟨a, c, ha, hm, hlt, hob, hc, hkk, hc2⟩ := rg4 h hw hk.1
          have eN : w.N.toNat = a := by omega
          rw [eN] at hk ⊢
          have hc2' := hc2 (by omega)
          subst hc2'
          have r1 := fld_rgt h hm 0 (by omega)
          have r2 := fld_rgt h hm 1 (by omega)
          have q1 := h1 n (l.getD (a + 1) wz) r1
          have q3 := h2 (shw l f n (l.getD (a + 1) wz)).2 (l.getD (a + 2) wz) r2
          simp only [List.length_append, List.length_cons, List.length_nil]
          omega
      · simp

end Go.Proofs.YtapamdjoipofmaaDoor

/-
  Plain: collected again a heap is the same; its words show the same.
-/
namespace Go.Proofs.YtapamdjoipofmaaDoor
open Go.RowKit
set_option linter.unusedVariables false
set_option linter.unusedSimpArgs false

theorem bfs_more {s : Int} {l : List Wrd} (h : okH s l = true) (k : Nat) : ∀ (f nx : Nat) (qs : List Nat), PL l qs → nx ≤ qs.length → l.length + 1 ≤ f + nx → bfs l (f + k) nx qs = bfs l f nx qs
  | 0, nx, qs, hP, hn, hf => by have := hP.len; omega
  | f + 1, nx, qs, hP, hn, hf => by
    cases hp : qs[nx]? with
    | none => rw [bfs_stop hp, bfs_stop hp]
    | some p =>
      have hm : p ∈ qs := List.mem_iff_getElem?.2 ⟨nx, hp⟩
      have hlt := (List.getElem?_eq_some_iff.1 hp).1
      have hl := (meetL_pre (flds l (objL l p)) qs).length_le
      rw [show f + 1 + k = (f + k) + 1 by omega, bfs_step hp, bfs_step hp]
      exact bfs_more h k f (nx + 1) _ (PL.meetL (okH_objL h hP hm) hP) (by omega) (by omega)

/-- The places of a second collection. -/
theorem plc_again {s : Int} {l roots : List Wrd} (h : okH s l = true) (hr : roots.all (rgt (heads l)) = true) : plc (col l (plc l roots)) (roots.map (mvW l (plc l roots))) = nps l (plc l roots) (plc l roots) := by
  obtain ⟨hP, hC⟩ := plc_PL h hr
  have hok := col_ok h hP hC
  have hroot : ∀ x ∈ roots, x.K = 4 → x.N.toNat ∈ plc l roots := fun x hx hk => root_in hx hk
  have hr' : ∀ x ∈ roots.map (mvW l (plc l roots)), RW (col l (plc l roots)) x := by
    intro x hx
    obtain ⟨y, hy, rfl⟩ := List.mem_map.1 hx
    rw [List.all_eq_true] at hr
    exact rgt_RW (rgt_mv hP (hr y hy) (hroot y hy))
  have hP1 : PL (col l (plc l roots)) (meetL [] (roots.map (mvW l (plc l roots)))) := PL.meetL hr' ⟨List.nodup_nil, fun p hp => by cases hp⟩
  have hle := wrds_le hP
  have e1 := bfs_more hok (l.length - (col l (plc l roots)).length) ((col l (plc l roots)).length + 1) 0 _ hP1 (Nat.zero_le _) (by omega)
  have e2 := meetL_mv hP roots [] (fun q hq => by cases hq) hroot
  have e3 := bfs_mv hP hC (l.length + 1) 0 (meetL [] roots) (meetL_sub _ _ (fun p hp => by cases hp) hroot)
  unfold plc at e1 ⊢
  rw [← e1, show (col l (bfs l (l.length + 1) 0 (meetL [] roots))).length + 1 + (l.length - (col l (bfs l (l.length + 1) 0 (meetL [] roots))).length) = l.length + 1 by have := col_len hP; unfold plc at this hle; omega]
  have e4 : meetL [] (roots.map (mvW l (bfs l (l.length + 1) 0 (meetL [] roots)))) = nps l (bfs l (l.length + 1) 0 (meetL [] roots)) (meetL [] roots) := e2
  rw [e4]
  exact e3

theorem nps_get {l : List Wrd} {ps : List Nat} (hP : PL l ps) {i p : Nat} (hp : ps[i]? = some p) : (nps l ps ps)[i]? = some (wrds l (ps.take i)) := by
  unfold nps
  rw [List.getElem?_map, hp, Option.map_some, off_at hP.1 hp]
theorem nps_wrds {l : List Wrd} {ps : List Nat} (hP : PL l ps) : ∀ i, i ≤ ps.length → wrds (col l ps) ((nps l ps ps).take i) = wrds l (ps.take i)
  | 0, _ => by simp [wrds]
  | i + 1, h => by
    have hp : ps[i]? = some ps[i] := List.getElem?_eq_getElem (by omega)
    obtain ⟨c, hc⟩ := hP.ob ps[i] (List.getElem_mem _)
    rw [wrds_next (nps_get hP hp) (col_ob hP hp hc), wrds_next hp hc, nps_wrds hP i (by omega)]
theorem nps_PL {s : Int} {l : List Wrd} {ps : List Nat} (hP : PL l ps) : PL (col l ps) (nps l ps ps) := by
  refine ⟨?_, fun q hq => ?_⟩
  · unfold nps
    rw [List.nodup_iff_pairwise_ne, List.pairwise_map]
    have := List.nodup_iff_pairwise_ne.1 hP.1
    refine List.Pairwise.imp_of_mem ?_ this
    intro a b ha hb hne e
    exact hne (off_inj hP ha hb e)
  · unfold nps at hq
    obtain ⟨p, hp, rfl⟩ := List.mem_map.1 hq
    obtain ⟨i, hi⟩ := List.mem_iff_getElem?.1 hp
    obtain ⟨c, hc⟩ := hP.ob p hp
    rw [off_at hP.1 hi]
    refine ⟨c, ?_, col_ob hP hi hc⟩
    rw [(col_all hP).1]
    exact colO_has hi hc
/-- Each word of a collected heap lies in an object. -/
theorem col_cover {l : List Wrd} {ps : List Nat} (hP : PL l ps) {t : Nat} (ht : t < (col l ps).length) : ∃ i p c k, ps[i]? = some p ∧ ob l p = some c ∧ k ≤ c ∧ t = wrds l (ps.take i) + k := by
  have hv := (vis_all (col l ps)).1
  rw [(col_all hP).2] at hv
  rcases vis_cover hv t (Nat.zero_le _) ht with ⟨x, hx, e⟩ | ⟨x, hx, e1, e2⟩
  · rw [(col_all hP).1] at hx
    obtain ⟨i, p, hp, hc, ex⟩ := colO_mem hP hx
    exact ⟨i, p, x.2, 0, hp, hc, Nat.zero_le _, by omega⟩
  · rw [(col_all hP).1] at hx
    obtain ⟨i, p, hp, hc, ex⟩ := colO_mem hP hx
    exact ⟨i, p, x.2, t - x.1, hp, hc, by omega, by omega⟩
theorem raw_again {l : List Wrd} {ps : List Nat} (hP : PL l ps) : rawC (col l ps) (nps l ps ps) = col l ps := by
  have hP2 := nps_PL (s := 0) hP
  have hl : (rawC (col l ps) (nps l ps ps)).length = (col l ps).length := by
    rw [rawC_len hP2.ob, col_len hP]
    have := nps_wrds hP ps.length (Nat.le_refl _)
    rw [List.take_length, List.take_of_length_le (by simp [nps])] at this
    exact this
  apply List.ext_getElem?
  intro t
  by_cases ht : t < (col l ps).length
  · obtain ⟨i, p, c, k, hp, hc, hk, rfl⟩ := col_cover hP ht
    have h1 := raw_at hP2 (nps_get hP hp) (col_ob hP hp hc) hk
    rw [nps_wrds hP i (by have := (List.getElem?_eq_some_iff.1 hp).1; omega)] at h1
    exact h1
  · rw [List.getElem?_eq_none (by omega), List.getElem?_eq_none (by omega)]
theorem mv_again {l : List Wrd} {ps : List Nat} (hP : PL l ps) {x : Wrd} (hx : x.K = 4 → x.N.toNat ∈ ps) : mvW (col l ps) (nps l ps ps) (mvW l ps x) = mvW l ps x := by
  by_cases hk : x.K = 4
  · obtain ⟨i, hi⟩ := List.mem_iff_getElem?.1 (hx hk)
    have e : mvW l ps x = ⟨4, (wrds l (ps.take i) : Int)⟩ := by unfold mvW; rw [if_pos hk, off_at hP.1 hi]
    rw [e]
    unfold mvW
    simp only [if_true, Int.toNat_natCast]
    rw [off_at (nps_PL (s := 0) hP).1 (nps_get hP hi), nps_wrds hP i (by have := (List.getElem?_eq_some_iff.1 hi).1; omega)]
  · have e : mvW l ps x = x := by unfold mvW; rw [if_neg hk]
    rw [e]
    unfold mvW
    rw [if_neg hk]
/-- A second collection changes nothing. -/
theorem col_again {s : Int} {l roots : List Wrd} (h : okH s l = true) (hr : roots.all (rgt (heads l)) = true) :
    colL s (colL s l roots) (colR s l roots) = colL s l roots ∧ colR s (colL s l roots) (colR s l roots) = colR s l roots := by
  obtain ⟨hP, hC⟩ := plc_PL h hr
  have hok := col_ok h hP hC
  have hr0 : rokB s l roots = true := by unfold rokB; rw [h, hr]; rfl
  have hrm := hr
  rw [List.all_eq_true] at hrm
  have e1 : colL s l roots = col l (plc l roots) := by unfold colL; rw [if_pos hr0]; rfl
  have e2 : colR s l roots = roots.map (mvW l (plc l roots)) := by unfold colR; rw [if_pos hr0]
  have hr1 : rokB s (col l (plc l roots)) (roots.map (mvW l (plc l roots))) = true := by
    unfold rokB
    rw [hok, Bool.true_and, List.all_eq_true]
    intro x hx
    obtain ⟨y, hy, rfl⟩ := List.mem_map.1 hx
    exact rgt_mv hP (hrm y hy) (fun hk => root_in hy hk)
  rw [e1, e2]
  have e3 := plc_again h hr
  unfold colL colR
  rw [if_pos hr1, if_pos hr1, e3, raw_again hP]
  refine ⟨?_, ?_⟩
  · unfold col
    rw [List.map_map]
    apply List.map_congr_left
    intro x hx
    exact mv_again hP (fun hk => raw_in h (fun y hy => rgt_RW (hrm y hy)) hx hk)
  · rw [List.map_map]
    apply List.map_congr_left
    intro x hx
    exact mv_again hP (fun hk => root_in hx hk)

end Go.Proofs.YtapamdjoipofmaaDoor
