/-
  Plain: the text of a word of a heap, and how many looks are left behind it.
-/
import Derived.Test.YtaljpbgggembmaaDoorShxRc0
import Derived.Lib.ItoaNum
import Derived.Lib.ItoaLen
namespace Go.Proofs.YtaljpbgggembmaaDoor
open Go.RowKit
set_option linter.unusedVariables false
set_option linter.unusedSimpArgs false

def wz : Wrd := ⟨0, 0⟩
mutual
/-- The text of a word, n looks left. -/
def shw (l : List Wrd) : Nat → Nat → Wrd → List UInt8 × Nat
  | 0, n, _ => ([46], n)
  | _ + 1, 0, _ => ([46], 0)
  | f + 1, n + 1, w =>
    if w.K = 1 then (Lib.itoa w.N, n) else if w.K = 2 then (if w.N = 1 then [116] else [117], n) else if w.K = 3 then ([91, 93], n)
    else if (l.getD w.N.toNat wz).K = 7 then ([102, 110], n)
    else if (l.getD w.N.toNat wz).K = 5 then
      ([40] ++ (shw l f n (l.getD (w.N.toNat + 1) wz)).1 ++ [44] ++ (shw l f (shw l f n (l.getD (w.N.toNat + 1) wz)).2 (l.getD (w.N.toNat + 2) wz)).1 ++ [41], (shw l f (shw l f n (l.getD (w.N.toNat + 1) wz)).2 (l.getD (w.N.toNat + 2) wz)).2)
    else
      ([91] ++ (shw l f n (l.getD (w.N.toNat + 1) wz)).1 ++ (shr l f (shw l f n (l.getD (w.N.toNat + 1) wz)).2 (l.getD (w.N.toNat + 2) wz)).1 ++ [93], (shr l f (shw l f n (l.getD (w.N.toNat + 1) wz)).2 (l.getD (w.N.toNat + 2) wz)).2)
/-- The text of the rest of a list, its commas with it. -/
def shr (l : List Wrd) : Nat → Nat → Wrd → List UInt8 × Nat
  | 0, n, _ => ([], n)
  | f + 1, n, w =>
    if w.K = 4 ∧ (l.getD w.N.toNat wz).K = 6 then
      match n with
      | 0 => ([44, 46], 0)
      | n + 1 => ([44] ++ (shw l f n (l.getD (w.N.toNat + 1) wz)).1 ++ (shr l f (shw l f n (l.getD (w.N.toNat + 1) wz)).2 (l.getD (w.N.toNat + 2) wz)).1, (shr l f (shw l f n (l.getD (w.N.toNat + 1) wz)).2 (l.getD (w.N.toNat + 2) wz)).2)
    else ([], n)
end

theorem shw_le (l : List Wrd) : ∀ f, (∀ n w, (shw l f n w).2 ≤ n) ∧ (∀ n w, (shr l f n w).2 ≤ n)
  | 0 => ⟨fun n w => by simp [shw], fun n w => by simp [shr]⟩
  | f + 1 => by
    obtain ⟨h1, h2⟩ := shw_le l f
    refine ⟨fun n w => ?_, fun n w => ?_⟩
    · cases n with
      | zero => simp [shw]
      | succ n =>
        unfold shw
        have q1 := h1 n (l.getD (w.N.toNat + 1) wz)
        have q2 := h1 (shw l f n (l.getD (w.N.toNat + 1) wz)).2 (l.getD (w.N.toNat + 2) wz)
        have q3 := h2 (shw l f n (l.getD (w.N.toNat + 1) wz)).2 (l.getD (w.N.toNat + 2) wz)
        split
        · simp
        · split
          · simp
          · split
            · simp
            · split
              · simp
              · split
                · show (shw l f (shw l f n (l.getD (w.N.toNat + 1) wz)).2 (l.getD (w.N.toNat + 2) wz)).2 ≤ n + 1
                  omega
                · show (shr l f (shw l f n (l.getD (w.N.toNat + 1) wz)).2 (l.getD (w.N.toNat + 2) wz)).2 ≤ n + 1
                  omega
    · unfold shr
      split
      · cases n with
        | zero => simp
        | succ n =>
          have q1 := h1 n (l.getD (w.N.toNat + 1) wz)
          have q3 := h2 (shw l f n (l.getD (w.N.toNat + 1) wz)).2 (l.getD (w.N.toNat + 2) wz)
          show (shr l f (shw l f n (l.getD (w.N.toNat + 1) wz)).2 (l.getD (w.N.toNat + 2) wz)).2 ≤ n + 1
          omega
      · simp

/-- What is known of a word that is right. -/
theorem fld_rgt {s : Int} {l : List Wrd} (h : okH s l = true) {a c : Nat} (hm : (a, c) ∈ allO l) (j : Nat) (hj : j < c) : rgt (heads l) (l.getD (a + 1 + j) wz) = true := by
  unfold okH at h
  simp only [Bool.and_eq_true] at h
  have hf := h.2.2
  unfold fok at hf
  rw [List.all_eq_true] at hf
  have h1 := hf _ hm
  rw [List.all_eq_true] at h1
  apply h1
  have hb := vis_bound (vis_all l).1 _ hm
  have hlt : a + c < l.length := by have := endO_le l; simp only at hb; omega
  refine List.mem_iff_getElem?.2 ⟨j, ?_⟩
  rw [flds_get, if_pos hj]
  show l[a + 1 + j]? = _
  rw [List.getD_eq_getElem?_getD, List.getElem?_eq_getElem (by omega)]
  rfl

/-- What a right word that names an object names. -/
theorem rg4 {s : Int} {l : List Wrd} (h : okH s l = true) {x : Wrd} (hx : rgt (heads l) x = true) (h4 : x.K = 4) :
    ∃ a c : Nat, x.N = (a : Int) ∧ (a, c) ∈ allO l ∧ a + c < l.length ∧ ob l a = some c ∧ cntH (l.getD a wz) = some c ∧ ((l.getD a wz).K = 5 ∨ (l.getD a wz).K = 6 ∨ (l.getD a wz).K = 7) ∧ ((l.getD a wz).K ≠ 7 → c = 2) := by
  obtain ⟨a, c, h1, h2, h3⟩ := rgt_RW hx h4
  obtain ⟨k1, k2, k3⟩ := ob_some h3
  have e : l.getD a wz = l[a] := by rw [List.getD_eq_getElem?_getD, List.getElem?_eq_getElem k1]; rfl
  refine ⟨a, c, h1, h2, k3, h3, by rw [e]; exact k2, ?_, ?_⟩
  · rw [e]
    unfold cntH at k2
    split at k2
    · rename_i hh
      rcases hh.1 with hh | hh
      · exact Or.inl hh
      · exact Or.inr (Or.inl hh)
    · split at k2
      · rename_i hh
        exact Or.inr (Or.inr hh.1)
      · cases k2
  · rw [e]
    intro hne
    unfold cntH at k2
    split at k2
    · injection k2 with k2; exact k2.symm
    · split at k2
      · rename_i hh
        exact absurd hh.1 hne
      · cases k2
theorem rg_kind {l : List Wrd} {x : Wrd} (hx : rgt (heads l) x = true) : (x.K = 1 ∧ -1000000 ≤ x.N ∧ x.N ≤ 1000000) ∨ x.K = 2 ∨ x.K = 3 ∨ x.K = 4 := by
  unfold rgt at hx
  split at hx
  · rename_i h
    simp only [Bool.and_eq_true, decide_eq_true_eq] at hx
    exact Or.inl ⟨h, hx⟩
  · split at hx
    · rename_i h; exact Or.inr (Or.inl h)
    · split at hx
      · rename_i h; exact Or.inr (Or.inr (Or.inl h))
      · split at hx
        · rename_i h; exact Or.inr (Or.inr (Or.inr h))
        · cases hx

theorem shw_len {s : Int} {l : List Wrd} (h : okH s l = true) : ∀ f, (∀ n w, rgt (heads l) w = true → (shw l f n w).1.length + 32 * (shw l f n w).2 ≤ 32 * n + 1) ∧ (∀ n w, rgt (heads l) w = true → (shr l f n w).1.length + 32 * (shr l f n w).2 ≤ 32 * n + 2)
  | 0 => ⟨fun n w _ => by simp [shw]; omega, fun n w _ => by simp [shr]⟩
  | f + 1 => by
    obtain ⟨h1, h2⟩ := shw_len h f
    refine ⟨fun n w hw => ?_, fun n w hw => ?_⟩
    · cases n with
      | zero => simp [shw]
      | succ n =>
        unfold shw
        rcases rg_kind hw with ⟨hk, hn1, hn2⟩ | hk | hk | hk
        · rw [if_pos hk]
          have := Lib.itoa_length_le w.N (by omega) (by omega)
          show (Lib.itoa w.N).length + 32 * n ≤ _
          omega
        · rw [if_neg (by omega), if_pos hk]
          show (if w.N = 1 then [116] else [117] : List UInt8).length + 32 * n ≤ _
          split <;> simp <;> omega
        · rw [if_neg (by omega), if_neg (by omega), if_pos hk]
          show 2 + 32 * n ≤ _
          omega
        · rw [if_neg (by omega), if_neg (by omega), if_neg (by omega)]
          obtain ⟨a, c, ha, hm, hlt, hob, hc, hkk, hc2⟩ := rg4 h hw hk
          have eN : w.N.toNat = a := by omega
          rw [eN]
          split
          · show 2 + 32 * n ≤ _
            omega
          · rename_i hne
            have hc2' := hc2 hne
            subst hc2'
            have r1 := fld_rgt h hm 0 (by omega)
            have r2 := fld_rgt h hm 1 (by omega)
            have q1 := h1 n (l.getD (a + 1) wz) r1
            have q2 := h1 (shw l f n (l.getD (a + 1) wz)).2 (l.getD (a + 2) wz) r2
            have q3 := h2 (shw l f n (l.getD (a + 1) wz)).2 (l.getD (a + 2) wz) r2
            split
            · simp only [List.length_append, List.length_cons, List.length_nil]
              omega
            · simp only [List.length_append, List.length_cons, List.length_nil]
              omega
    · unfold shr
      split
      · rename_i hk
        cases n with
        | zero => simp
        | succ n =>
          obtain ⟨a, c, ha, hm, hlt, hob, hc, hkk, hc2⟩ := rg4 h hw hk.1
          have eN : w.N.toNat = a := by omega
          rw [eN] at hk ⊢
          have hc2' := hc2 (by omega)
          subst hc2'
          have r1 := fld_rgt h hm 0 (by omega)
          have r2 := fld_rgt h hm 1 (by omega)
          have q1 := h1 n (l.getD (a + 1) wz) r1
          have q3 := h2 (shw l f n (l.getD (a + 1) wz)).2 (l.getD (a + 2) wz) r2
          simp only [List.length_append, List.length_cons, List.length_nil]
          omega
      · simp

end Go.Proofs.YtaljpbgggembmaaDoor
