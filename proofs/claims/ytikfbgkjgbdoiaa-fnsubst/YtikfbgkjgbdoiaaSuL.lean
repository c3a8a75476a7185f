/-
  Types put for variables, in plain words: none is left that they had not; put for themselves they change nothing. No walk.
-/
import Derived.Test.YtikfbgkjgbdoiaaSb
namespace Go.Proofs.Ytikfbgkjgbdoiaa
open Go.RowKit
set_option linter.unusedVariables false
set_option linter.unusedSimpArgs false

theorem foldl_max_le (M : Nat) : ∀ (l : List Nat) (a : Nat), a ≤ M → (∀ x ∈ l, x ≤ M) → l.foldl max a ≤ M := by
  intro l
  induction l with
  | nil => intro a ha _; exact ha
  | cons x l ih => intro a ha h; exact ih (max a x) (Nat.max_le.2 ⟨ha, h x (by simp)⟩) (fun y hy => h y (by simp [hy]))
theorem le_foldl_max : ∀ (l : List Nat) (a : Nat), a ≤ l.foldl max a ∧ ∀ x ∈ l, x ≤ l.foldl max a := by
  intro l
  induction l with
  | nil => intro a; exact ⟨Nat.le_refl _, fun x hx => by simp at hx⟩
  | cons x l ih =>
    intro a
    have h := ih (max a x)
    refine ⟨Nat.le_trans (Nat.le_max_left _ _) h.1, fun y hy => ?_⟩
    rw [List.mem_cons] at hy
    rcases hy with rfl | hy
    · exact Nat.le_trans (Nat.le_max_right _ _) h.1
    · exact h.2 y hy

theorem varsW_up : ∀ (l : Nat) (t : Tr), varsW l t ≤ varsW (l + 1) t := by
  intro l
  induction l with
  | zero => intro t; exact Nat.zero_le _
  | succ l ih =>
    intro t
    rw [varsW, varsW]
    refine foldl_max_le _ _ _ (le_foldl_max _ _).1 (fun x hx => ?_)
    obtain ⟨a, ha, rfl⟩ := List.mem_map.1 hx
    exact Nat.le_trans (ih a) ((le_foldl_max _ _).2 _ (List.mem_map.2 ⟨a, ha, rfl⟩))
theorem varsW_mono {l l' : Nat} (h : l ≤ l') (t : Tr) : varsW l t ≤ varsW l' t := by
  induction h with
  | refl => exact Nat.le_refl _
  | step _ ih => exact Nat.le_trans ih (varsW_up _ t)

theorem vars_mem {l : Nat} {t a : Tr} (h : a ∈ t.A) : varsW l a ≤ varsW (l + 1) t := by
  rw [varsW]
  exact (le_foldl_max _ _).2 _ (List.mem_map.2 ⟨a, h, rfl⟩)

theorem nodes_mem {l m : Nat} {t a : Tr} (h : nodesW (l + 1) t = some m) (ha : a ∈ t.A) : ∃ b, nodesW l a = some b := by
  cases t with
  | mk k n ts =>
    obtain ⟨j, hj, rfl⟩ := List.getElem_of_mem ha
    exact (nodesW_inv h).2 j hj

theorem vars_put (σ : List Tr) (M : Nat) (hM : ∀ s ∈ σ, varsW 6 s ≤ M) : ∀ (l : Nat), l ≤ 6 → ∀ (t : Tr) (m : Nat), nodesW l t = some m → varsW l t ≤ σ.length → varsW l (putW σ l t) ≤ M := by
  intro l
  induction l with
  | zero => intro _ t m h; simp [nodesW] at h
  | succ l ih =>
    intro hl t m hn hv
    by_cases hk : t.K = 3
    · have hok := (nodesW_inv (k := t.K) (n := t.N) (ts := t.A) (by rw [tr_eta]; exact hn)).1
      have hn0 := var0_of hok hk
      have hr : var0 t.K t.N ≤ varsW (l + 1) t := by
        have := vars_root (l := l) (k := t.K) (n := t.N) (ts := t.A)
        rwa [tr_eta] at this
      have hlt : t.N.toNat < σ.length := by unfold var0 at hr; rw [if_pos hk] at hr; omega
      rw [putW, if_pos hk, List.getD_eq_getElem?_getD, List.getElem?_eq_getElem hlt]
      exact Nat.le_trans (varsW_mono hl _) (hM _ (List.getElem_mem hlt))
    · rw [putW, if_neg hk, varsW]
      refine foldl_max_le _ _ _ (by simp [var0, hk]) (fun x hx => ?_)
      rw [List.map_map] at hx
      obtain ⟨a, ha, rfl⟩ := List.mem_map.1 hx
      obtain ⟨b, hb⟩ := nodes_mem hn ha
      exact ih (by omega) a b hb (Nat.le_trans (vars_mem ha) hv)

/-- The variables themselves. -/
def selfT : List Tr := [⟨3, 0, []⟩, ⟨3, 1, []⟩]

theorem put_self : ∀ (l : Nat) (t : Tr) (m : Nat), nodesW l t = some m → putW selfT l t = t := by
  intro l
  induction l with
  | zero => intro t m _; rfl
  | succ l ih =>
    intro t m hn
    have hok := (nodesW_inv (k := t.K) (n := t.N) (ts := t.A) (by rw [tr_eta]; exact hn)).1
    by_cases hk : t.K = 3
    · have hn0 := var0_of hok hk
      have hA : t.A = [] := by
        have : (t.A.length : Int) = parts t.K := by
          unfold nodeOk at hok
          simp only [Bool.and_eq_true, decide_eq_true_eq] at hok
          exact hok.1
        rw [hk] at this
        have h0 : parts 3 = 0 := by decide
        rw [h0] at this
        exact List.length_eq_zero_iff.1 (by omega)
      rw [putW, if_pos hk]
      have hN : t.N = 0 ∨ t.N = 1 := by omega
      rcases hN with hN | hN
      · rw [hN]; show (⟨3, 0, []⟩ : Tr) = t; rw [← tr_eta t, hk, hN, hA]
      · rw [hN]; show (⟨3, 1, []⟩ : Tr) = t; rw [← tr_eta t, hk, hN, hA]
    · rw [putW, if_neg hk]
      have : t.A.map (putW selfT l) = t.A := by
        conv => rhs; rw [← List.map_id t.A]
        exact List.map_congr_left fun a ha => by obtain ⟨b, hb⟩ := nodes_mem hn ha; exact ih a b hb
      rw [this, tr_eta]

theorem subst_self {t : Tr} (h : okT t = true) : substT t selfT = some t := by
  obtain ⟨m, hm⟩ := okT_some h
  have hp := put_self 6 t m hm
  have hv : varsT t ≤ 2 := by unfold varsT; rw [if_pos h]; exact vars_le2 6 t m hm
  have hc : okT t = true ∧ varsT t ≤ selfT.length ∧ (selfT.all okT) = true ∧ okT (putW selfT 6 t) = true := ⟨h, hv, by decide, by rw [hp]; exact h⟩
  rw [substT_yes hc, hp]

theorem subst_some {t : Tr} {σ : List Tr} {x : Tr} (h : substT t σ = some x) : okT t = true ∧ okT x = true ∧ ∀ M, (∀ s ∈ σ, varsT s ≤ M) → varsT x ≤ M := by
  unfold substT at h
  split at h
  · rename_i hc
    cases h
    refine ⟨hc.1, hc.2.2.2, fun M hM => ?_⟩
    obtain ⟨m, hm⟩ := okT_some hc.1
    have hall := List.all_eq_true.1 hc.2.2.1
    have hv : varsW 6 t ≤ σ.length := by have := hc.2.1; unfold varsT at this; rw [if_pos hc.1] at this; exact this
    unfold varsT
    rw [if_pos hc.2.2.2]
    exact vars_put σ M (fun s hs => by have := hM s hs; unfold varsT at this; rw [if_pos (hall s hs)] at this; exact this) 6 (Nat.le_refl _) t m hm hv
  · cases h

end Go.Proofs.Ytikfbgkjgbdoiaa
