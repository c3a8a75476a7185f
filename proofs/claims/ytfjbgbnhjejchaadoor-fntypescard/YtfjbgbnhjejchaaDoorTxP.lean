/-
  A type that is right comes back of its text, in plain words: no walk, no statement.
-/
import Derived.Test.YtfjbgbnhjejchaaDoorTxL
import Derived.Test.YtfjbgbnhjejchaaDoorPp
namespace Go.Proofs.YtfjbgbnhjejchaaDoor
open Go.RowKit
set_option linter.unusedVariables false
set_option linter.unusedSimpArgs false

theorem tok_back {k n : Int} {len : Nat} (h : nodeOk k n len = true) : tokTy (tokOf k n) = some (k, n) := by
  obtain ⟨h1, h2⟩ := nodeOk_parts h
  have hp : parts k ≠ -1 := by omega
  have hk : k = 1 ∨ k = 2 ∨ k = 3 ∨ k = 4 ∨ k = 5 ∨ k = 6 := by
    unfold parts at hp
    (repeat' split at hp) <;> omega
  unfold in01 at h2
  simp only [decide_eq_true_eq] at h2
  rcases hk with rfl | rfl | rfl | rfl | rfl | rfl
  · have : n = 0 := by omega
    subst this; rfl
  · have : n = 0 := by omega
    subst this; rfl
  · have : n = 0 ∨ n = 1 := by omega
    rcases this with rfl | rfl <;> rfl
  · have : n = 0 := by omega
    subst this; rfl
  · have : n = 0 := by omega
    subst this; rfl
  · have : n = 0 := by omega
    subst this; rfl

theorem prs_toks : ∀ (l : Nat) (t : Tr) (m : Nat) (R : List (List UInt8)), nodesW l t = some m → prs l (toksW l t ++ R) = some (t, m) := by
  intro l
  induction l with
  | zero => intro t m R h; simp [nodesW] at h
  | succ l ih =>
    intro t m R h
    obtain ⟨k, n, ts⟩ := t
    obtain ⟨hok, hparts⟩ := nodesW_inv h
    have hl := (nodeOk_parts hok).1
    have hn : ∀ (ys : List Tr) (s : Nat) (R : List (List UInt8)), nodesL (nodesW l) ys = some s → prsN (prs l) ys.length ((ys.map (toksW l)).flatten ++ R) = some (ys, s) := by
      intro ys
      induction ys with
      | nil => intro s R h; simp [nodesL] at h; simp [prsN, ← h]
      | cons y ys ihy =>
        intro s R h
        simp only [nodesL] at h
        cases hy : nodesW l y with
        | none => simp [hy] at h
        | some a =>
          cases hz : nodesL (nodesW l) ys with
          | none => simp [hy, hz] at h
          | some b =>
            simp [hy, hz] at h
            simp only [List.map_cons, List.flatten_cons, List.append_assoc, List.length_cons, prsN]
            rw [ih y a _ hy]
            have hd : List.drop a (toksW l y ++ ((ys.map (toksW l)).flatten ++ R)) = (ys.map (toksW l)).flatten ++ R := by
              rw [List.drop_append_of_le_length (by rw [toks_len l y a hy]; exact Nat.le_refl _), List.drop_of_length_le (by rw [toks_len l y a hy]; exact Nat.le_refl _), List.nil_append]
            simp only [hd, ihy b R hz, h]
    simp only [nodesW, hok] at h
    cases hz : nodesL (nodesW l) ts with
    | none => simp [hz] at h
    | some b =>
      simp [hz] at h
      have e : toksW (l + 1) ⟨k, n, ts⟩ ++ R = tokOf k n :: ((ts.map (toksW l)).flatten ++ R) := rfl
      have hp : (parts k).toNat = ts.length := by omega
      have hx := hn ts b R hz
      rw [e]
      simp only [prs, tok_back hok, hp, hx]
      rw [← h, Nat.add_comm]

theorem splAcc_word (x : List UInt8) : ∀ (cur rest : List UInt8), (∀ b ∈ x, b ≠ 32) → splAcc cur (x ++ rest) = splAcc (cur ++ x) rest := by
  induction x with
  | nil => intro cur rest _; simp
  | cons b x ih =>
    intro cur rest h
    rw [List.cons_append, splAcc_more (h b (by simp)), ih _ _ fun c hc => h c (by simp [hc])]
    simp

theorem splAcc_tail (r : List (List UInt8)) : ∀ (cur : List UInt8), (∀ x ∈ r, ∀ b ∈ x, b ≠ 32) → splAcc cur (Lib.joinTail [32] r) = cur :: r := by
  induction r with
  | nil => intro cur _; simp [Lib.joinTail, splAcc]
  | cons y r ih =>
    intro cur h
    have e : Lib.joinTail [32] (y :: r) = 32 :: (y ++ Lib.joinTail [32] r) := by simp [Lib.joinTail]
    rw [e, splAcc_space, splAcc_word y [] _ (h y (by simp)), List.nil_append, ih y fun x hx => h x (by simp [hx])]

theorem tokOf_plain (k n : Int) : ∀ b ∈ tokOf k n, b ≠ 32 := by
  unfold tokOf
  (repeat' split) <;> simp

theorem toksW_plain : ∀ (l : Nat) (t : Tr), ∀ x ∈ toksW l t, ∀ b ∈ x, b ≠ 32 := by
  intro l
  induction l with
  | zero => intro t x hx; simp [toksW] at hx
  | succ l ih =>
    intro t x hx
    obtain ⟨k, n, ts⟩ := t
    simp only [toksW, List.mem_cons, List.mem_flatten, List.mem_map] at hx
    rcases hx with rfl | ⟨_, ⟨y, _, rfl⟩, hx⟩
    · exact tokOf_plain k n
    · exact ih y x hx

theorem spl_text (l : Nat) (t : Tr) (m : Nat) (h : nodesW l t = some m) : spl (textW l t) = toksW l t := by
  have hj := toks_join l t m h
  have hp := toksW_plain l t
  cases ht : toksW l t with
  | nil => have := toks_len l t m h; rw [ht] at this; have := nodesW_pos l t m h; simp at *; omega
  | cons x r =>
    rw [ht] at hj hp
    rw [← hj, Lib.join_cons]
    unfold spl
    rw [splAcc_word x [] _ (hp x (by simp)), List.nil_append, splAcc_tail r x fun y hy => hp y (by simp [hy])]

theorem par_text (t : Tr) (h : okT t = true) : parT (spl (textW 6 t)) = some t := by
  obtain ⟨m, hm, _⟩ := okT_le h
  rw [spl_text 6 t m hm]
  have := prs_toks 6 t m [] hm
  rw [List.append_nil] at this
  unfold parT
  rw [this]
  simp [toks_len 6 t m hm, h]

end Go.Proofs.YtfjbgbnhjejchaaDoor
