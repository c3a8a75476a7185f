/-
  A row of types that is appended to, each type somewhere else: no walk.
-/
import Derived.Test.YtikfbgkjgbdoiaaNy
import Derived.Test.YtikfbgkjgbdoiaaNw1
namespace Go.Proofs.Ytikfbgkjgbdoiaa
open Go.RowKit
set_option linter.unusedVariables false
set_option linter.unusedSimpArgs false

structure TsRel (base : Nat) (wr : World) (D : Nat) (v : Value) (us : List Tr) : Prop where
  own : ∃ xs, wr.ownsRow base 32 3 v us.length xs ∧ ∀ i (h : i < us.length), ∃ ao len cap Li Bi, xs[i * 3]? = some (.int .i64 us[i].K) ∧ xs[i * 3 + 1]? = some (.int .i64 us[i].N) ∧ xs[i * 3 + 2]? = some (.slice ao len cap) ∧
    base ≤ Li ∧ Bi ≤ wr.heap.size ∧ Hs Li Bi wr D ao len us[i].A ∧ ∀ g, v.ownBlock = some g → g < Li ∨ Bi ≤ g

theorem own_at {base : Nat} {wr : World} {ty : TypeId} {k : Nat} {v : Value} {n : Nat} {xs : List Value} (h : wr.ownsRow base ty k v n xs) {g : Nat} (hg : v.ownBlock = some g) : base ≤ g ∧ g < wr.heap.size := by
  rcases h.2 with ⟨rfl, _⟩ | ⟨g', cap, cur, rfl, hb, hh, _⟩
  · cases hg
  · have e : g' = g := by simpa [Value.ownBlock] using hg
    subst e
    exact ⟨hb, (Array.getElem?_eq_some_iff.1 hh).1⟩

theorem ts_sm {base : Nat} {wr w1 : World} {D : Nat} {v : Value} {us : List Tr} (h : TsRel base wr D v us) (hs : Sm base wr w1) : TsRel base w1 D v us := by
  obtain ⟨xs, hown, hE⟩ := h.own
  refine ⟨xs, ⟨hown.1, ?_⟩, fun i hi => ?_⟩
  · rcases hown.2 with hn | ⟨g, cap, cur, rfl, hg, hh, r⟩
    · exact Or.inl hn
    · exact Or.inr ⟨g, cap, cur, rfl, hg, (hs.block g hg (Array.getElem?_eq_some_iff.1 hh).1).trans hh, r⟩
  · obtain ⟨ao, len, cap, Li, Bi, c0, c1, c2, h1, h2, h3, h4⟩ := hE i hi
    exact ⟨ao, len, cap, Li, Bi, c0, c1, c2, h1, Nat.le_trans h2 hs.size, h3.keep (fun q hq hq' => hs.block q (by omega) (by omega)) (Nat.le_refl _) (Nat.le_refl _), h4⟩

theorem ts_push {base : Nat} {wr w1 : World} {D : Nat} {v : Value} {us : List Tr} (h : TsRel base wr D v us) (hs : Sm base wr w1) (hb : base ≤ wr.heap.size) (hl : us.length ≤ 1000000) (K N : Int) (ao : Option Addr) (len cap : Nat) (ts : List Tr) (hH : Hs wr.heap.size w1.heap.size w1 D ao len ts) :
    ∃ g cap' w2, (Builtin.append_ #[30, 30] 30 #[v, .slice (some ⟨w1.heap.size, 0, none⟩) 1 1]).run Try.prog (w1.alloc (.cells #[.int .i64 K, .int .i64 N, .slice ao len cap] 32)) = .ok (.slice (some ⟨g, 0, none⟩) (us.length + 1) cap') w2 ∧
      TsRel base w2 D (.slice (some ⟨g, 0, none⟩) (us.length + 1) cap') (us ++ [⟨K, N, ts⟩]) ∧ Lo base w1 w2 := by
  obtain ⟨i0, hi, hz0, hz1, hz2⟩ := info_parts Try.infoTy3
  have hvb : ∀ g, v.ownBlock = some g → base ≤ g ∧ g < wr.heap.size := by
    obtain ⟨xs, hown, _⟩ := h.own
    exact fun g hg => own_at hown hg
  have h1 := ts_sm h (hs.alloc (.cells #[.int .i64 K, .int .i64 N, .slice ao len cap] 32))
  obtain ⟨xs, hown, hE⟩ := h1.own
  have hsz := hs.size
  obtain ⟨g, cap', w2, hrun, hown2, hgrow, hat, hlt⟩ := run_append_lies (P := Try.prog) (w1.alloc (.cells #[.int .i64 K, .int .i64 N, .slice ao len cap] 32)) 30 30 base 32 i0 _ 3 40 Try.underlying30 hi hz0 hz1 hz2 rfl (by omega) v us.length xs hown
    ⟨w1.heap.size, 0, none⟩ 1 1 [.int .i64 K, .int .i64 N, .slice ao len cap] rfl (World.news_of_block (cs := #[.int .i64 K, .int .i64 N, .slice ao len cap]) (t := 32) (fr := (0, 0)) (heap_alloc_new w1 _)) (by simp [Value.oneCell'])
    (by omega) (by unfold maxLen; omega) (by omega) (by simp; omega) _ rfl
  have hlx : xs.length = us.length * 3 := hown.1
  have hgs := hgrow.size
  simp only [World.size_alloc] at hat hgs
  have hkeep : ∀ q, q < w1.heap.size → v.ownBlock ≠ some q → w2.heap[q]? = w1.heap[q]? := fun q hq hne => (hgrow.block q (by simp; omega) (fun e => hne e.symm)).trans (Below.heap_alloc _ _ _ hq)
  have hgA : ∀ Li Bi, Bi ≤ w1.heap.size + 1 → (∀ g, v.ownBlock = some g → g < Li ∨ Bi ≤ g) → g < Li ∨ Bi ≤ g := by
    intro Li Bi hB hh
    rcases hat with hat | hat
    · exact hh g hat
    · right; omega
  refine ⟨g, cap', w2, hrun, ⟨xs ++ [.int .i64 K, .int .i64 N, .slice ao len cap], by simpa using hown2, fun i hi => ?_⟩, ⟨hgrow.os, hgrow.tape, hgrow.output, by omega, fun q hq => hkeep q (by omega) (fun e => by have := (hvb q e).1; omega)⟩⟩
  by_cases hil : i < us.length
  · obtain ⟨ao1, len1, cap1, Li, Bi, c0, c1, c2, q1, q2, q3, q4⟩ := hE i hil
    have e : (us ++ [(⟨K, N, ts⟩ : Tr)])[i] = us[i] := by simp [List.getElem_append_left, hil]
    rw [e]
    simp only [World.size_alloc] at q2
    refine ⟨ao1, len1, cap1, Li, Bi, ?_, ?_, ?_, q1, by omega, q3.keep (fun q hq hq' => ?_) (Nat.le_refl _) (Nat.le_refl _), fun g' hg' => ?_⟩
    · rw [List.getElem?_append_left (by omega)]; exact c0
    · rw [List.getElem?_append_left (by omega)]; exact c1
    · rw [List.getElem?_append_left (by omega)]; exact c2
    · exact hgrow.block q (by simp; omega) (fun e => by have := q4 q e.symm; omega)
    · have e' : g = g' := by simpa [Value.ownBlock] using hg'
      subst e'
      exact hgA Li Bi q2 q4
  · have hie : i = us.length := by simp at hi; omega
    subst hie
    have e : (us ++ [(⟨K, N, ts⟩ : Tr)])[us.length] = ⟨K, N, ts⟩ := by simp
    rw [e]
    refine ⟨ao, len, cap, wr.heap.size, w1.heap.size, ?_, ?_, ?_, hb, by omega, hH.keep (fun q hq hq' => hkeep q hq' (fun e => by have := (hvb q e).2; omega)) (Nat.le_refl _) (Nat.le_refl _), fun g' hg' => ?_⟩
    · rw [List.getElem?_append_right (by omega), hlx]; simp
    · rw [List.getElem?_append_right (by omega), hlx]; simp [Nat.add_sub_cancel_left]
    · rw [List.getElem?_append_right (by omega), hlx]; simp [Nat.add_sub_cancel_left]
    · have e' : g = g' := by simpa [Value.ownBlock] using hg'
      subst e'
      rcases hat with hat | hat
      · left; exact (hvb g hat).2
      · right; omega

theorem ts_done {base : Nat} {wr : World} {D : Nat} {v : Value} {us : List Tr} (h : TsRel base wr D v us) (hl : us.length ≤ 1000000) : ∃ ao cap, v = .slice ao us.length cap ∧ Hs base wr.heap.size wr (D + 1) ao us.length us := by
  obtain ⟨xs, hown, hE⟩ := h.own
  rcases hown.2 with ⟨rfl, hn⟩ | ⟨g, cap, cur, rfl, hg, hh, hc1, hc2, hc3, ht⟩
  · have : us = [] := List.length_eq_zero_iff.1 hn
    subst this
    exact ⟨none, 0, rfl, rfl, by omega, fun i hi => by simp at hi⟩
  · refine ⟨_, cap, rfl, rfl, by omega, fun i hi => ?_⟩
    obtain ⟨ao1, len1, cap1, Li, Bi, c0, c1, c2, q1, q2, q3, q4⟩ := hE i hi
    have look : ∀ p u, xs[p]? = some u → wr.cell? ⟨g, p, none⟩ = some u := by
      intro p u hu
      rw [row_cell hh]
      rw [← ht] at hu
      rw [List.getElem?_take] at hu
      split at hu
      · simpa using hu
      · cases hu
    refine ⟨g, 0, rfl, hg, (Array.getElem?_eq_some_iff.1 hh).1, ?_⟩
    rw [Nat.zero_add]
    exact ⟨ao1, len1, cap1, look _ _ c0, look _ _ c1, look _ _ c2, q3.keep (fun _ _ _ => rfl) q1 q2⟩

theorem ts_form {base : Nat} {wr : World} {D : Nat} {v : Value} {us : List Tr} (h : TsRel base wr D v us) : ∃ ao cap, v = .slice ao us.length cap := by
  obtain ⟨xs, hown, hE⟩ := h.own
  rcases hown.2 with ⟨rfl, hn⟩ | ⟨g, cap, cur, rfl, _⟩
  · exact ⟨none, 0, by rw [hn]⟩
  · exact ⟨_, cap, rfl⟩

end Go.Proofs.Ytikfbgkjgbdoiaa
