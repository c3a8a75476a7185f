/-
  Rows of terms that are appended to, each term in memory of its own. No walk.
-/
import Derived.Test.YtgckmnchlkgakaaLmaOwM
import Derived.Test.YtgckmnchlkgakaaLmaTro
namespace Go.Proofs.Ytgckmnchlkgakaa
open Go.RowKit
set_option linter.unusedVariables false
set_option linter.unusedSimpArgs false

/-- A slice of the call's own (none, or a row from block 'base' on) that has been appended to k times. -/
def ApRelM (base : Nat) (wr : World) (D d : Nat) (v : Value) (k : Nat) (ts : List Tm) : Prop :=
  ∃ xs, wr.ownsRow base 36 9 v k xs ∧ ∃ bss : List (List Nat), bss.length = k ∧ bss.flatten.Nodup ∧ (∀ b ∈ bss.flatten, base ≤ b ∧ b < wr.heap.size ∧ v.ownBlock ≠ some b) ∧
    ∀ i (_ : i < bss.length) (_ : i < ts.length), ∃ a1 l1 c1 a2 l2 c2 a3 l3 c3, (∀ j, j < 9 → xs[i * 9 + j]? = (c9 ts[i] a1 l1 c1 a2 l2 c2 a3 l3 c3)[j]?) ∧ FldO wr D (OwM wr D d) ts[i] a1 l1 a2 l2 a3 l3 bss[i]

theorem apm_nil (base : Nat) (w : World) (D d : Nat) (ts : List Tm) : ApRelM base w D d (.slice none 0 0) 0 ts :=
  ⟨[], World.ownsRow_nil _ _ _ _, [], rfl, by simp, by simp, fun i hi => by simp at hi⟩
theorem apm_emp {base : Nat} {w : World} {D d b : Nat} (ts : List Tm) (h : w.heap[b]? = some (.cells #[] 36 (0, 0))) (hb : base ≤ b) : ApRelM base w D d (.slice (some ⟨b, 0, none⟩) 0 0) 0 ts :=
  ⟨[], ⟨by simp, Or.inr ⟨b, 0, #[], by simp, hb, h, by simp, by simp, by simp, by simp⟩⟩, [], rfl, by simp, by simp, fun i hi => by simp at hi⟩

theorem owns_block {base e size : Nat} {w : World} {v : Value} {n : Nat} {xs : List Value} (h : w.ownsRow base e size v n xs) {g : Nat} (hg : v.ownBlock = some g) : base ≤ g ∧ g < w.heap.size := by
  rcases h.2 with ⟨rfl, _⟩ | ⟨g', cap, cur, rfl, hb, hh, _⟩
  · cases hg
  · have e : g' = g := by simpa [Value.ownBlock] using hg
    subst e
    exact ⟨hb, (Array.getElem?_eq_some_iff.1 hh).1⟩
theorem apm_block {base : Nat} {wr : World} {D d : Nat} {v : Value} {k : Nat} {ts : List Tm} (h : ApRelM base wr D d v k ts) {g : Nat} (hg : v.ownBlock = some g) : base ≤ g ∧ g < wr.heap.size := by
  obtain ⟨xs, hown, _⟩ := h
  exact owns_block hown hg
theorem apm_keep {base : Nat} {wr w1 : World} {D d : Nat} {v : Value} {k : Nat} {ts : List Tm} (h : ApRelM base wr D d v k ts) (hb : ∀ b, base ≤ b → b < wr.heap.size → w1.heap[b]? = wr.heap[b]?) (hz : wr.heap.size ≤ w1.heap.size) : ApRelM base w1 D d v k ts := by
  have hbk := fun g hg => apm_block h (g := g) hg
  obtain ⟨xs, hown, bss, hbl, hnd, hrng, hE⟩ := h
  refine ⟨xs, owns_keep hown (fun g hg => hb g (hbk g hg).1 (hbk g hg).2), bss, hbl, hnd, fun b hb' => ⟨(hrng b hb').1, Nat.lt_of_lt_of_le (hrng b hb').2.1 hz, (hrng b hb').2.2⟩, fun i hi hi' => ?_⟩
  obtain ⟨a1, l1, c1, a2, l2, c2, a3, l3, c3, h1, h2⟩ := hE i hi hi'
  exact ⟨a1, l1, c1, a2, l2, c2, a3, l3, c3, h1, h2.keep fun b hb' => hb b (hrng b (mem_part hi hb')).1 (hrng b (mem_part hi hb')).2.1⟩
theorem apm_below {base : Nat} {wr w1 : World} {D d : Nat} {v : Value} {k : Nat} {ts : List Tm} (h : ApRelM base wr D d v k ts) (hb : Below wr.heap.size wr w1) : ApRelM base w1 D d v k ts :=
  apm_keep h (fun b _ hb' => hb.block b hb') hb.size
theorem apm_set {base : Nat} {wr : World} {D d : Nat} {v : Value} {k : Nat} {ts : List Tm} (h : ApRelM base wr D d v k ts) {o j : Nat} (ho : o < base) (u : Value) : ApRelM base (wr.setCell ⟨o, j, none⟩ u) D d v k ts :=
  apm_keep h (fun b hb _ => row_other _ _ _ (by omega)) (by simp)

/-- One term more appended: w1 is the world behind the call that made it. -/
theorem apm_run {base : Nat} {wr w1 : World} {D d : Nat} {v : Value} {k : Nat} {ts : List Tm} (h : ApRelM base wr D d v k ts) (hk : k < ts.length) (hk2 : k ≤ 1048576) (hb : Below wr.heap.size wr w1) (hbase : base ≤ wr.heap.size) {a1 : Option Addr} {l1 c1 : Nat} {a2 : Option Addr} {l2 c2 : Nat} {a3 : Option Addr} {l3 c3 : Nat}
    (ho : FmO wr.heap.size w1.heap.size w1 D d ts[k] a1 l1 a2 l2 a3 l3) :
    ∃ g cap w2, (Builtin.append_ #[34, 34] 34 #[v, .slice (some ⟨w1.heap.size, 0, none⟩) 1 1]).run Try.prog (w1.alloc (.cells #[.int .i64 ts[k].K, .int .i64 ts[k].N, .string ts[k].S, .string ts[k].Z, .int .i64 ts[k].T.K, .int .i64 ts[k].T.N, .slice a1 l1 c1, .slice a2 l2 c2, .slice a3 l3 c3] 36)) = .ok (.slice (some ⟨g, 0, none⟩) (k + 1) cap) w2 ∧
      ApRelM base w2 D d (.slice (some ⟨g, 0, none⟩) (k + 1) cap) (k + 1) ts ∧ Below base wr w2 := by
  obtain ⟨i0, hi, hz0, hz1, hz2⟩ := info_parts Try.infoTerm
  obtain ⟨X, hXe⟩ : ∃ X, X = w1.alloc (.cells #[.int .i64 ts[k].K, .int .i64 ts[k].N, .string ts[k].S, .string ts[k].Z, .int .i64 ts[k].T.K, .int .i64 ts[k].T.N, .slice a1 l1 c1, .slice a2 l2 c2, .slice a3 l3 c3] 36) := ⟨_, rfl⟩
  have hX1 : Below w1.heap.size w1 X := by rw [hXe]; exact (Below.refl _ _).alloc (Nat.le_refl _) _
  have hX : Below wr.heap.size wr X := hb.trans (hX1.mono hb.size)
  have hXs : X.heap.size = w1.heap.size + 1 := by rw [hXe]; simp
  have hbk := fun g hg => apm_block h (g := g) hg
  obtain ⟨xs, hown, bss, hbl, hnd, hrng, hE⟩ := h
  have hownX := owns_keep hown (fun g hg => hX.block g (hbk g hg).2)
  have hsz := hb.size
  obtain ⟨g, cap, w2, hrun, hown2, hgrow, hat, hlt⟩ := run_append_lies (P := Try.prog) X 34 34 base 36 i0 _ 9 136 Try.underlying34 hi hz0 hz1 hz2 rfl (by omega) v k xs hownX
    ⟨w1.heap.size, 0, none⟩ 1 1 (c9 ts[k] a1 l1 c1 a2 l2 c2 a3 l3 c3) rfl (by rw [hXe]; exact World.news_of_block (cs := #[.int .i64 ts[k].K, .int .i64 ts[k].N, .string ts[k].S, .string ts[k].Z, .int .i64 ts[k].T.K, .int .i64 ts[k].T.N, .slice a1 l1 c1, .slice a2 l2 c2, .slice a3 l3 c3]) (t := 36) (fr := (0, 0)) (heap_alloc_new w1 _)) (one9 _ _ _ _ _ _ _ _ _ _)
    (by omega) (by unfold maxLen; omega) (by omega) (by omega) _ rfl
  have hgz := hgrow.size
  have hlx : xs.length = k * 9 := hown.1
  obtain ⟨bs, hO, hnd2, hrng2⟩ := ho
  have keepOld : ∀ b, b < X.heap.size → v.ownBlock ≠ some b → w2.heap[b]? = X.heap[b]? := fun b hb' hne => hgrow.block b hb' (fun e => hne e.symm)
  have hnew : ∀ b ∈ bs, v.ownBlock ≠ some b := fun b hb' e => by have h1 := (hbk b e).2; have h2 := (hrng2 b hb').1; omega
  rw [← hXe]
  refine ⟨g, cap, w2, hrun, ⟨_, hown2, bss ++ [bs], by simp [hbl], nodup_snoc hnd hnd2 (fun b hb' => (hrng b hb').2.1) (fun b hb' => (hrng2 b hb').1), ?_, ?_⟩, ?_⟩
  · intro b hb'
    rw [List.flatten_append, List.mem_append] at hb'
    rcases hb' with hb' | hb'
    · obtain ⟨h1, h2, h3⟩ := hrng b hb'
      refine ⟨h1, by omega, fun e => ?_⟩
      have e' : g = b := by simpa [Value.ownBlock] using e
      subst e'
      rcases hat with hat | hat
      · exact h3 hat
      · omega
    · have hb2 := hrng2 b (by simpa using hb')
      refine ⟨by omega, by omega, fun e => ?_⟩
      have e' : g = b := by simpa [Value.ownBlock] using e
      subst e'
      rcases hat with hat | hat
      · have := (hbk g hat).2; omega
      · omega
  · intro i hi hi'
    by_cases hik : i = k
    · subst hik
      refine ⟨a1, l1, c1, a2, l2, c2, a3, l3, c3, fun j hj => ?_, ?_⟩
      · rw [List.getElem?_append_right (by omega), hlx, Nat.add_sub_cancel_left]
      · have e : (bss ++ [bs])[i] = bs := by simp [List.getElem_append_right, hbl]
        rw [e]
        exact hO.keep fun b hb' => (keepOld b (by have := (hrng2 b hb').2; omega) (hnew b hb')).trans (hX1.block b (hrng2 b hb').2)
    · have hik' : i < bss.length := by simp at hi; omega
      obtain ⟨b1, m1, d1, b2, m2, d2, b3, m3, d3, h1, h2⟩ := hE i hik' hi'
      refine ⟨b1, m1, d1, b2, m2, d2, b3, m3, d3, fun j hj => ?_, ?_⟩
      · rw [List.getElem?_append_left (by omega)]; exact h1 j hj
      · have e : (bss ++ [bs])[i] = bss[i] := by simp [List.getElem_append_left, hik']
        rw [e]
        refine h2.keep fun b hb' => ?_
        obtain ⟨h3, h4, h5⟩ := hrng b (mem_part hik' hb')
        exact (keepOld b (by omega) h5).trans (hX.block b h4)
  · refine ⟨hgrow.os.trans hX.os, hgrow.tape.trans hX.tape, hgrow.output.trans hX.output, by omega, fun b hb' => (keepOld b (by omega) (fun e => by have := (hbk b e).1; omega)).trans (hX.block b (by omega))⟩

theorem apm_done {base : Nat} {wr : World} {D d : Nat} {v : Value} {k : Nat} {ts : List Tm} (h : ApRelM base wr D d v k ts) (hk : k = ts.length) (hm : k ≤ 9223372036854775807) : ∃ ao cap, v = .slice ao k cap ∧ OwMR base wr.heap.size wr D (d + 1) ao k ts := by
  have hbk := fun g hg => apm_block h (g := g) hg
  obtain ⟨xs, hown, bss, hbl, hnd, hrng, hE⟩ := h
  rcases hown.2 with ⟨rfl, rfl⟩ | ⟨g, cap, cur, rfl, hg, hh, hc1, hc2, hc3, ht⟩
  · have : ts = [] := List.length_eq_zero_iff.1 hk.symm
    subst this
    exact ⟨none, 0, rfl, OwMR.nil _ _ _ _ _ _⟩
  · refine ⟨_, cap, rfl, ?_⟩
    by_cases hk0 : k = 0
    · subst hk0
      have : ts = [] := List.length_eq_zero_iff.1 hk.symm
      subst this
      exact OwMR.nil _ _ _ _ _ _
    refine ⟨g :: bss.flatten, Or.inr ⟨g, cur, bss, rfl, hk, hm, hh, ?_, by omega, rfl, fun i hi hi' => ?_⟩, ?_, ?_⟩
    · rw [hc3]; exact Nat.mul_le_mul_right _ hc1
    · obtain ⟨a1, l1, c1, a2, l2, c2, a3, l3, c3, h1, h2⟩ := hE i hi' hi
      have look : ∀ j, j < 9 → wr.cell? ⟨g, i * 9 + j, none⟩ = (c9 ts[i] a1 l1 c1 a2 l2 c2 a3 l3 c3)[j]? := fun j hj => by
        rw [← h1 j hj, row_cell hh, ← ht, List.getElem?_take, if_pos (by omega)]
        simp
      exact ⟨a1, l1, c1, a2, l2, c2, a3, l3, c3, ⟨look 0 (by omega), look 1 (by omega), look 2 (by omega), look 3 (by omega), look 4 (by omega), look 5 (by omega), look 6 (by omega), look 7 (by omega), look 8 (by omega)⟩, h2⟩
    · rw [List.nodup_cons]
      exact ⟨fun hmem => (hrng _ hmem).2.2 rfl, hnd⟩
    · intro b hb
      rw [List.mem_cons] at hb
      rcases hb with rfl | hb
      · exact hbk b rfl
      · exact ⟨(hrng b hb).1, (hrng b hb).2.1⟩

end Go.Proofs.Ytgckmnchlkgakaa
