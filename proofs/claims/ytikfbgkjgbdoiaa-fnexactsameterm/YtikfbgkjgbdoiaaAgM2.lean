/-
  One round of comparing terms, in plain words: what is left behind it. No walk.
-/
import Derived.Test.YtikfbgkjgbdoiaaAgM
namespace Go.Proofs.Ytikfbgkjgbdoiaa
open Go.RowKit
set_option linter.unusedVariables false
set_option linter.unusedSimpArgs false

theorem mst_step {w : World} {D d L' B' : Nat} {init : List Im} {it : Im} {its : List It} {cs : List Nat} (h : MSt w D d L' B' (init ++ [it]) its cs) (chT : List It) (chM : List Im) (extra : List Nat)
    (hT : ∀ i ∈ chT, Ow w D i.ao i.len i.ts i.bs ∧ Hs L' B' w D i.ao' i.len' i.ts') (hM : ∀ i ∈ chM, ImOk w D d L' B' i) (hcT : ∀ x, (chT.flatMap It.bs).count x ≤ it.p2.count x) (hcM : ∀ x, (chM.flatMap Im.bs).count x + extra.count x ≤ it.p3.count x)
    (hfr : ∀ b ∈ extra, ∃ a t, w.heap[b]? = some (.cells a t (0, 0))) : MSt w D d L' B' (init ++ chM) (its ++ [it.ty] ++ chT) (extra ++ cs) := by
  have key : ∀ x, ((init ++ chM).flatMap Im.bs ++ (its ++ [it.ty] ++ chT).flatMap It.bs ++ (extra ++ cs)).count x ≤ ((init ++ [it]).flatMap Im.bs ++ its.flatMap It.bs ++ cs).count x := by
    intro x
    have h1 := hcT x
    have h2 := hcM x
    have e : (([it].flatMap Im.bs).count x) = it.p1.count x + it.p2.count x + it.p3.count x := by
      simp [Im.bs, List.count_append]; omega
    have e2 : ([it.ty].flatMap It.bs).count x = it.p1.count x := by simp [Im.ty]
    simp only [List.flatMap_append, List.count_append, e, e2]
    omega
  have hit := h.ow it (by simp)
  refine ⟨fun i hi => ?_, fun i hi => ?_, ?_, fun b hb => ?_, fun b hb => ?_⟩
  · rw [List.mem_append] at hi
    rcases hi with hi | hi
    · exact h.ow i (by simp [hi])
    · exact hM i hi
  · rw [List.mem_append, List.mem_append] at hi
    rcases hi with (hi | hi) | hi
    · exact h.owT i hi
    · simp at hi
      subst hi
      exact ⟨hit.o1, hit.f.t1⟩
    · exact hT i hi
  · rw [List.nodup_iff_count]
    exact fun x => Nat.le_trans (key x) (List.nodup_iff_count.1 h.nodup x)
  · have := List.count_pos_iff.2 hb
    exact h.bnd b (List.count_pos_iff.1 (Nat.lt_of_lt_of_le this (key b)))
  · rw [List.mem_append] at hb
    rcases hb with hb | hb
    · exact hfr b hb
    · exact h.fro b hb

theorem all_like {ch : List It} {l l' : List Tr} (ex : ch.map It.x = l) (ey : ch.map It.y = l') : l = l' ↔ ∀ i ∈ ch, i.x = i.y := by
  rw [← ex, ← ey]
  constructor
  · intro h i hi
    obtain ⟨q, hq, rfl⟩ := List.getElem_of_mem hi
    have := congrArg (fun l => l[q]?) h
    simpa [hq] using this
  · intro h
    exact List.map_congr_left h

theorem all_likeM {ch : List Im} {l l' : List Tm} (ex : ch.map Im.t = l) (ey : ch.map Im.t' = l') : l = l' ↔ ∀ i ∈ ch, i.t = i.t' := by
  rw [← ex, ← ey]
  constructor
  · intro h i hi
    obtain ⟨q, hq, rfl⟩ := List.getElem_of_mem hi
    have := congrArg (fun l => l[q]?) h
    simpa [hq] using this
  · intro h
    exact List.map_congr_left h

theorem like_step {it : Im} {chT : List It} {chM : List Im} (hQ : it.t.K = it.t'.K ∧ it.t.N = it.t'.N ∧ it.t.S = it.t'.S ∧ it.t.Z = it.t'.Z)
    (exT : chT.map It.x = it.t.Ts) (eyT : chT.map It.y = it.t'.Ts) (exM : chM.map Im.t = it.t.A) (eyM : chM.map Im.t' = it.t'.A) :
    it.t = it.t' ↔ it.ty.x = it.ty.y ∧ (∀ i ∈ chT, i.x = i.y) ∧ (∀ i ∈ chM, i.t = i.t') := by
  rw [← all_like exT eyT, ← all_likeM exM eyM]
  have e1 : it.ty.x = it.t.T := tr_eta _
  have e2 : it.ty.y = it.t'.T := tr_eta _
  rw [e1, e2]
  constructor
  · intro h; rw [h]; exact ⟨rfl, rfl, rfl⟩
  · intro h
    have h1 := h.1
    have h2 := h.2.1
    have h3 := h.2.2
    generalize it.t = t at *
    generalize it.t' = t' at *
    cases t; cases t'; simp_all

theorem all_step {b : Bool} {init : List Im} {it : Im} {its : List It} {chT : List It} {chM : List Im} (h : b = true ↔ (∀ i ∈ init ++ [it], i.t = i.t') ∧ ∀ i ∈ its, i.x = i.y)
    (hs : it.t = it.t' ↔ it.ty.x = it.ty.y ∧ (∀ i ∈ chT, i.x = i.y) ∧ (∀ i ∈ chM, i.t = i.t')) :
    b = true ↔ (∀ i ∈ init ++ chM, i.t = i.t') ∧ ∀ i ∈ its ++ [it.ty] ++ chT, i.x = i.y := by
  rw [h]
  constructor
  · intro ⟨h1, h2⟩
    have h3 := hs.1 (h1 it (by simp))
    refine ⟨fun i hi => ?_, fun i hi => ?_⟩
    · rw [List.mem_append] at hi
      rcases hi with hi | hi
      · exact h1 i (by simp [hi])
      · exact h3.2.2 i hi
    · rw [List.mem_append, List.mem_append] at hi
      rcases hi with (hi | hi) | hi
      · exact h2 i hi
      · simp at hi; rw [hi]; exact h3.1
      · exact h3.2.1 i hi
  · intro ⟨h1, h2⟩
    refine ⟨fun i hi => ?_, fun i hi => h2 i (by simp [hi])⟩
    rw [List.mem_append] at hi
    rcases hi with hi | hi
    · exact h1 i (by simp [hi])
    · simp at hi
      rw [hi]
      exact hs.2 ⟨h2 it.ty (by simp), fun i hi => h2 i (by simp [hi]), fun i hi => h1 i (by simp [hi])⟩

theorem sum_step {init : List Im} {it : Im} {its : List It} {chT : List It} {chM : List Im} (exT : chT.map It.x = it.t.Ts) (exM : chM.map Im.t = it.t.A) :
    ((init ++ chM).map fun i => 1 + cntM i.t).sum + ((its ++ [it.ty] ++ chT).map fun i => cnt i.x).sum ≤ ((init ++ [it]).map fun i => 1 + cntM i.t).sum + (its.map fun i => cnt i.x).sum ∧
    ((init ++ chM).map fun i => 1 + cntM i.t).sum < ((init ++ [it]).map fun i => 1 + cntM i.t).sum := by
  have h1 := cntM_eq it.t
  have h2 : (chT.map fun i => cnt i.x).sum = cntS it.t.Ts := by unfold cntS; rw [← exT, List.map_map]; rfl
  have h3 : cnt it.ty.x = 1 + cntS it.t.T.A := cnt_eq it.ty.x
  have h4 : (chM.map fun i => 1 + cntM i.t).sum = cntMS it.t.A := by
    rw [← exM]
    unfold cntMS
    rw [List.map_map, List.length_map]
    clear h1 h2 h3 exM exT
    induction chM with
    | nil => rfl
    | cons i l ih => simp only [List.map_cons, List.sum_cons, List.length_cons, ih, Function.comp_apply]; omega
  unfold ownM at h1
  simp only [List.map_append, List.sum_append, List.map_cons, List.map_nil, List.sum_cons, List.sum_nil, h2, h3, h4]
  omega

theorem lenT_le {ms : List Im} {its : List It} {n : Nat} (h : (ms.map fun i => 1 + cntM i.t).sum + (its.map fun i => cnt i.x).sum ≤ n) : its.length ≤ n ∧ ms.length ≤ n := by
  have h1 := sum_le_len (fun i => cnt i.x) (fun i => cnt_pos _) its
  have h2 : ms.length ≤ (ms.map fun i => 1 + cntM i.t).sum := by
    clear h h1
    induction ms with
    | nil => simp
    | cons i l ih => simp only [List.map_cons, List.sum_cons, List.length_cons]; omega
  omega

theorem below_grown {w wr w' : World} {r : Option Nat} (hb : Below w.heap.size w wr) (hg : wr.grownBy w' r) (hr : ∀ x, r = some x → w.heap.size ≤ x) : Below w.heap.size w w' :=
  ⟨hg.os.trans hb.os, hg.tape.trans hb.tape, hg.output.trans hb.output, Nat.le_trans hb.size hg.size, fun i hi => (hg.block i (Nat.lt_of_lt_of_le hi hb.size) (fun e => by have := hr i e.symm; omega)).trans (hb.block i hi)⟩

/-- What the types' comparing wants, when no term is left. -/
theorem mst_types {w wr : World} {D d L' B' mp : Nat} {v u : Value} {its : List It} {cs : List Nat} (hD : MDyn w wr mp v [] u its cs) (h : MSt w D d L' B' [] its cs) (hB' : B' ≤ w.heap.size) : AnySt wr D L' B' u.ownBlock its [] := by
  have hin : ∀ b ∈ its.flatMap It.bs, b < w.heap.size := fun b hb => h.bnd b (by simp only [List.mem_append]; exact Or.inl (Or.inr hb))
  refine ⟨fun i hi => ⟨(h.owT i hi).1.keep fun b hb => hD.bel.block b (hin b (List.mem_flatMap.2 ⟨i, hi, hb⟩)), (h.owT i hi).2.keep (fun k _ hk => hD.bel.block k (by omega)) (Nat.le_refl _) (Nat.le_refl _)⟩, ?_, fun b hb => ?_, fun b hb => by simp at hb⟩
  · have hn := h.nodup
    rw [List.append_nil]
    refine hn.sublist ?_
    simp only [List.flatMap_nil, List.nil_append]
    exact List.sublist_append_left _ _
  · rw [List.append_nil] at hb
    have h1 := hin b hb
    have h2 := hD.bel.size
    exact ⟨by omega, fun e => by have := hD.blkT b e; omega⟩

end Go.Proofs.Ytikfbgkjgbdoiaa
