/-
  What the program's 'mapTys' comes to: a new row, each element what the function that was handed in makes of the old one; and 'copyTy'.
-/
import Derived.Test.YtjikcckggifinaaDoorTtOw
import Derived.Deep.RegionHeld3
import Derived.Test.YtjikcckggifinaaDoorTtZ5
import Derived.Deep.RegionWith
import Derived.Deep.RegionLaw
namespace Go.Proofs.YtjikcckggifinaaDoor
open Go.RowKit
set_option linter.unusedVariables false
set_option linter.unusedSimpArgs false

theorem Tryd.infoTy3 : (Tryd.prog.info? 32).map (fun i => (i.zero, i.size, i.bytes)) = some (some (.agg #[.int .i64 0, .int .i64 0, .slice none 0 0]), 3, 40) := by kernel_rfl

theorem make_ty (len : Nat) (hl : len ≤ 1048576) : ∃ C : Array Value, C.size = len * 3 ∧ ∀ w : World, (Instr.makeSlice 30 (.int .i64 (len : Int)) (.int .i64 (len : Int))).run Tryd.prog w = .ok (.slice (some ⟨w.heap.size, 0, none⟩) len len) (w.alloc (.cells C 32)) := by
  obtain ⟨i0, hi, hz0, hz1, hz2⟩ := info_parts Tryd.infoTy3
  refine ⟨madeCells (Value.cells (.agg #[.int .i64 0, .int .i64 0, .slice none 0 0])) (len * 3), size_madeCells _ _, fun w => ?_⟩
  have := run_make (P := Tryd.prog) (w := w) 30 32 i0 _ Tryd.underlying30 hi hz0 .i64 .i64 (len : Int) (len : Int) (by omega) (by omega) (by rw [hz2]; omega) (by omega)
  rw [hz1] at this
  simpa using this

theorem Hs.up {L B : Nat} {w : World} {d : Nat} {ao : Option Addr} {len : Nat} {ts : List Tr} (h : Hs L B w 0 ao len ts) : Hs L B w (d + 1) ao len ts := by
  obtain ⟨rfl, rfl⟩ := h
  exact ⟨rfl, by omega, fun i hi => by simp at hi⟩

/-- The row of a struct that was made for a result, told anew behind three stores. -/
theorem res_cells {w : World} {g : Nat} {cs : Array Value} {t : TypeId} {a b c : Value} (h : w.heap[g]? = some (.cells cs t (0, 0))) (hc : cs.size = 3) :
    (set3 w g 0 a b c).cell? ⟨g, 0, none⟩ = some a ∧ (set3 w g 0 a b c).cell? ⟨g, 1, none⟩ = some b ∧ (set3 w g 0 a b c).cell? ⟨g, 2, none⟩ = some c := by
  have := set3_cells (o := 0) (a := a) (b := b) (c := c) h (by omega)
  simpa using this

theorem OwR.len0 {L B : Nat} {w : World} {d : Nat} {ao : Option Addr} {len : Nat} (h : OwR L B w d ao len []) : len = 0 := by
  obtain ⟨bs, h1, _⟩ := h
  cases d with
  | zero => exact h1.1
  | succ d =>
    rcases h1 with h1 | ⟨_, _, _, _, hl, _⟩
    · exact h1.1
    · simpa using hl

end Go.Proofs.YtjikcckggifinaaDoor

/-
  What the model's 'l1Copy' comes to: the same tree in new memory.
-/
namespace Go.Proofs.YtjikcckggifinaaDoor
open Go.RowKit
set_option linter.unusedVariables false
set_option linter.unusedSimpArgs false

/-- A slice that is appended to, as a value. -/
theorem ap_form {base : Nat} {wr : World} {d : Nat} {v : Value} {k : Nat} {ts : List Tr} (h : ApRel base wr d v k ts) : ∃ ao cap, v = .slice ao k cap := by
  obtain ⟨xs, hown, _⟩ := h.own
  rcases hown.2 with ⟨rfl, rfl⟩ | ⟨g, cap, cur, rfl, _⟩
  · exact ⟨none, 0, rfl⟩
  · exact ⟨_, cap, rfl⟩

/-- One element more appended to it: what the run of 'append' gives, w1 being the world behind the call that made the element. -/
theorem ap_run {base : Nat} {wr w1 : World} {d : Nat} {v : Value} {k : Nat} {ts : List Tr} (h : ApRel base wr d v k ts) (hk : k < ts.length) (hk2 : ts.length ≤ 1048576) (hb : Below wr.heap.size wr w1) (hbase : base ≤ wr.heap.size) {ao1 : Option Addr} {len1 cap1 : Nat}
    (ho : OwR wr.heap.size w1.heap.size w1 d ao1 len1 ts[k].A) :
    ∃ g cap w2, (Builtin.append_ #[30, 30] 30 #[v, .slice (some ⟨w1.heap.size, 0, none⟩) 1 1]).run Tryd.prog (w1.alloc (.cells #[.int .i64 ts[k].K, .int .i64 ts[k].N, .slice ao1 len1 cap1] 32)) = .ok (.slice (some ⟨g, 0, none⟩) (k + 1) cap) w2 ∧
      ApRel base w2 d (.slice (some ⟨g, 0, none⟩) (k + 1) cap) (k + 1) ts ∧ Below base wr w2 := by
  obtain ⟨i0, hi, hz0, hz1, hz2⟩ := info_parts Tryd.infoTy3
  have hX : Below wr.heap.size wr (w1.alloc (.cells #[.int .i64 ts[k].K, .int .i64 ts[k].N, .slice ao1 len1 cap1] 32)) := hb.alloc hb.size _
  have h1 := ap_below h hX
  obtain ⟨xs, hown, _⟩ := h1.own
  obtain ⟨xs0, hown0, _⟩ := h.own
  have hsz := hb.size
  obtain ⟨g, cap, w2, hrun, hown2, hgrow, hat, hlt⟩ := run_append_lies (P := Tryd.prog) (w1.alloc (.cells #[.int .i64 ts[k].K, .int .i64 ts[k].N, .slice ao1 len1 cap1] 32)) 30 30 base 32 i0 _ 3 40 Tryd.underlying30 hi hz0 hz1 hz2 rfl (by omega) v k xs hown
    ⟨w1.heap.size, 0, none⟩ 1 1 [.int .i64 ts[k].K, .int .i64 ts[k].N, .slice ao1 len1 cap1] rfl (World.news_of_block (cs := #[.int .i64 ts[k].K, .int .i64 ts[k].N, .slice ao1 len1 cap1]) (t := 32) (fr := (0, 0)) (heap_alloc_new w1 _)) (by simp [Value.oneCell'])
    (by omega) (by unfold maxLen; omega) (by omega) (by simp; omega) _ rfl
  refine ⟨g, cap, w2, hrun, ?_, ?_⟩
  · have hxx : xs = xs0 := by
      rcases hown.2 with ⟨hv, hn⟩ | ⟨g1, cap1', cur1, hv, _, hh, _, _, _, ht⟩
      · have q1 := hown.1
        have q2 := hown0.1
        rw [hn] at q1 q2
        simp at q1 q2
        rw [q1, q2]
      · rcases hown0.2 with ⟨hv2, _⟩ | ⟨g2, cap2, cur2, hv2, _, hh2, _, _, _, ht2⟩
        · rw [hv] at hv2; cases hv2
        · rw [hv] at hv2
          cases hv2
          rw [hX.block g1 (Array.getElem?_eq_some_iff.1 hh2).1, hh2] at hh
          cases hh
          rw [← ht, ← ht2]
    subst hxx
    exact ap_next h hk hX hbase (ho.keep (fun q _ hq => Below.heap_alloc _ _ _ hq) (Nat.le_refl _) (by simp)) hown0 hown2 hgrow hat
  · exact (hX.mono hbase).grown hgrow (by simp; omega) (fun q hq => (ap_block h1 hq).1)


end Go.Proofs.YtjikcckggifinaaDoor

/-
  Rows that are appended to, where what lies between was made by calls that write into older blocks too (a cursor).
-/
namespace Go.Proofs.YtjikcckggifinaaDoor
open Go.RowKit
set_option linter.unusedVariables false
set_option linter.unusedSimpArgs false

/-- From block 'base' on nothing that was there has turned. -/
structure Sm (base : Nat) (w w' : World) : Prop where
  size : w.heap.size ≤ w'.heap.size
  block : ∀ k, base ≤ k → k < w.heap.size → w'.heap[k]? = w.heap[k]?
theorem Sm.alloc {base : Nat} {w w' : World} (h : Sm base w w') (o : Obj) : Sm base w (w'.alloc o) :=
  ⟨Nat.le_trans h.size (by simp), fun k hk hk' => (Below.heap_alloc _ _ _ (Nat.lt_of_lt_of_le hk' h.size)).trans (h.block k hk hk')⟩
theorem Sm.grown {base p : Nat} {w w' : World} (h : w.grownBy w' (some p)) (hp : p < base) : Sm base w w' := ⟨h.size, fun k hk hk' => h.block k hk' (by simp; omega)⟩
theorem Sm.drew {base : Nat} {w w' : World} (h : Sm base w.drew w') : Sm base w w' := ⟨h.size, h.block⟩

/-- Below block 'base' nothing has turned. -/
structure Lo (base : Nat) (w w' : World) : Prop where
  os : w'.os = w.os
  tape : w'.tape = w.tape
  output : w'.output = w.output
  size : w.heap.size ≤ w'.heap.size
  block : ∀ k, k < base → w'.heap[k]? = w.heap[k]?

theorem ap_moved {base : Nat} {wr w1 : World} {d : Nat} {v : Value} {k : Nat} {ts : List Tr} (h : ApRel base wr d v k ts) (hb : Sm base wr w1) : ApRel base w1 d v k ts := by
  have hbk := fun g hg => ap_block h (g := g) hg
  obtain ⟨xs, hown, bss, hbl, hnd, hrng, hE⟩ := h.own
  refine ⟨xs, ?_, bss, hbl, hnd, fun b hb' => ⟨(hrng b hb').1, Nat.lt_of_lt_of_le (hrng b hb').2.1 hb.size, (hrng b hb').2.2⟩, fun i hi hi' => ?_⟩
  · refine ⟨hown.1, ?_⟩
    rcases hown.2 with hn | ⟨g, cap, cur, rfl, hg, hh, r⟩
    · exact Or.inl hn
    · exact Or.inr ⟨g, cap, cur, rfl, hg, (hb.block g (hbk g rfl).1 (hbk g rfl).2).trans hh, r⟩
  · obtain ⟨ao, len, cap, c0, c1, c2, hh⟩ := hE i hi hi'
    exact ⟨ao, len, cap, c0, c1, c2, hh.keep fun b hb' => hb.block b (hrng b (mem_part hi hb')).1 (hrng b (mem_part hi hb')).2.1⟩

/-- One append more: X is the world in which it is made (the element laid in a block of its own), w2 what it leaves. -/
theorem ap_next2 {base : Nat} {wr X w2 : World} {d : Nat} {v : Value} {k : Nat} {ts : List Tr} (h : ApRel base wr d v k ts) (hk : k < ts.length) (hX : Sm base wr X) (hbase : base ≤ wr.heap.size) {ao1 : Option Addr} {len1 cap1 : Nat}
    (hs : OwR wr.heap.size X.heap.size X d ao1 len1 ts[k].A) {g cap : Nat} {xs : List Value} (hxs : wr.ownsRow base 32 3 v k xs)
    (hown : w2.ownsRow base 32 3 (.slice (some ⟨g, 0, none⟩) (k + 1) cap) (k + 1) (xs ++ [.int .i64 ts[k].K, .int .i64 ts[k].N, .slice ao1 len1 cap1])) (hgrow : X.grownBy w2 v.ownBlock) (hat : v.ownBlock = some g ∨ g = X.heap.size) :
    ApRel base w2 d (.slice (some ⟨g, 0, none⟩) (k + 1) cap) (k + 1) ts := by
  have hbk := fun g hg => ap_block h (g := g) hg
  have hsz := hX.size
  obtain ⟨xs', hown', bss, hbl, hnd, hrng, hE⟩ := h.own
  have hxx : xs' = xs := by
    rcases hown'.2 with ⟨hv, hn⟩ | ⟨g1, cap1', cur1, hv, _, hh, _, _, _, ht⟩
    · have h1 := hown'.1
      have h2 := hxs.1
      rw [hn] at h1 h2
      simp at h1 h2
      rw [h1, h2]
    · rcases hxs.2 with ⟨hv2, _⟩ | ⟨g2, cap2, cur2, hv2, _, hh2, _, _, _, ht2⟩
      · rw [hv] at hv2; cases hv2
      · rw [hv] at hv2
        cases hv2
        rw [hh] at hh2
        cases hh2
        rw [← ht, ← ht2]
  subst hxx
  have hlx : xs'.length = k * 3 := hown'.1
  obtain ⟨bs, ho, hnd2, hrng2⟩ := hs
  have keepOld : ∀ b, b < X.heap.size → v.ownBlock ≠ some b → w2.heap[b]? = X.heap[b]? := fun b hb hne => hgrow.block b hb (fun e => hne e.symm)
  have hnew : ∀ b ∈ bs, v.ownBlock ≠ some b := fun b hb e => by have h1 := (hbk b e).2; have h2 := (hrng2 b hb).1; omega
  refine ⟨_, hown, bss ++ [bs], by simp [hbl], nodup_snoc hnd hnd2 (fun b hb' => (hrng b hb').2.1) (fun b hb' => (hrng2 b hb').1), ?_, ?_⟩
  · intro b hb'
    rw [List.flatten_append, List.mem_append] at hb'
    have hg2 := hgrow.size
    rcases hb' with hb' | hb'
    · obtain ⟨h1, h2, h3⟩ := hrng b hb'
      refine ⟨h1, by omega, ?_⟩
      simp only [Value.ownBlock]
      intro e
      have e' : g = b := by simpa using e
      subst e'
      rcases hat with hat | hat
      · exact h3 hat
      · omega
    · have hb2 := hrng2 b (by simpa using hb')
      refine ⟨by omega, by omega, ?_⟩
      simp only [Value.ownBlock]
      intro e
      have e' : g = b := by simpa using e
      subst e'
      rcases hat with hat | hat
      · have := (hbk g hat).2; omega
      · omega
  · intro i hi hi'
    by_cases hik : i = k
    · subst hik
      refine ⟨ao1, len1, cap1, ?_, ?_, ?_, ?_⟩
      · rw [List.getElem?_append_right (by omega), hlx]; simp
      · rw [List.getElem?_append_right (by omega), hlx]; simp [Nat.add_sub_cancel_left]
      · rw [List.getElem?_append_right (by omega), hlx]; simp [Nat.add_sub_cancel_left]
      · have e : (bss ++ [bs])[i] = bs := by simp [List.getElem_append_right, hbl]
        rw [e]
        exact ho.keep fun b hb' => keepOld b (hrng2 b hb').2 (hnew b hb')
    · have hik' : i < bss.length := by simp at hi; omega
      obtain ⟨ao', len', cap', c0, c1, c2, hh⟩ := hE i hik' hi'
      refine ⟨ao', len', cap', ?_, ?_, ?_, ?_⟩
      · rw [List.getElem?_append_left (by omega)]; exact c0
      · rw [List.getElem?_append_left (by omega)]; exact c1
      · rw [List.getElem?_append_left (by omega)]; exact c2
      · have e : (bss ++ [bs])[i] = bss[i] := by simp [List.getElem_append_left, hik']
        rw [e]
        refine hh.keep fun b hb' => ?_
        obtain ⟨h1, h2, h3⟩ := hrng b (mem_part hik' hb')
        rw [keepOld b (by omega) h3]
        exact hX.block b h1 h2

/-- One element more appended to it: what the run of 'append' gives, w1 being the world behind the call that made the element. -/
theorem ap_run2 {base : Nat} {wr w1 : World} {d : Nat} {v : Value} {k : Nat} {ts : List Tr} (h : ApRel base wr d v k ts) (hk : k < ts.length) (hk2 : ts.length ≤ 1048576) (hb : Sm base wr w1) (hbase : base ≤ wr.heap.size) {ao1 : Option Addr} {len1 cap1 : Nat}
    (ho : OwR wr.heap.size w1.heap.size w1 d ao1 len1 ts[k].A) :
    ∃ g cap w2, (Builtin.append_ #[30, 30] 30 #[v, .slice (some ⟨w1.heap.size, 0, none⟩) 1 1]).run Tryd.prog (w1.alloc (.cells #[.int .i64 ts[k].K, .int .i64 ts[k].N, .slice ao1 len1 cap1] 32)) = .ok (.slice (some ⟨g, 0, none⟩) (k + 1) cap) w2 ∧
      ApRel base w2 d (.slice (some ⟨g, 0, none⟩) (k + 1) cap) (k + 1) ts ∧ Lo base w1 w2 := by
  obtain ⟨i0, hi, hz0, hz1, hz2⟩ := info_parts Tryd.infoTy3
  have hX : Sm base wr (w1.alloc (.cells #[.int .i64 ts[k].K, .int .i64 ts[k].N, .slice ao1 len1 cap1] 32)) := hb.alloc _
  have h1 := ap_moved h hX
  obtain ⟨xs, hown, _⟩ := h1.own
  obtain ⟨xs0, hown0, _⟩ := h.own
  have hsz := hb.size
  obtain ⟨g, cap, w2, hrun, hown2, hgrow, hat, hlt⟩ := run_append_lies (P := Tryd.prog) (w1.alloc (.cells #[.int .i64 ts[k].K, .int .i64 ts[k].N, .slice ao1 len1 cap1] 32)) 30 30 base 32 i0 _ 3 40 Tryd.underlying30 hi hz0 hz1 hz2 rfl (by omega) v k xs hown
    ⟨w1.heap.size, 0, none⟩ 1 1 [.int .i64 ts[k].K, .int .i64 ts[k].N, .slice ao1 len1 cap1] rfl (World.news_of_block (cs := #[.int .i64 ts[k].K, .int .i64 ts[k].N, .slice ao1 len1 cap1]) (t := 32) (fr := (0, 0)) (heap_alloc_new w1 _)) (by simp [Value.oneCell'])
    (by omega) (by unfold maxLen; omega) (by omega) (by simp; omega) _ rfl
  refine ⟨g, cap, w2, hrun, ?_, ?_⟩
  · have hxx : xs = xs0 := by
      rcases hown.2 with ⟨hv, hn⟩ | ⟨g1, cap1', cur1, hv, _, hh, _, _, _, ht⟩
      · have q1 := hown.1
        have q2 := hown0.1
        rw [hn] at q1 q2
        simp at q1 q2
        rw [q1, q2]
      · rcases hown0.2 with ⟨hv2, _⟩ | ⟨g2, cap2, cur2, hv2, hbg2, hh2, _, _, _, ht2⟩
        · rw [hv] at hv2; cases hv2
        · rw [hv] at hv2
          cases hv2
          rw [hX.block g1 hbg2 (Array.getElem?_eq_some_iff.1 hh2).1, hh2] at hh
          cases hh
          rw [← ht, ← ht2]
    subst hxx
    exact ap_next2 h hk hX hbase (ho.keep (fun q _ hq => Below.heap_alloc _ _ _ hq) (Nat.le_refl _) (by simp)) hown0 hown2 hgrow hat
  · refine ⟨hgrow.os, hgrow.tape, hgrow.output, Nat.le_trans (by simp) hgrow.size, fun q hq => ?_⟩
    rw [hgrow.block q (by simp; omega) (fun e => by have := (ap_block h1 e.symm).1; omega)]
    exact Below.heap_alloc _ _ _ (by omega)

end Go.Proofs.YtjikcckggifinaaDoor
