/-
  Rows of numbers of one's own (off Ir, Ir2: at a seat without the laws' rows of numbers). No walk, no statement.
-/
import Derived.Test.YtapamdjoipofmaaDoorFcdZ3
import Derived.Deep.AppendLies
import Derived.Deep.Upon
import Derived.Deep.WholeRow
import Derived.Deep.MidRow
namespace Go.Proofs.YtapamdjoipofmaaDoor
open Go.RowKit
set_option linter.unusedVariables false
set_option linter.unusedSimpArgs false

/-- A slice (its address, its length) holds these numbers, in a block from L on and below B. -/
def Is (L B : Nat) (w : World) (ao : Option Addr) (len : Nat) (l : List Int) : Prop :=
  len = l.length ∧ len ≤ 9223372036854775807 ∧ ∀ i (_ : i < l.length), ∃ b o, ao = some ⟨b, o, none⟩ ∧ L ≤ b ∧ b < B ∧ w.cell? ⟨b, o + i, none⟩ = some (.int .i64 l[i])

theorem Is.keep {L B L' B' : Nat} {w w' : World} (hb : ∀ k, L ≤ k → k < B → w'.heap[k]? = w.heap[k]?) (hL : L' ≤ L) (hB : B ≤ B') {ao : Option Addr} {len : Nat} {l : List Int} (h : Is L B w ao len l) : Is L' B' w' ao len l := by
  refine ⟨h.1, h.2.1, fun i hi => ?_⟩
  obtain ⟨b, o, e, h1, h2, h3⟩ := h.2.2 i hi
  exact ⟨b, o, e, by omega, by omega, (World.cell?_of_block (hb b h1 h2)).trans h3⟩
theorem Is.below {L B : Nat} {w w' : World} (hb : Below w.heap.size w w') (hB : B ≤ w.heap.size) {ao : Option Addr} {len : Nat} {l : List Int} (h : Is L B w ao len l) : Is L B w' ao len l :=
  h.keep (fun k _ hk => hb.block k (by omega)) (Nat.le_refl _) (Nat.le_refl _)
theorem Is.drew {L B : Nat} {w : World} {ao : Option Addr} {len : Nat} {l : List Int} (h : Is L B w ao len l) : Is L B w.drew ao len l := h.keep (w := w) (w' := w.drew) (fun _ _ _ => rfl) (Nat.le_refl _) (Nat.le_refl _)

theorem Tryd.infoInt : (Tryd.prog.info? 3).map (fun i => (i.zero, i.size, i.bytes)) = some (some (.int .i64 0), 1, 8) := by kernel_rfl

/-- A number as a value. -/
def ik (n : Int) : Value := .int .i64 n

/-- A row of numbers that can be appended to. -/
def Nums (base : Nat) (wr : World) (v : Value) (P : List Int) : Prop := wr.ownsRow base 3 1 v P.length (P.map ik)

theorem nums_push {base : Nat} {wr : World} {v : Value} {P : List Int} (h : Nums base wr v P) (hb : base ≤ wr.heap.size) (hl : P.length ≤ 1048577) (l : Int) :
    ∃ g cap w2, (Builtin.append_ #[47, 47] 47 #[v, .slice (some ⟨wr.heap.size, 0, none⟩) 1 1]).run Tryd.prog (wr.alloc (.cells #[ik l] 3)) = .ok (.slice (some ⟨g, 0, none⟩) (P.length + 1) cap) w2 ∧
      Nums base w2 (.slice (some ⟨g, 0, none⟩) (P.length + 1) cap) (P ++ [l]) ∧ Below base wr w2 := by
  obtain ⟨i0, hi, hz0, hz1, hz2⟩ := info_parts Tryd.infoInt
  have hA : Below wr.heap.size wr (wr.alloc (.cells #[ik l] 3)) := (Below.refl _ _).alloc (Nat.le_refl _) _
  have h1 : Nums base (wr.alloc (.cells #[ik l] 3)) v P := by
    refine ⟨h.1, ?_⟩
    rcases h.2 with hn | ⟨g, cap, cur, rfl, hg, hh, r⟩
    · exact Or.inl hn
    · exact Or.inr ⟨g, cap, cur, rfl, hg, (hA.block g (Array.getElem?_eq_some_iff.1 hh).1).trans hh, r⟩
  obtain ⟨g, cap, w2, hrun, hown2, hgrow, hat, hlt⟩ := run_append_lies (P := Tryd.prog) (wr.alloc (.cells #[ik l] 3)) 47 47 base 3 i0 _ 1 8 Tryd.underlying47 hi hz0 hz1 hz2 rfl (by omega) v P.length _ h1
    ⟨wr.heap.size, 0, none⟩ 1 1 [ik l] rfl (World.news_of_block (cs := #[ik l]) (t := 3) (fr := (0, 0)) (heap_alloc_new wr _)) (by simp [ik, Value.oneCell'])
    (by omega) (by unfold maxLen; omega) (by omega) (by simp; omega) _ rfl
  have hvb : ∀ g, v.ownBlock = some g → base ≤ g := by
    intro g hg
    rcases h.2 with ⟨rfl, _⟩ | ⟨g', cap, cur, rfl, hb', _⟩
    · cases hg
    · have e : g' = g := by simpa [Value.ownBlock] using hg
      subst e; exact hb'
  have hsz := hgrow.size
  simp only [World.size_alloc] at hsz
  refine ⟨g, cap, w2, hrun, ?_, ⟨hgrow.os, hgrow.tape, hgrow.output, by omega, fun q hq => ?_⟩⟩
  · unfold Nums
    simpa using hown2
  · exact (hgrow.block q (by simp; omega) (fun e => by have := hvb q e.symm; omega)).trans (hA.block q (by omega))

theorem nums_own {base : Nat} {w : World} {v : Value} {P : List Int} (h : Nums base w v P) {g : Nat} (hg : v.ownBlock = some g) : base ≤ g ∧ g < w.heap.size := by
  rcases h.2 with ⟨rfl, _⟩ | ⟨g', cap, cur, rfl, hb', hh, _⟩
  · cases hg
  · have e : g' = g := by simpa [Value.ownBlock] using hg
    subst e
    exact ⟨hb', (Array.getElem?_eq_some_iff.1 hh).1⟩

theorem nums_keep {base : Nat} {w w' : World} {v : Value} {P : List Int} (h : Nums base w v P) (hk : ∀ g, v.ownBlock = some g → w'.heap[g]? = w.heap[g]?) : Nums base w' v P := by
  refine ⟨h.1, ?_⟩
  rcases h.2 with hn | ⟨g, cap, cur, rfl, hg, hh, r⟩
  · exact Or.inl hn
  · exact Or.inr ⟨g, cap, cur, rfl, hg, (hk g rfl).trans hh, r⟩

theorem nums_form {base : Nat} {w : World} {v : Value} {P : List Int} (h : Nums base w v P) : ∃ ao cap, v = .slice ao P.length cap := by
  rcases h.2 with ⟨rfl, hn⟩ | ⟨g, cap, cur, rfl, _⟩
  · exact ⟨none, 0, by rw [hn]⟩
  · exact ⟨_, cap, rfl⟩

theorem nums_grow {base : Nat} {wr : World} {v : Value} {P : List Int} (h : Nums base wr v P) (hb : base ≤ wr.heap.size) (N : List Int) (hN : 0 < N.length) (hl : P.length + N.length ≤ 1048700) (sb so c : Nat)
    (hs : ∀ j u, (N.map ik)[j]? = some u → wr.cell? ⟨sb, so + j, none⟩ = some u) :
    ∃ g cap w2, (Builtin.append_ #[47, 47] 47 #[v, .slice (some ⟨sb, so, none⟩) N.length c]).run Tryd.prog wr = .ok (.slice (some ⟨g, 0, none⟩) (P.length + N.length) cap) w2 ∧
      Nums base w2 (.slice (some ⟨g, 0, none⟩) (P.length + N.length) cap) (P ++ N) ∧ wr.grownBy w2 v.ownBlock ∧ (v.ownBlock = some g ∨ g = wr.heap.size) ∧ g < w2.heap.size := by
  obtain ⟨i0, hi, hz0, hz1, hz2⟩ := info_parts Tryd.infoInt
  obtain ⟨g, cap, w2, hrun, hown2, hgrow, hat, hlt⟩ := run_append_lies (P := Tryd.prog) wr 47 47 base 3 i0 _ 1 8 Tryd.underlying47 hi hz0 hz1 hz2 rfl (by omega) v P.length _ h
    ⟨sb, so, none⟩ N.length c (N.map ik) (by simp) (fun j u hu => by have e := hs j u hu; have ea : (⟨sb, so, none⟩ : Addr).add j = ⟨sb, so + j, none⟩ := (by unfold Addr.add; split <;> simp_all); rw [ea]; exact e) (by intro u hu; obtain ⟨l, _, rfl⟩ := List.mem_map.1 hu; rfl)
    hN (by unfold maxLen; omega) (by omega) hb _ rfl
  refine ⟨g, cap, w2, hrun, ?_, hgrow, hat, hlt⟩
  unfold Nums
  rw [List.length_append, List.map_append]
  exact hown2

/-- Numbers of another row behind those that are there, none among them. -/
theorem nums_app {base : Nat} {wr : World} {v : Value} {P : List Int} (h : Nums base wr v P) (hb : base ≤ wr.heap.size) {L B : Nat} {ao : Option Addr} {n : Nat} (c : Nat) {N : List Int} (hs : Is L B wr ao n N) (hl : P.length + n ≤ 1048700) :
    ∃ ao2 cap w2, (Builtin.append_ #[47, 47] 47 #[v, .slice ao n c]).run Tryd.prog wr = .ok (.slice ao2 (P.length + n) cap) w2 ∧
      Nums base w2 (.slice ao2 (P.length + n) cap) (P ++ N) ∧ wr.grownBy w2 v.ownBlock := by
  by_cases hn : n = 0
  · subst hn
    have hN : N = [] := List.length_eq_zero_iff.1 hs.1.symm
    subst hN
    obtain ⟨i0, hi, hz0, hz1, hz2⟩ := info_parts Tryd.infoInt
    have hv : ∃ a2 cap, v = .slice a2 P.length cap ∧ P.length ≤ cap := by
      rcases h.2 with ⟨rfl, hn⟩ | ⟨g, cap, cur, rfl, hg, hh, h1, h2, h3, h4⟩
      · exact ⟨none, 0, by rw [hn], by omega⟩
      · exact ⟨_, cap, rfl, h1⟩
    obtain ⟨a2, cap, rfl, hcap⟩ := hv
    refine ⟨a2, cap, wr, ?_, by rw [List.append_nil, Nat.add_zero]; exact h, ⟨rfl, rfl, rfl, Nat.le_refl _, fun _ _ _ => rfl⟩⟩
    rw [Nat.add_zero]
    refine run_append_nothing (P := Tryd.prog) wr 47 47 47 3 i0 Tryd.underlying47 hi a2 P.length cap hcap _ ?_
    cases ao with
    | none => exact Src.ofNil _ Tryd.underlying47 c
    | some a => exact Src.ofSlice _ Tryd.underlying47 a 0 c [] (by simp) (by simp) (by simp)
  · have hn0 : 0 < N.length := by have := hs.1; omega
    obtain ⟨b, o, rfl, _, _, _⟩ := hs.2.2 0 hn0
    obtain ⟨g, cap, w2, r1, r2, r3, _, _⟩ := nums_grow h hb N hn0 (by have := hs.1; omega) b o c (fun j u hu => by
      rw [List.getElem?_map] at hu
      obtain ⟨x, hx, rfl⟩ := Option.map_eq_some_iff.1 hu
      obtain ⟨hj, rfl⟩ := List.getElem?_eq_some_iff.1 hx
      obtain ⟨b', o', e, _, _, hc⟩ := hs.2.2 j hj
      injection e with e
      injection e with e1 e2
      subst e1 e2
      exact hc)
    rw [← hs.1] at r1 r2
    exact ⟨_, cap, w2, r1, r2, r3⟩

theorem nums_cut {base : Nat} {w : World} {ao : Option Addr} {n cap : Nat} {P N : List Int} (h : Nums base w (.slice ao n cap) (P ++ N)) : Nums base w (.slice ao P.length cap) P ∨ (ao = none ∧ P = []) := by
  rcases h.2 with ⟨e, hn⟩ | ⟨g, cap', cur, e, hg, hh, h1, h2, h3, h4⟩
  · right
    cases e
    rw [List.length_append] at hn
    exact ⟨rfl, List.length_eq_zero_iff.1 (by omega)⟩
  · left
    injection e with e1 e2 e3
    subst e1
    subst e3
    refine ⟨by simp, Or.inr ⟨g, _, cur, rfl, hg, hh, ?_, h2, h3, ?_⟩⟩
    · rw [List.length_append] at h1; omega
    · have := congrArg (List.take (P.length * 1)) h4
      rw [List.take_take, List.map_append] at this
      rw [List.length_append] at this
      rw [Nat.min_eq_left (by omega)] at this
      rw [this, List.take_append_of_le_length (by simp), List.take_of_length_le (by simp)]

theorem nums_le {base base' : Nat} {w : World} {v : Value} {P : List Int} (h : Nums base w v P) (hb : base' ≤ base) : Nums base' w v P :=
  ⟨h.1, h.2.elim Or.inl (fun ⟨g, cap, cur, hv, hg, r⟩ => Or.inr ⟨g, cap, cur, hv, Nat.le_trans hb hg, r⟩)⟩

theorem nums_at {base : Nat} {w : World} {v : Value} {P : List Int} (h : Nums base w v P) (j : Nat) (hj : j < P.length) : ∃ g cap, v = .slice (some ⟨g, 0, none⟩) P.length cap ∧ base ≤ g ∧ g < w.heap.size ∧ w.cell? ⟨g, 0 + j, none⟩ = some (ik P[j]) := by
  rcases h.2 with ⟨rfl, hn⟩ | ⟨g, cap, cur, rfl, hg, hh, h1, h2, h3, h4⟩
  · omega
  · refine ⟨g, cap, rfl, hg, (Array.getElem?_eq_some_iff.1 hh).1, ?_⟩
    have e : (List.map ik P)[j]? = some (ik P[j]) := by simp [hj]
    rw [← h4, List.getElem?_take, if_pos (by omega)] at e
    rw [Nat.zero_add, row_cell hh, ← Array.getElem?_toList, e]

theorem nums_bel {base : Nat} {w w' : World} {v : Value} {P : List Int} (h : Nums base w v P) (hb : Below w.heap.size w w') : Nums base w' v P := nums_keep h fun g hg => hb.block g (nums_own h hg).2

end Go.Proofs.YtapamdjoipofmaaDoor

/-
  Laws for single operations of a plain region: 'append' by the equation of its run; a whole struct read out of a row, and laid into a block that was made last. No walk.
-/
namespace Go.Proofs.YtapamdjoipofmaaDoor
open Go.RowKit
set_option linter.unusedVariables false
set_option linter.unusedSimpArgs false

/-- 'append' in a plain region, by the equation of its run. -/
theorem list_run {P : Program} {ops : Array Oper} {rest : List Oper} {o : Oper} {a : Act} {W w2 : World} {Q : Exit → Act → World → Prop} {t ty : TypeId} {v u r : Value} (hrun : (Builtin.append_ #[t, t] ty #[v, u]).run P W = .ok r w2) (hgd : o.guard = none) (s x : Operand)
    (ho : o.op = .call { callee := .builtin .append, args := #[s, x], argTypes := #[t, t] }) (hty : o.type = ty) (hs : a.eval s = v) (hx : a.eval x = u) (h : wpList P ops Q rest (a.put o.dst r) w2) : wpList P ops Q (o :: rest) a W :=
  wpList_plain hgd fun _ hK => by
    unfold Oper.wp execOp
    simp only [ho, hty, resolve, invoke, builtin, Sem.run_bind, Sem.run_pure, Result.andThen_ok, List.map_toArray, List.map_cons, List.map_nil, hs, hx, hrun]
    exact hK _ _ h

/-- A whole struct out of a row, in a plain region. -/
theorem list_load {P : Program} {ops : Array Oper} {rest : List Oper} {o : Oper} {a : Act} {w : World} {Q : Exit → Act → World → Prop} (hgd : o.guard = none) (t : TypeId) (x : Operand) (ho : o.op = .load t x) (b p : Nat)
    (hx : a.eval x = .pointer (some ⟨b, p, none⟩)) (vs : Array Value) (hc : w.rangeAt b p vs.toList) (d : TypeDesc) (hu : P.underlying t = some d) (hd : d.isRow = true) (hi : (P.info? t).map (·.size) = some vs.size)
    (h : wpList P ops Q rest (a.put o.dst (.agg vs)) w) : wpList P ops Q (o :: rest) a w := by
  refine wpList_plain hgd fun _ hK => ?_
  have hr := run_loadAt_mid (P := P) w b p t vs.toList d hc hu hd (by rw [hi]; simp)
  unfold Oper.wp execOp
  simp only [ho, hx, Sem.run_bind, Sem.run_pure, Result.andThen_ok, hr, Array.toArray_toList]
  exact hK _ _ h

/-- A whole row into the block that was made last, in a plain region. -/
theorem list_store_new {P : Program} {ops : Array Oper} {rest : List Oper} {o : Oper} {a : Act} {W : World} {Q : Exit → Act → World → Prop} (hgd : o.guard = none) (t : TypeId) (x y : Operand) (ho : o.op = .store t x y) (w : World) (c' : Array Value)
    (hW : ∃ c, W = w.alloc (.cells c t) ∧ c.size = c'.size) (hx : a.eval x = .pointer (some ⟨w.heap.size, 0, none⟩)) (hy : a.eval y = .agg c') (hi : (P.info? t).map (·.size) = some c'.size) (h1 : c'.all (·.oneCell') = true)
    (h : wpList P ops Q rest (a.put o.dst undef) (w.alloc (.cells c' t))) : wpList P ops Q (o :: rest) a W := by
  obtain ⟨c, rfl, hc⟩ := hW
  refine wpList_plain hgd fun _ hK => ?_
  unfold Oper.wp execOp
  simp only [ho, hx, hy, Sem.run_bind, Sem.run_pure, Result.andThen_ok, run_storeAt_new w t c c' hi hc h1]
  exact hK _ _ h

/-- 'append' at a step of a region that draws, by the equation of its run. -/
theorem step_run {P : Program} {ops : Array Oper} {o : Oper} {a : Act} {W w2 : World} {K : Act → World → Prop} {Q : Exit → Act → World → Prop} {E : Prop} {t ty : TypeId} {v u r : Value} (hrun : (Builtin.append_ #[t, t] ty #[v, u]).run P W = .ok r w2) (hgd : o.guard = none) (s x : Operand)
    (ho : o.op = .call { callee := .builtin .append, args := #[s, x], argTypes := #[t, t] }) (hty : o.type = ty) (hs : a.eval s = v) (hx : a.eval x = u) (h : K (a.put o.dst r) w2) :
    if Region.wanted o (yielded ops a.tmps) = true then Oper.wp P o a W K Q else E := by
  have hw : Region.wanted o (yielded ops a.tmps) = true := by simp [Region.wanted, hgd]
  rw [if_pos hw]
  unfold Oper.wp execOp
  simp only [ho, hty, resolve, invoke, builtin, Sem.run_bind, Sem.run_pure, Result.andThen_ok, List.map_toArray, List.map_cons, List.map_nil, hs, hx, hrun]
  exact h

/-- 'append' in a region that draws, where what it comes to is known of the world that it meets. -/
theorem step_ex {P : Program} {ops : Array Oper} {o : Oper} {a : Act} {W : World} {K : Act → World → Prop} {Q : Exit → Act → World → Prop} {E : Prop} {t ty : TypeId} {v u : Value} {R : Value → World → Prop} (hgd : o.guard = none) (s x : Operand)
    (ho : o.op = .call { callee := .builtin .append, args := #[s, x], argTypes := #[t, t] }) (hty : o.type = ty) (hs : a.eval s = v) (hx : a.eval x = u) (hex : ∃ r w2, (Builtin.append_ #[t, t] ty #[v, u]).run P W = .ok r w2 ∧ R r w2) (h : ∀ r w2, R r w2 → K (a.put o.dst r) w2) :
    if Region.wanted o (yielded ops a.tmps) = true then Oper.wp P o a W K Q else E := by
  obtain ⟨r, w2, hrun, hR⟩ := hex
  exact step_run hrun hgd s x ho hty hs hx (h r w2 hR)

end Go.Proofs.YtapamdjoipofmaaDoor
