/-
  Laws for single operations of a plain region: 'append' by the equation of its run; a whole struct read out of a row, and laid into a block that was made last. No walk.
-/
import Derived.Test.YtkplfdckfbihcaaFrtTr
import Derived.Deep.WholeRow
import Derived.Deep.MidRow
import Derived.Test.YtkplfdckfbihcaaFrtZ3
import Derived.Test.YtkplfdckfbihcaaFrtSh2
import Derived.Test.YtkplfdckfbihcaaFrtNm
namespace Go.Proofs.Ytkplfdckfbihcaa
open Go.RowKit
set_option linter.unusedVariables false
set_option linter.unusedSimpArgs false

/-- 'append' in a plain region, by the equation of its run. -/
theorem list_run {P : Program} {ops : Array Oper} {rest : List Oper} {o : Oper} {a : Act} {W w2 : World} {Q : Exit → Act → World → Prop} {t ty : TypeId} {v u r : Value} (hrun : (Builtin.append_ #[t, t] ty #[v, u]).run P W = .ok r w2) (hgd : o.guard = none) (s x : Operand)
    (ho : o.op = .call { callee := .builtin .append, args := #[s, x], argTypes := #[t, t] }) (hty : o.type = ty) (hs : a.eval s = v) (hx : a.eval x = u) (h : wpList P ops Q rest (a.put o.dst r) w2) : wpList P ops Q (o :: rest) a W :=
  wpList_plain hgd fun _ hK => by
    unfold Oper.wp execOp
    simp only [ho, hty, resolve, invoke, builtin, Sem.run_bind, Sem.run_pure, Result.andThen_ok, List.map_toArray, List.map_cons, List.map_nil, hs, hx, hrun]
    exact hK _ _ h

/-- A whole struct out of a row, in a plain region. -/
theorem list_load {P : Program} {ops : Array Oper} {rest : List Oper} {o : Oper} {a : Act} {w : World} {Q : Exit → Act → World → Prop} (hgd : o.guard = none) (t : TypeId) (x : Operand) (ho : o.op = .load t x) (b p : Nat)
    (hx : a.eval x = .pointer (some ⟨b, p, none⟩)) (vs : Array Value) (hc : w.rangeAt b p vs.toList) (d : TypeDesc) (hu : P.underlying t = some d) (hd : d.isRow = true) (hi : (P.info? t).map (·.size) = some vs.size)
    (h : wpList P ops Q rest (a.put o.dst (.agg vs)) w) : wpList P ops Q (o :: rest) a w := by
  refine wpList_plain hgd fun _ hK => ?_
  have hr := run_loadAt_mid (P := P) w b p t vs.toList d hc hu hd (by rw [hi]; simp)
  unfold Oper.wp execOp
  simp only [ho, hx, Sem.run_bind, Sem.run_pure, Result.andThen_ok, hr, Array.toArray_toList]
  exact hK _ _ h

/-- A whole row into the block that was made last, in a plain region. -/
theorem list_store_new {P : Program} {ops : Array Oper} {rest : List Oper} {o : Oper} {a : Act} {W : World} {Q : Exit → Act → World → Prop} (hgd : o.guard = none) (t : TypeId) (x y : Operand) (ho : o.op = .store t x y) (w : World) (c' : Array Value)
    (hW : ∃ c, W = w.alloc (.cells c t) ∧ c.size = c'.size) (hx : a.eval x = .pointer (some ⟨w.heap.size, 0, none⟩)) (hy : a.eval y = .agg c') (hi : (P.info? t).map (·.size) = some c'.size) (h1 : c'.all (·.oneCell') = true)
    (h : wpList P ops Q rest (a.put o.dst undef) (w.alloc (.cells c' t))) : wpList P ops Q (o :: rest) a W := by
  obtain ⟨c, rfl, hc⟩ := hW
  refine wpList_plain hgd fun _ hK => ?_
  unfold Oper.wp execOp
  simp only [ho, hx, hy, Sem.run_bind, Sem.run_pure, Result.andThen_ok, run_storeAt_new w t c c' hi hc h1]
  exact hK _ _ h

/-- 'append' at a step of a region that draws, by the equation of its run. -/
theorem step_run {P : Program} {ops : Array Oper} {o : Oper} {a : Act} {W w2 : World} {K : Act → World → Prop} {Q : Exit → Act → World → Prop} {E : Prop} {t ty : TypeId} {v u r : Value} (hrun : (Builtin.append_ #[t, t] ty #[v, u]).run P W = .ok r w2) (hgd : o.guard = none) (s x : Operand)
    (ho : o.op = .call { callee := .builtin .append, args := #[s, x], argTypes := #[t, t] }) (hty : o.type = ty) (hs : a.eval s = v) (hx : a.eval x = u) (h : K (a.put o.dst r) w2) :
    if Region.wanted o (yielded ops a.tmps) = true then Oper.wp P o a W K Q else E := by
  have hw : Region.wanted o (yielded ops a.tmps) = true := by simp [Region.wanted, hgd]
  rw [if_pos hw]
  unfold Oper.wp execOp
  simp only [ho, hty, resolve, invoke, builtin, Sem.run_bind, Sem.run_pure, Result.andThen_ok, List.map_toArray, List.map_cons, List.map_nil, hs, hx, hrun]
  exact h

/-- 'append' in a region that draws, where what it comes to is known of the world that it meets. -/
theorem step_ex {P : Program} {ops : Array Oper} {o : Oper} {a : Act} {W : World} {K : Act → World → Prop} {Q : Exit → Act → World → Prop} {E : Prop} {t ty : TypeId} {v u : Value} {R : Value → World → Prop} (hgd : o.guard = none) (s x : Operand)
    (ho : o.op = .call { callee := .builtin .append, args := #[s, x], argTypes := #[t, t] }) (hty : o.type = ty) (hs : a.eval s = v) (hx : a.eval x = u) (hex : ∃ r w2, (Builtin.append_ #[t, t] ty #[v, u]).run P W = .ok r w2 ∧ R r w2) (h : ∀ r w2, R r w2 → K (a.put o.dst r) w2) :
    if Region.wanted o (yielded ops a.tmps) = true then Oper.wp P o a W K Q else E := by
  obtain ⟨r, w2, hrun, hR⟩ := hex
  exact step_run hrun hgd s x ho hty hs hx (h r w2 hR)

end Go.Proofs.Ytkplfdckfbihcaa

/-
  What the model's 'l1Size', 'l12Head' and 'l12Some' come to: some number, some head, some word; the cursor is moved on.
-/
namespace Go.Proofs.Ytkplfdckfbihcaa
open Go.RowKit
set_option linter.unusedVariables false
set_option linter.unusedSimpArgs false

theorem drw_refl {w : World} {p : Nat} {cao : Option Addr} {clen ccap : Nat} (hc : Cur w p cao clen ccap) : Drw w w p cao clen ccap := ⟨grown_refl' _ _, hc⟩
theorem drw_below {w w' : World} {p : Nat} {cao : Option Addr} {clen ccap : Nat} (hc : Cur w p cao clen ccap) (hb : Below w.heap.size w w') : Drw w w' p cao clen ccap := ⟨grown_below _ hb, hc.below hb⟩
/-- What lies in blocks that came later is written. -/
theorem drw_set {w w1 : World} {p : Nat} {cao : Option Addr} {clen ccap : Nat} (hD : Drw w w1 p cao clen ccap) (q o : Nat) (v : Value) (hq : w.heap.size ≤ q) (hp : p < w.heap.size) : Drw w (w1.setCell ⟨q, o, none⟩ v) p cao clen ccap :=
  ⟨⟨hD.grown.os, hD.grown.tape, hD.grown.output, by have := hD.grown.size; simpa using this, fun k hk hne => (row_other _ _ _ (by show k ≠ q; omega)).trans (hD.grown.block k hk hne)⟩, hD.cur.keep fun k hk => row_other _ _ _ (by show k ≠ q; omega)⟩
/-- A call that draws leaves a block of another. -/
theorem Drw.blk {w w1 : World} {p : Nat} {cao : Option Addr} {clen ccap : Nat} (hD : Drw w w1 p cao clen ccap) {k : Nat} (hk : k < w.heap.size) (hne : k ≠ p) : w1.heap[k]? = w.heap[k]? := hD.grown.block k hk (by simp; omega)

set_option maxHeartbeats 400000 in
theorem l1Size_any (cao : Option Addr) (clen ccap : Nat) (most : Int) (w : World) (hl : clen ≤ 1048576) (h1 : 3 ≤ most) (h2 : most ≤ 200) :
    Calls Try.prog 17 #[.slice cao clen ccap, .int .i64 most] w fun e w' => ∃ x : Int, e = .returned (.int .i64 x) ∧ 3 ≤ x ∧ x ≤ most ∧ Below w.heap.size w w' := by
  have hq : (clen : Int).tdiv 12 = (clen / 12 : Nat) := rfl
  have hq2 : clen / 12 ≤ 1048576 := by omega
  generalize clen / 12 = d at hq hq2
  by_cases hc : most < 3 + (d : Int)
  · go_enter Try.func17, Try.ntmps17
    go_wp2_with fail
    go_ret
    exact ⟨_, rfl, h1, Int.le_refl _, Below.refl _ _⟩
  · go_enter Try.func17, Try.ntmps17
    go_wp2_with fail
    go_ret
    exact ⟨_, rfl, by omega, by omega, Below.refl _ _⟩

/-- A head that is drawn has few fields. -/
def few (x : Wrd) : Prop := ∃ c, cntH x = some c ∧ c ≤ 3
theorem few5 : few ⟨5, 0⟩ := ⟨2, rfl, by omega⟩
theorem few6 : few ⟨6, 0⟩ := ⟨2, rfl, by omega⟩
theorem few7 (a b : Int) (h1 : 0 ≤ a) (h2 : a < 5) (h3 : 0 ≤ b) (h4 : b < 4) : few ⟨7, 100 * a + b⟩ := by
  refine ⟨(100 * a + b).toNat % 100, ?_, by omega⟩
  unfold cntH
  rw [if_neg (by simp), if_pos ⟨rfl, by simp; omega, by simp; omega⟩]

set_option maxHeartbeats 400000 in
theorem l12Head_any (p : Nat) (cao : Option Addr) (clen ccap : Nat) (w : World) (hc : Cur w p cao clen ccap) :
    Calls Try.prog 19 #[.pointer (some ⟨p, 0, none⟩)] w fun e w' => ∃ x : Wrd, e = .returned (vW x) ∧ few x ∧ Drw w w' p cao clen ccap := by
  have hp := hc.lt
  have hA : Below w.heap.size w (w.alloc (.cells #[.int .i64 0, .int .i64 0] 28)) := (Below.refl _ _).alloc (Nat.le_refl _) _
  have hr0 : (w.alloc (.cells #[.int .i64 0, .int .i64 0] 28)).heap[w.heap.size]? = some (.cells #[.int .i64 0, .int .i64 0] 28 (0, 0)) := heap_new rfl
  go_enter Try.func19, Try.ntmps19
  go_wp2_with fail
  refine (l1Below_any p cao clen ccap 3 _ (hc.below hA) (by omega) (by omega)).mono ?_
  rintro e w1 ⟨x, rfl, hx0, hx1, hD⟩
  have hr1 := (hD.blk (by simp) (by omega)).trans hr0
  have hD1 := (drw_below hc hA).trans hD
  obtain ⟨c0, c1⟩ := cells2 hr1
  have f1 := row_free hr1
  clear hr0
  by_cases e0 : x = 0
  · subst e0
    go_wp2_with fail
    refine bodyPost_ret (v := vW ⟨5, 0⟩) (by simp [results, Try.results19, go_sem, c0, c1]) rfl ⟨_, rfl, few5, ?_⟩
    exact drw_set (drw_set hD1 _ _ _ (Nat.le_refl _) hp) _ _ _ (Nat.le_refl _) hp
  · by_cases e1 : x = 1
    · subst e1
      go_wp2_with fail
      refine bodyPost_ret (v := vW ⟨6, 0⟩) (by simp [results, Try.results19, go_sem, c0, c1]) rfl ⟨_, rfl, few6, ?_⟩
      exact drw_set (drw_set hD1 _ _ _ (Nat.le_refl _) hp) _ _ _ (Nat.le_refl _) hp
    · go_wp2_with fail
      refine (l1Below_any p cao clen ccap 5 _ hD.cur (by omega) (by omega)).mono ?_
      rintro e w2 ⟨a, rfl, ha0, ha1, hD2⟩
      go_wp2_with fail
      refine (l1Below_any p cao clen ccap 4 _ hD2.cur (by omega) (by omega)).mono ?_
      rintro e w3 ⟨b, rfl, hb0, hb1, hD3⟩
      have hz1 := hD1.grown.size
      have hlt1 : w.heap.size < w1.heap.size := (Array.getElem?_eq_some_iff.1 hr1).1
      have hr3 := (hD3.blk (by have := hD2.grown.size; omega) (by omega)).trans ((hD2.blk hlt1 (by omega)).trans hr1)
      obtain ⟨d0, d1⟩ := cells2 hr3
      have f3 := row_free hr3
      clear c0 c1 f1
      have hD4 := (hD1.trans hD2).trans hD3
      go_wp2_with fail
      refine bodyPost_ret (v := vW ⟨7, 100 * a + b⟩) (by simp [results, Try.results19, go_sem, d0, d1]) rfl ⟨_, rfl, few7 a b ha0 ha1 hb0 hb1, ?_⟩
      exact drw_set (drw_set hD4 _ _ _ (Nat.le_refl _) hp) _ _ _ (Nat.le_refl _) hp

end Go.Proofs.Ytkplfdckfbihcaa
