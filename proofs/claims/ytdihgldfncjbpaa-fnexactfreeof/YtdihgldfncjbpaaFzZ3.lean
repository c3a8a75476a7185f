/-
  Laws for single operations of a plain region: 'append' by the equation of its run; a whole struct read out of a row, and laid into a block that was made last. No walk.
-/
import Derived.Test.YtdihgldfncjbpaaFzTr
import Derived.Deep.WholeRow
import Derived.Deep.MidRow
import Derived.Test.YtdihgldfncjbpaaFzOw
namespace Go.Proofs.Ytdihgldfncjbpaa
open Go.RowKit
set_option linter.unusedVariables false
set_option linter.unusedSimpArgs false

/-- 'append' in a plain region, by the equation of its run. -/
theorem list_run {P : Program} {ops : Array Oper} {rest : List Oper} {o : Oper} {a : Act} {W w2 : World} {Q : Exit → Act → World → Prop} {t ty : TypeId} {v u r : Value} (hrun : (Builtin.append_ #[t, t] ty #[v, u]).run P W = .ok r w2) (hgd : o.guard = none) (s x : Operand)
    (ho : o.op = .call { callee := .builtin .append, args := #[s, x], argTypes := #[t, t] }) (hty : o.type = ty) (hs : a.eval s = v) (hx : a.eval x = u) (h : wpList P ops Q rest (a.put o.dst r) w2) : wpList P ops Q (o :: rest) a W :=
  wpList_plain hgd fun _ hK => by
    unfold Oper.wp execOp
    simp only [ho, hty, resolve, invoke, builtin, Sem.run_bind, Sem.run_pure, Result.andThen_ok, List.map_toArray, List.map_cons, List.map_nil, hs, hx, hrun]
    exact hK _ _ h

/-- A whole struct out of a row, in a plain region. -/
theorem list_load {P : Program} {ops : Array Oper} {rest : List Oper} {o : Oper} {a : Act} {w : World} {Q : Exit → Act → World → Prop} (hgd : o.guard = none) (t : TypeId) (x : Operand) (ho : o.op = .load t x) (b p : Nat)
    (hx : a.eval x = .pointer (some ⟨b, p, none⟩)) (vs : Array Value) (hc : w.rangeAt b p vs.toList) (d : TypeDesc) (hu : P.underlying t = some d) (hd : d.isRow = true) (hi : (P.info? t).map (·.size) = some vs.size)
    (h : wpList P ops Q rest (a.put o.dst (.agg vs)) w) : wpList P ops Q (o :: rest) a w := by
  refine wpList_plain hgd fun _ hK => ?_
  have hr := run_loadAt_mid (P := P) w b p t vs.toList d hc hu hd (by rw [hi]; simp)
  unfold Oper.wp execOp
  simp only [ho, hx, Sem.run_bind, Sem.run_pure, Result.andThen_ok, hr, Array.toArray_toList]
  exact hK _ _ h

/-- A whole row into the block that was made last, in a plain region. -/
theorem list_store_new {P : Program} {ops : Array Oper} {rest : List Oper} {o : Oper} {a : Act} {W : World} {Q : Exit → Act → World → Prop} (hgd : o.guard = none) (t : TypeId) (x y : Operand) (ho : o.op = .store t x y) (w : World) (c' : Array Value)
    (hW : ∃ c, W = w.alloc (.cells c t) ∧ c.size = c'.size) (hx : a.eval x = .pointer (some ⟨w.heap.size, 0, none⟩)) (hy : a.eval y = .agg c') (hi : (P.info? t).map (·.size) = some c'.size) (h1 : c'.all (·.oneCell') = true)
    (h : wpList P ops Q rest (a.put o.dst undef) (w.alloc (.cells c' t))) : wpList P ops Q (o :: rest) a W := by
  obtain ⟨c, rfl, hc⟩ := hW
  refine wpList_plain hgd fun _ hK => ?_
  unfold Oper.wp execOp
  simp only [ho, hx, hy, Sem.run_bind, Sem.run_pure, Result.andThen_ok, run_storeAt_new w t c c' hi hc h1]
  exact hK _ _ h

/-- 'append' at a step of a region that draws, by the equation of its run. -/
theorem step_run {P : Program} {ops : Array Oper} {o : Oper} {a : Act} {W w2 : World} {K : Act → World → Prop} {Q : Exit → Act → World → Prop} {E : Prop} {t ty : TypeId} {v u r : Value} (hrun : (Builtin.append_ #[t, t] ty #[v, u]).run P W = .ok r w2) (hgd : o.guard = none) (s x : Operand)
    (ho : o.op = .call { callee := .builtin .append, args := #[s, x], argTypes := #[t, t] }) (hty : o.type = ty) (hs : a.eval s = v) (hx : a.eval x = u) (h : K (a.put o.dst r) w2) :
    if Region.wanted o (yielded ops a.tmps) = true then Oper.wp P o a W K Q else E := by
  have hw : Region.wanted o (yielded ops a.tmps) = true := by simp [Region.wanted, hgd]
  rw [if_pos hw]
  unfold Oper.wp execOp
  simp only [ho, hty, resolve, invoke, builtin, Sem.run_bind, Sem.run_pure, Result.andThen_ok, List.map_toArray, List.map_cons, List.map_nil, hs, hx, hrun]
  exact h

end Go.Proofs.Ytdihgldfncjbpaa

/-
  What the model's 'l1Split' comes to: the tokens of a text.
-/
namespace Go.Proofs.Ytdihgldfncjbpaa
open Go.RowKit
set_option linter.unusedVariables false
set_option linter.unusedSimpArgs false

/-- The tokens of what is left, 'cur' being what the first one has already. -/
def splAcc : List UInt8 → List UInt8 → List (List UInt8)
  | cur, [] => [cur]
  | cur, b :: rest => if b = 32 then cur :: splAcc [] rest else splAcc (cur ++ [b]) rest
def spl (s : List UInt8) : List (List UInt8) := splAcc [] s

theorem splAcc_space {cur rest : List UInt8} : splAcc cur (32 :: rest) = cur :: splAcc [] rest := by simp [splAcc]
theorem splAcc_more {cur rest : List UInt8} {b : UInt8} (h : b ≠ 32) : splAcc cur (b :: rest) = splAcc (cur ++ [b]) rest := by simp [splAcc, h]

theorem Try.infoStr : (Try.prog.info? 9).map (fun i => (i.zero, i.size, i.bytes)) = some (some (.string ⟨#[]⟩), 1, 16) := by kernel_rfl

/-- The bytes from f on and below i. -/
def sub (s : ByteArray) (f i : Nat) : List UInt8 := (s.data.toList.take i).drop f
/-- A token as a value. -/
def tk (l : List UInt8) : Value := .string ⟨l.toArray⟩

theorem extract_sub (s : ByteArray) (f i : Nat) : s.extract f i = ⟨(sub s f i).toArray⟩ := by
  apply ByteArray.ext
  rw [ByteArray.data_extract]
  apply Array.toList_inj.1
  rw [Array.toList_extract]
  simp [sub, List.extract_eq_take_drop, List.drop_take]

theorem sub_nil (s : ByteArray) (f : Nat) : sub s f f = [] := by
  unfold sub
  exact List.drop_eq_nil_of_le (by simp; omega)
theorem sub_more (s : ByteArray) (f i : Nat) (hf : f ≤ i) (hi : i < s.data.toList.length) : sub s f (i + 1) = sub s f i ++ [s.data.toList[i]] := by
  unfold sub
  rw [List.take_succ_eq_append_getElem hi, List.drop_append_of_le_length (by rw [List.length_take]; omega)]

/-- A row of tokens that can be appended to. -/
def Toks (base : Nat) (wr : World) (v : Value) (P : List (List UInt8)) : Prop := wr.ownsRow base 9 1 v P.length (P.map tk)

theorem toks_push {base : Nat} {wr : World} {v : Value} {P : List (List UInt8)} (h : Toks base wr v P) (hb : base ≤ wr.heap.size) (hl : P.length ≤ 1048577) (l : List UInt8) :
    ∃ g cap w2, (Builtin.append_ #[55, 55] 55 #[v, .slice (some ⟨wr.heap.size, 0, none⟩) 1 1]).run Try.prog (wr.alloc (.cells #[tk l] 9)) = .ok (.slice (some ⟨g, 0, none⟩) (P.length + 1) cap) w2 ∧
      Toks base w2 (.slice (some ⟨g, 0, none⟩) (P.length + 1) cap) (P ++ [l]) ∧ Below base wr w2 := by
  obtain ⟨i0, hi, hz0, hz1, hz2⟩ := info_parts Try.infoStr
  have hA : Below wr.heap.size wr (wr.alloc (.cells #[tk l] 9)) := (Below.refl _ _).alloc (Nat.le_refl _) _
  have h1 : Toks base (wr.alloc (.cells #[tk l] 9)) v P := by
    refine ⟨h.1, ?_⟩
    rcases h.2 with hn | ⟨g, cap, cur, rfl, hg, hh, r⟩
    · exact Or.inl hn
    · exact Or.inr ⟨g, cap, cur, rfl, hg, (hA.block g (Array.getElem?_eq_some_iff.1 hh).1).trans hh, r⟩
  obtain ⟨g, cap, w2, hrun, hown2, hgrow, hat, hlt⟩ := run_append_lies (P := Try.prog) (wr.alloc (.cells #[tk l] 9)) 55 55 base 9 i0 _ 1 16 Try.underlying55 hi hz0 hz1 hz2 rfl (by omega) v P.length _ h1
    ⟨wr.heap.size, 0, none⟩ 1 1 [tk l] rfl (World.news_of_block (cs := #[tk l]) (t := 9) (fr := (0, 0)) (heap_alloc_new wr _)) (by simp [tk, Value.oneCell'])
    (by omega) (by unfold maxLen; omega) (by omega) (by simp; omega) _ rfl
  have hvb : ∀ g, v.ownBlock = some g → base ≤ g := by
    intro g hg
    rcases h.2 with ⟨rfl, _⟩ | ⟨g', cap, cur, rfl, hb', _⟩
    · cases hg
    · have e : g' = g := by simpa [Value.ownBlock] using hg
      subst e; exact hb'
  have hsz := hgrow.size
  simp only [World.size_alloc] at hsz
  refine ⟨g, cap, w2, hrun, ?_, ⟨hgrow.os, hgrow.tape, hgrow.output, by omega, fun q hq => ?_⟩⟩
  · unfold Toks
    simpa using hown2
  · exact (hgrow.block q (by simp; omega) (fun e => by have := hvb q e.symm; omega)).trans (hA.block q (by omega))

end Go.Proofs.Ytdihgldfncjbpaa
