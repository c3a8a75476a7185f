/-
  Laws for single operations of a plain region: 'append' by the equation of its run; a whole struct read out of a row, and laid into a block that was made last. No walk.
-/
import Derived.Test.YthmmapahobkhnaaPmZ1
import Derived.Deep.WholeRow
import Derived.Deep.MidRow
import Derived.Lib.OthersKept
import Derived.Laws.RangeAny
import Derived.WalkSmall
namespace Go.Proofs.Ythmmapahobkhnaa
open Go.RowKit
set_option linter.unusedVariables false
set_option linter.unusedSimpArgs false

/-- 'append' in a plain region, by the equation of its run. -/
theorem list_run {P : Program} {ops : Array Oper} {rest : List Oper} {o : Oper} {a : Act} {W w2 : World} {Q : Exit → Act → World → Prop} {t ty : TypeId} {v u r : Value} (hrun : (Builtin.append_ #[t, t] ty #[v, u]).run P W = .ok r w2) (hgd : o.guard = none) (s x : Operand)
    (ho : o.op = .call { callee := .builtin .append, args := #[s, x], argTypes := #[t, t] }) (hty : o.type = ty) (hs : a.eval s = v) (hx : a.eval x = u) (h : wpList P ops Q rest (a.put o.dst r) w2) : wpList P ops Q (o :: rest) a W :=
  wpList_plain hgd fun _ hK => by
    unfold Oper.wp execOp
    simp only [ho, hty, resolve, invoke, builtin, Sem.run_bind, Sem.run_pure, Result.andThen_ok, List.map_toArray, List.map_cons, List.map_nil, hs, hx, hrun]
    exact hK _ _ h

/-- A whole struct out of a row, in a plain region. -/
theorem list_load {P : Program} {ops : Array Oper} {rest : List Oper} {o : Oper} {a : Act} {w : World} {Q : Exit → Act → World → Prop} (hgd : o.guard = none) (t : TypeId) (x : Operand) (ho : o.op = .load t x) (b p : Nat)
    (hx : a.eval x = .pointer (some ⟨b, p, none⟩)) (vs : Array Value) (hc : w.rangeAt b p vs.toList) (d : TypeDesc) (hu : P.underlying t = some d) (hd : d.isRow = true) (hi : (P.info? t).map (·.size) = some vs.size)
    (h : wpList P ops Q rest (a.put o.dst (.agg vs)) w) : wpList P ops Q (o :: rest) a w := by
  refine wpList_plain hgd fun _ hK => ?_
  have hr := run_loadAt_mid (P := P) w b p t vs.toList d hc hu hd (by rw [hi]; simp)
  unfold Oper.wp execOp
  simp only [ho, hx, Sem.run_bind, Sem.run_pure, Result.andThen_ok, hr, Array.toArray_toList]
  exact hK _ _ h

/-- A whole row into the block that was made last, in a plain region. -/
theorem list_store_new {P : Program} {ops : Array Oper} {rest : List Oper} {o : Oper} {a : Act} {W : World} {Q : Exit → Act → World → Prop} (hgd : o.guard = none) (t : TypeId) (x y : Operand) (ho : o.op = .store t x y) (w : World) (c' : Array Value)
    (hW : ∃ c, W = w.alloc (.cells c t) ∧ c.size = c'.size) (hx : a.eval x = .pointer (some ⟨w.heap.size, 0, none⟩)) (hy : a.eval y = .agg c') (hi : (P.info? t).map (·.size) = some c'.size) (h1 : c'.all (·.oneCell') = true)
    (h : wpList P ops Q rest (a.put o.dst undef) (w.alloc (.cells c' t))) : wpList P ops Q (o :: rest) a W := by
  obtain ⟨c, rfl, hc⟩ := hW
  refine wpList_plain hgd fun _ hK => ?_
  unfold Oper.wp execOp
  simp only [ho, hx, hy, Sem.run_bind, Sem.run_pure, Result.andThen_ok, run_storeAt_new w t c c' hi hc h1]
  exact hK _ _ h

/-- 'append' at a step of a region that draws, by the equation of its run. -/
theorem step_run {P : Program} {ops : Array Oper} {o : Oper} {a : Act} {W w2 : World} {K : Act → World → Prop} {Q : Exit → Act → World → Prop} {E : Prop} {t ty : TypeId} {v u r : Value} (hrun : (Builtin.append_ #[t, t] ty #[v, u]).run P W = .ok r w2) (hgd : o.guard = none) (s x : Operand)
    (ho : o.op = .call { callee := .builtin .append, args := #[s, x], argTypes := #[t, t] }) (hty : o.type = ty) (hs : a.eval s = v) (hx : a.eval x = u) (h : K (a.put o.dst r) w2) :
    if Region.wanted o (yielded ops a.tmps) = true then Oper.wp P o a W K Q else E := by
  have hw : Region.wanted o (yielded ops a.tmps) = true := by simp [Region.wanted, hgd]
  rw [if_pos hw]
  unfold Oper.wp execOp
  simp only [ho, hty, resolve, invoke, builtin, Sem.run_bind, Sem.run_pure, Result.andThen_ok, List.map_toArray, List.map_cons, List.map_nil, hs, hx, hrun]
  exact h

end Go.Proofs.Ythmmapahobkhnaa

/-
  What the model's 'l1Split' comes to: the tokens of a text.
-/
namespace Go.Proofs.Ythmmapahobkhnaa
open Go.RowKit
set_option linter.unusedVariables false
set_option linter.unusedSimpArgs false

/-- The tokens of what is left, 'cur' being what the first one has already. -/
def splAcc : List UInt8 → List UInt8 → List (List UInt8)
  | cur, [] => [cur]
  | cur, b :: rest => if b = 32 then cur :: splAcc [] rest else splAcc (cur ++ [b]) rest
def spl (s : List UInt8) : List (List UInt8) := splAcc [] s

theorem splAcc_space {cur rest : List UInt8} : splAcc cur (32 :: rest) = cur :: splAcc [] rest := by simp [splAcc]
theorem splAcc_more {cur rest : List UInt8} {b : UInt8} (h : b ≠ 32) : splAcc cur (b :: rest) = splAcc (cur ++ [b]) rest := by simp [splAcc, h]

theorem Try.infoStr : (Try.prog.info? 9).map (fun i => (i.zero, i.size, i.bytes)) = some (some (.string ⟨#[]⟩), 1, 16) := by kernel_rfl

/-- The bytes from f on and below i. -/
def sub (s : ByteArray) (f i : Nat) : List UInt8 := (s.data.toList.take i).drop f
/-- A token as a value. -/
def tk (l : List UInt8) : Value := .string ⟨l.toArray⟩

theorem extract_sub (s : ByteArray) (f i : Nat) : s.extract f i = ⟨(sub s f i).toArray⟩ := by
  apply ByteArray.ext
  rw [ByteArray.data_extract]
  apply Array.toList_inj.1
  rw [Array.toList_extract]
  simp [sub, List.extract_eq_take_drop, List.drop_take]

theorem sub_nil (s : ByteArray) (f : Nat) : sub s f f = [] := by
  unfold sub
  exact List.drop_eq_nil_of_le (by simp; omega)
theorem sub_more (s : ByteArray) (f i : Nat) (hf : f ≤ i) (hi : i < s.data.toList.length) : sub s f (i + 1) = sub s f i ++ [s.data.toList[i]] := by
  unfold sub
  rw [List.take_succ_eq_append_getElem hi, List.drop_append_of_le_length (by rw [List.length_take]; omega)]

/-- A row of tokens that can be appended to. -/
def Toks (base : Nat) (wr : World) (v : Value) (P : List (List UInt8)) : Prop := wr.ownsRow base 9 1 v P.length (P.map tk)

theorem toks_push {base : Nat} {wr : World} {v : Value} {P : List (List UInt8)} (h : Toks base wr v P) (hb : base ≤ wr.heap.size) (hl : P.length ≤ 1048577) (l : List UInt8) :
    ∃ g cap w2, (Builtin.append_ #[34, 34] 34 #[v, .slice (some ⟨wr.heap.size, 0, none⟩) 1 1]).run Try.prog (wr.alloc (.cells #[tk l] 9)) = .ok (.slice (some ⟨g, 0, none⟩) (P.length + 1) cap) w2 ∧
      Toks base w2 (.slice (some ⟨g, 0, none⟩) (P.length + 1) cap) (P ++ [l]) ∧ Below base wr w2 := by
  obtain ⟨i0, hi, hz0, hz1, hz2⟩ := info_parts Try.infoStr
  have hA : Below wr.heap.size wr (wr.alloc (.cells #[tk l] 9)) := (Below.refl _ _).alloc (Nat.le_refl _) _
  have h1 : Toks base (wr.alloc (.cells #[tk l] 9)) v P := by
    refine ⟨h.1, ?_⟩
    rcases h.2 with hn | ⟨g, cap, cur, rfl, hg, hh, r⟩
    · exact Or.inl hn
    · exact Or.inr ⟨g, cap, cur, rfl, hg, (hA.block g (Array.getElem?_eq_some_iff.1 hh).1).trans hh, r⟩
  obtain ⟨g, cap, w2, hrun, hown2, hgrow, hat, hlt⟩ := run_append_lies (P := Try.prog) (wr.alloc (.cells #[tk l] 9)) 34 34 base 9 i0 _ 1 16 Try.underlying34 hi hz0 hz1 hz2 rfl (by omega) v P.length _ h1
    ⟨wr.heap.size, 0, none⟩ 1 1 [tk l] rfl (World.news_of_block (cs := #[tk l]) (t := 9) (fr := (0, 0)) (heap_alloc_new wr _)) (by simp [tk, Value.oneCell'])
    (by omega) (by unfold maxLen; omega) (by omega) (by simp; omega) _ rfl
  have hvb : ∀ g, v.ownBlock = some g → base ≤ g := by
    intro g hg
    rcases h.2 with ⟨rfl, _⟩ | ⟨g', cap, cur, rfl, hb', _⟩
    · cases hg
    · have e : g' = g := by simpa [Value.ownBlock] using hg
      subst e; exact hb'
  have hsz := hgrow.size
  simp only [World.size_alloc] at hsz
  refine ⟨g, cap, w2, hrun, ?_, ⟨hgrow.os, hgrow.tape, hgrow.output, by omega, fun q hq => ?_⟩⟩
  · unfold Toks
    simpa using hown2
  · exact (hgrow.block q (by simp; omega) (fun e => by have := hvb q e.symm; omega)).trans (hA.block q (by omega))

end Go.Proofs.Ythmmapahobkhnaa

/-
  What the program's 'splitTokens' comes to: the tokens of a text, if none is empty and they are not too many.
-/
namespace Go.Proofs.Ythmmapahobkhnaa
open Go.RowKit Go.Lib
set_option linter.unusedVariables false
set_option linter.unusedSimpArgs false

/-- None is empty, and there are no more than 'most'. -/
def goodT (most : Nat) (T : List (List UInt8)) : Bool := decide (T.length ≤ most) && T.all fun l => !l.isEmpty

theorem good_empty {most : Nat} {P Q : List (List UInt8)} : goodT most (P ++ [] :: Q) = false := by simp [goodT]
theorem good_many {most : Nat} {P Q : List (List UInt8)} {l : List UInt8} (h : P.length = most) : goodT most (P ++ l :: Q) = false := by
  unfold goodT
  rw [Bool.and_eq_false_iff]
  left
  simp
  omega
theorem good_all {most : Nat} {P : List (List UInt8)} {l : List UInt8} (h : P.length < most) (hP : ∀ x ∈ P, x ≠ []) (hl : l ≠ []) : goodT most (P ++ [l]) = true := by
  unfold goodT
  rw [Bool.and_eq_true, decide_eq_true_eq, List.all_eq_true]
  refine ⟨by simp; omega, fun x hx => ?_⟩
  rw [List.mem_append] at hx
  have hne : x ≠ [] := by
    rcases hx with hx | hx
    · exact hP x hx
    · simp at hx; rw [hx]; exact hl
  cases x with
  | nil => exact (hne rfl).elim
  | cons a x => rfl

/-- What a range over a text hands over at a place: a space is a byte 32, and no other rune has one. -/
theorem dec_facts (s : ByteArray) (i : Nat) (h : i < s.size) : 1 ≤ (Utf8.decode s i).2 ∧ i + (Utf8.decode s i).2 ≤ s.size ∧ ((s.get! i).toNat = 32 → (Utf8.decode s i).1 = 32 ∧ (Utf8.decode s i).2 = 1) ∧ ((s.get! i).toNat ≠ 32 → (Utf8.decode s i).1 ≠ 32 ∧ ∀ k, k < (Utf8.decode s i).2 → (s.get! (i + k)).toNat ≠ 32) := by
  have e0 : s.get! (i + 0) = s.get! i := rfl
  simp only [Utf8.decode, e0]
  by_cases ha : (s.get! i).toNat < 128
  · simp only [ha, if_true]
    refine ⟨by omega, by omega, fun h => ⟨h, by trivial⟩, fun h => ⟨h, fun k hk => ?_⟩⟩
    have : k = 0 := by omega
    subst this
    exact h
  · have hn : (s.get! i).toNat ≠ 32 := by omega
    simp only [ha, if_false]
    have one : ∀ k, k < 1 → (s.get! (i + k)).toNat ≠ 32 := by
      intro k hk
      have h0 : k = 0 := by omega
      subst h0
      exact hn
    repeat' split
    all_goals simp only [Bool.and_eq_true, decide_eq_true_eq, beq_iff_eq] at *
    all_goals refine ⟨by omega, by omega, fun h => (hn h).elim, fun _ => ⟨by first | (simp only [Utf8.runeError]; omega) | omega, fun k hk => ?_⟩⟩
    all_goals
      first
        | exact one k hk
        | (have hk4 : k = 0 ∨ k = 1 ∨ k = 2 ∨ k = 3 := by omega
           rcases hk4 with rfl | rfl | rfl | rfl <;> first | exact hn | omega)

theorem get_list (s : ByteArray) (i : Nat) (h : i < s.data.toList.length) : s.data.toList[i] = s.get! i := by
  have : i < s.data.size := by simpa using h
  show s.data.toList[i] = s.data[i]!
  rw [getElem!_pos s.data i this]
  simp

theorem splAcc_skip (s : ByteArray) (f i : Nat) (hf : f ≤ i) : ∀ n, i + n ≤ s.data.toList.length → (∀ k, k < n → (s.get! (i + k)).toNat ≠ 32) → splAcc (sub s f i) (s.data.toList.drop i) = splAcc (sub s f (i + n)) (s.data.toList.drop (i + n)) := by
  intro n
  induction n with
  | zero => intro _ _; rfl
  | succ n ih =>
    intro hn hk
    rw [ih (by omega) (fun k hk' => hk k (by omega))]
    have hlt : i + n < s.data.toList.length := by omega
    rw [List.drop_eq_getElem_cons hlt, splAcc_more (b := s.data.toList[i + n]), ← sub_more s f (i + n) (by omega) hlt]
    · rfl
    · intro e
      have := hk n (by omega)
      rw [← get_list s (i + n) hlt, e] at this
      exact this rfl

set_option maxRecDepth 100000 in
set_option maxHeartbeats 4000000 in
theorem splitTokens_any (s : ByteArray) (most : Nat) (w : World) (hl : s.size ≤ 1048576) (hm : most ≤ 100000) :
    Calls Try.prog 13 #[.string s, .int .i64 most] w fun e w' => ∃ v : Value, e = .returned (.tuple #[v, .bool (goodT most (spl s.data.toList))]) ∧ Below w.heap.size w w' ∧ (goodT most (spl s.data.toList) = true → Toks w.heap.size w' v (spl s.data.toList)) := by
  have HSZ : Hid (s.data.toList.length = s.size) := Array.length_toList
  have hst : Toks (w.heap.size + 1) (w.iter s 0) (.slice none 0 0) [] := ⟨rfl, Or.inl ⟨rfl, rfl⟩⟩
  have hb0 : Below w.heap.size w (w.iter s 0) := (Below.refl _ _).alloc (Nat.le_refl _) _
  have hi0 : (w.iter s 0).heap[w.heap.size]? = some (.stringIter s 0) := World.iter_heap w s 0
  go_enter Try.func13, Try.ntmps13
  go_wp2_with fail
  go_loopw [6, 7] (fun a b wr => ∃ (v : Value) (P : List (List UInt8)) (f i : Nat), a = v ∧ b = .int .i64 f ∧ P.length ≤ most ∧ Below w.heap.size w wr ∧ wr.heap[w.heap.size]? = some (.stringIter s i) ∧ Toks (w.heap.size + 1) wr v P ∧ f ≤ i ∧ i ≤ s.size ∧ Hid (spl s.data.toList = P ++ splAcc (sub s f i) (s.data.toList.drop i)) ∧ Hid (∀ x ∈ P, x ≠ [])) (fun _ _ wr => s.size - wr.iterPos w.heap.size)
  case atStart => exact ⟨_, [], 0, 0, rfl, rfl, by simp, hb0, hi0, hst, by omega, by omega, by simp [Hid, spl, sub_nil], fun x hx => by simp at hx⟩
  case round =>
    obtain ⟨v, P, f, i, rfl, rfl, hPm, hbr, hit, hT, hfi, his, HE, HNE⟩ := hrel
    have hzr := hbr.size
    have hform : ∃ ao cap, u6 = .slice ao P.length cap := by
      rcases hT.2 with ⟨rfl, hn⟩ | ⟨g, cap, cur, rfl, _⟩
      · exact ⟨none, 0, by rw [hn]⟩
      · exact ⟨_, cap, rfl⟩
    obtain ⟨ao, cap, rfl⟩ := hform
    have hmu : wr.iterPos w.heap.size = i := iterPos_of hit
    by_cases hlt : i < s.size
    · have hnx : ∀ ty, (Instr.next (.pointer (some ⟨w.heap.size, 0, none⟩)) true ty).run Try.prog wr = _ := fun ty => run_next_any_at wr w.heap.size s i ty hit hlt
      obtain ⟨hw1, hw2, hsp, hno⟩ := dec_facts s i hlt
      have hb2 := below_iterAt hbr (Nat.le_refl _) s (i + (Utf8.decode s i).2)
      have hit2 := iterAt_heap wr w.heap.size s i (i + (Utf8.decode s i).2) hit
      have hT2 : Toks (w.heap.size + 1) (wr.iterAt w.heap.size s (i + (Utf8.decode s i).2)) (.slice ao P.length cap) P := by
        refine ⟨hT.1, ?_⟩
        rcases hT.2 with hn | ⟨g, cp, cur, e, hg, hh, r⟩
        · exact Or.inl hn
        · exact Or.inr ⟨g, cp, cur, e, hg, (iterAt_other _ _ _ _ _ (by omega)).trans hh, r⟩
      by_cases h32 : (s.get! i).toNat = 32
      · have hd := hsp h32
        rw [hd.2] at hb2 hit2 hT2
        have hll : i < s.data.toList.length := by have := HSZ.out; omega
        have HDR : Hid (s.data.toList.drop i = 32 :: s.data.toList.drop (i + 1)) := by
          show _ = _
          rw [List.drop_eq_getElem_cons hll]
          congr 1
          rw [get_list]
          exact UInt8.toNat_inj.1 h32
        have hnx2 : ∀ ty, (Instr.next (.pointer (some ⟨w.heap.size, 0, none⟩)) true ty).run Try.prog wr = .ok (.tuple #[.bool true, .int .i64 i, .int .i32 32]) (wr.iterAt w.heap.size s (i + 1)) := fun ty => by rw [hnx ty, hd.1, hd.2]; rfl
        have hWs : (wr.iterAt w.heap.size s (i + 1)).heap.size = wr.heap.size := iterAt_size _ _ _ _
        clear hnx hsp hno hd hw1 hw2
        generalize wr.iterAt w.heap.size s (i + 1) = W at *
        have HWS : Hid (W.heap.size = wr.heap.size) := hWs
        clear hWs hT hit hbr
        by_cases hfe : i = f
        · have hbe : ((i : Int) == (f : Int)) = true := by simp [hfe]
          have HG : Hid (goodT most (spl s.data.toList) = false) := by show _ = _; rw [HE.out, HDR.out, splAcc_space, ← hfe, sub_nil]; exact good_empty
          clear hfe
          go_wp2_with fail
          refine bodyPost_ret (v := .tuple #[.slice none 0 0, .bool false]) (by simp [results, Try.results13, go_sem]) rfl ?_
          exact ⟨_, by rw [HG.out], hb2, fun h => by rw [HG.out] at h; cases h⟩
        have hbe : ((i : Int) == (f : Int)) = false := by rw [beq_eq_false_iff_ne]; omega
        by_cases hpe : P.length = most
        · have hbm : ((P.length : Int) == (most : Int)) = true := by simp [hpe]
          have HG : Hid (goodT most (spl s.data.toList) = false) := by show _ = _; rw [HE.out, HDR.out, splAcc_space]; exact good_many hpe
          clear hpe hfe
          go_wp2_with fail
          refine bodyPost_ret (v := .tuple #[.slice none 0 0, .bool false]) (by simp [results, Try.results13, go_sem]) rfl ?_
          exact ⟨_, by rw [HG.out], hb2, fun h => by rw [HG.out] at h; cases h⟩
        have hbm : ((P.length : Int) == (most : Int)) = false := by rw [beq_eq_false_iff_ne]; omega
        obtain ⟨g, cap', w2, hrun, hT3, hb3⟩ := toks_push hT2 (by have := (Array.getElem?_eq_some_iff.1 hit2).1; omega) (by omega) (sub s f i)
        have HR : Hid ((Builtin.append_ #[34, 34] 34 #[.slice ao P.length cap, .slice (some ⟨W.heap.size, 0, none⟩) 1 1]).run Try.prog (W.alloc (.cells #[.string (s.extract f i)] 9)) = .ok (.slice (some ⟨g, 0, none⟩) (P.length + 1) cap') w2) := by rw [extract_sub]; exact hrun
        have hit3 := (hb3.block w.heap.size (by omega)).trans hit2
        have hbw3 : Below w.heap.size w w2 := hb2.trans (hb3.mono (by omega))
        have HN : Hid (spl s.data.toList = (P ++ [sub s f i]) ++ splAcc (sub s (i + 1) (i + 1)) (s.data.toList.drop (i + 1))) := by show _ = _; rw [HE.out, HDR.out, splAcc_space, sub_nil, List.append_assoc]; rfl
        have HNE2 : Hid (∀ x ∈ P ++ [sub s f i], x ≠ []) := by
          intro x hx
          rw [List.mem_append] at hx
          rcases hx with hx | hx
          · exact HNE.out x hx
          · simp at hx
            rw [hx]
            intro e
            have : (sub s f i).length = i - f := by unfold sub; rw [List.length_drop, List.length_take]; omega
            rw [e] at this
            simp at this
            omega
        have HPL : Hid ((P ++ [sub s f i]).length ≤ most) := by show _ ≤ _; simp; omega
        clear hrun hfe hpe
        go_wp2_with (at_builtin; refine list_run HR.out (by rfl) _ _ (by rfl) (by rfl) (by rfl) (by rfl) ?_)
        go_roundw
        case rel => exact ⟨_, _, i + 1, i + 1, rfl, by go_num, HPL.out, hbw3, hit3, hT3, by omega, by omega, HN, HNE2⟩
        case measure => rw [iterPos_of hit3, hmu]; omega
      · have HN : Hid (spl s.data.toList = P ++ splAcc (sub s f (i + (Utf8.decode s i).2)) (s.data.toList.drop (i + (Utf8.decode s i).2))) := by
          show _ = _
          rw [HE.out, splAcc_skip s f i hfi _ (by have := HSZ.out; omega) (hno h32).2]
        have hr : (((Utf8.decode s i).1 : Int) != 32) = true := by rw [bne_iff_ne]; have := (hno h32).1; omega
        generalize (Utf8.decode s i).1 = r at *
        generalize (Utf8.decode s i).2 = wd at *
        clear hsp hno h32 hT hit hbr
        go_wp2_with fail
        go_roundw
        case rel => exact ⟨_, P, f, i + wd, rfl, rfl, hPm, hb2, hit2, hT2, by omega, by omega, HN, HNE⟩
        case measure => rw [iterPos_of hit2, hmu]; omega
    · have hnx : ∀ ty, (Instr.next (.pointer (some ⟨w.heap.size, 0, none⟩)) true ty).run Try.prog wr = _ := fun ty => run_next_end_at wr w.heap.size s i ty hit hlt
      have hie : i = s.size := by omega
      subst hie
      have HDR : Hid (s.data.toList.drop s.size = []) := List.drop_eq_nil_of_le (by have := HSZ.out; omega)
      by_cases hfe : f = s.size
      · have hbe : ((f : Int) == (s.size : Int)) = true := by simp [hfe]
        have HG : Hid (goodT most (spl s.data.toList) = false) := by show _ = _; rw [HE.out, HDR.out, hfe, sub_nil]; exact good_empty (Q := [])
        clear hfe
        go_wp2_with fail
        refine bodyPost_ret (v := .tuple #[.slice none 0 0, .bool false]) (by simp [results, Try.results13, go_sem]) rfl ?_
        exact ⟨_, by rw [HG.out], hbr, fun h => by rw [HG.out] at h; cases h⟩
      have hbe : ((f : Int) == (s.size : Int)) = false := by rw [beq_eq_false_iff_ne]; omega
      by_cases hpe : P.length = most
      · have hbm : ((P.length : Int) == (most : Int)) = true := by simp [hpe]
        have HG : Hid (goodT most (spl s.data.toList) = false) := by show _ = _; rw [HE.out, HDR.out]; exact good_many (Q := []) hpe
        clear hpe hfe
        go_wp2_with fail
        refine bodyPost_ret (v := .tuple #[.slice none 0 0, .bool false]) (by simp [results, Try.results13, go_sem]) rfl ?_
        exact ⟨_, by rw [HG.out], hbr, fun h => by rw [HG.out] at h; cases h⟩
      have hbm : ((P.length : Int) == (most : Int)) = false := by rw [beq_eq_false_iff_ne]; omega
      obtain ⟨g, cap', w2, hrun, hT3, hb3⟩ := toks_push hT (by have := (Array.getElem?_eq_some_iff.1 hit).1; omega) (by omega) (sub s f s.size)
      have HR : Hid ((Builtin.append_ #[34, 34] 34 #[.slice ao P.length cap, .slice (some ⟨wr.heap.size, 0, none⟩) 1 1]).run Try.prog (wr.alloc (.cells #[.string (s.extract f s.size)] 9)) = .ok (.slice (some ⟨g, 0, none⟩) (P.length + 1) cap') w2) := by rw [extract_sub]; exact hrun
      have hbw3 : Below w.heap.size w w2 := hbr.trans (hb3.mono (by omega))
      have HT : Hid (spl s.data.toList = P ++ [sub s f s.size]) := by show _ = _; rw [HE.out, HDR.out]; rfl
      have hne : sub s f s.size ≠ [] := by
        intro e
        have : (sub s f s.size).length = s.size - f := by unfold sub; rw [List.length_drop, List.length_take]; have := HSZ.out; omega
        rw [e] at this
        simp at this
        omega
      have HG : Hid (goodT most (spl s.data.toList) = true) := by show _ = _; rw [HT.out]; exact good_all (by omega) HNE.out hne
      have hT4 : Toks w.heap.size w2 (.slice (some ⟨g, 0, none⟩) (P.length + 1) cap') (P ++ [sub s f s.size]) := by
        refine ⟨hT3.1, ?_⟩
        rcases hT3.2 with hn | ⟨g', cp, cur, e, hg, r⟩
        · exact Or.inl hn
        · exact Or.inr ⟨g', cp, cur, e, by omega, r⟩
      clear hrun hfe hpe hne
      go_wp2_with (at_builtin; refine list_run HR.out (by rfl) _ _ (by rfl) (by rfl) (by rfl) (by rfl) ?_)
      refine bodyPost_ret (v := .tuple #[.slice (some ⟨g, 0, none⟩) (P.length + 1) cap', .bool true]) (by simp [results, Try.results13, go_sem]) rfl ?_
      exact ⟨_, by rw [HG.out], hbw3, fun _ => by rw [HT.out]; exact hT4⟩

end Go.Proofs.Ythmmapahobkhnaa
