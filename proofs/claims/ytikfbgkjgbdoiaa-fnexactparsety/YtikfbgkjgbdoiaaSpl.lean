/-
  What the model's 'l1Split' comes to: the tokens of a text.
-/
import Derived.Test.YtikfbgkjgbdoiaaOw
import Derived.Test.YtikfbgkjgbdoiaaLwM
namespace Go.Proofs.Ytikfbgkjgbdoiaa
open Go.RowKit
set_option linter.unusedVariables false
set_option linter.unusedSimpArgs false

/-- The tokens of what is left, 'cur' being what the first one has already. -/
def splAcc : List UInt8 → List UInt8 → List (List UInt8)
  | cur, [] => [cur]
  | cur, b :: rest => if b = 32 then cur :: splAcc [] rest else splAcc (cur ++ [b]) rest
def spl (s : List UInt8) : List (List UInt8) := splAcc [] s

theorem splAcc_space {cur rest : List UInt8} : splAcc cur (32 :: rest) = cur :: splAcc [] rest := by simp [splAcc]
theorem splAcc_more {cur rest : List UInt8} {b : UInt8} (h : b ≠ 32) : splAcc cur (b :: rest) = splAcc (cur ++ [b]) rest := by simp [splAcc, h]

theorem Try.infoStr : (Try.prog.info? 9).map (fun i => (i.zero, i.size, i.bytes)) = some (some (.string ⟨#[]⟩), 1, 16) := by kernel_rfl

/-- The bytes from f on and below i. -/
def sub (s : ByteArray) (f i : Nat) : List UInt8 := (s.data.toList.take i).drop f
/-- A token as a value. -/
def tk (l : List UInt8) : Value := .string ⟨l.toArray⟩

theorem extract_sub (s : ByteArray) (f i : Nat) : s.extract f i = ⟨(sub s f i).toArray⟩ := by
  apply ByteArray.ext
  rw [ByteArray.data_extract]
  apply Array.toList_inj.1
  rw [Array.toList_extract]
  simp [sub, List.extract_eq_take_drop, List.drop_take]

theorem sub_nil (s : ByteArray) (f : Nat) : sub s f f = [] := by
  unfold sub
  exact List.drop_eq_nil_of_le (by simp; omega)
theorem sub_more (s : ByteArray) (f i : Nat) (hf : f ≤ i) (hi : i < s.data.toList.length) : sub s f (i + 1) = sub s f i ++ [s.data.toList[i]] := by
  unfold sub
  rw [List.take_succ_eq_append_getElem hi, List.drop_append_of_le_length (by rw [List.length_take]; omega)]

/-- A row of tokens that can be appended to. -/
def Toks (base : Nat) (wr : World) (v : Value) (P : List (List UInt8)) : Prop := wr.ownsRow base 9 1 v P.length (P.map tk)

theorem toks_push {base : Nat} {wr : World} {v : Value} {P : List (List UInt8)} (h : Toks base wr v P) (hb : base ≤ wr.heap.size) (hl : P.length ≤ 1048577) (l : List UInt8) :
    ∃ g cap w2, (Builtin.append_ #[38, 38] 38 #[v, .slice (some ⟨wr.heap.size, 0, none⟩) 1 1]).run Try.prog (wr.alloc (.cells #[tk l] 9)) = .ok (.slice (some ⟨g, 0, none⟩) (P.length + 1) cap) w2 ∧
      Toks base w2 (.slice (some ⟨g, 0, none⟩) (P.length + 1) cap) (P ++ [l]) ∧ Below base wr w2 := by
  obtain ⟨i0, hi, hz0, hz1, hz2⟩ := info_parts Try.infoStr
  have hA : Below wr.heap.size wr (wr.alloc (.cells #[tk l] 9)) := (Below.refl _ _).alloc (Nat.le_refl _) _
  have h1 : Toks base (wr.alloc (.cells #[tk l] 9)) v P := by
    refine ⟨h.1, ?_⟩
    rcases h.2 with hn | ⟨g, cap, cur, rfl, hg, hh, r⟩
    · exact Or.inl hn
    · exact Or.inr ⟨g, cap, cur, rfl, hg, (hA.block g (Array.getElem?_eq_some_iff.1 hh).1).trans hh, r⟩
  obtain ⟨g, cap, w2, hrun, hown2, hgrow, hat, hlt⟩ := run_append_lies (P := Try.prog) (wr.alloc (.cells #[tk l] 9)) 38 38 base 9 i0 _ 1 16 Try.underlying38 hi hz0 hz1 hz2 rfl (by omega) v P.length _ h1
    ⟨wr.heap.size, 0, none⟩ 1 1 [tk l] rfl (World.news_of_block (cs := #[tk l]) (t := 9) (fr := (0, 0)) (heap_alloc_new wr _)) (by simp [tk, Value.oneCell'])
    (by omega) (by unfold maxLen; omega) (by omega) (by simp; omega) _ rfl
  have hvb : ∀ g, v.ownBlock = some g → base ≤ g := by
    intro g hg
    rcases h.2 with ⟨rfl, _⟩ | ⟨g', cap, cur, rfl, hb', _⟩
    · cases hg
    · have e : g' = g := by simpa [Value.ownBlock] using hg
      subst e; exact hb'
  have hsz := hgrow.size
  simp only [World.size_alloc] at hsz
  refine ⟨g, cap, w2, hrun, ?_, ⟨hgrow.os, hgrow.tape, hgrow.output, by omega, fun q hq => ?_⟩⟩
  · unfold Toks
    simpa using hown2
  · exact (hgrow.block q (by simp; omega) (fun e => by have := hvb q e.symm; omega)).trans (hA.block q (by omega))

set_option maxRecDepth 100000 in
set_option maxHeartbeats 2000000 in
theorem l1Split_any (s : ByteArray) (w : World) (hl : s.size ≤ 1048576) :
    Calls Try.prog 57 #[.string s] w fun e w' => ∃ v : Value, e = .returned v ∧ Below w.heap.size w w' ∧ Toks w.heap.size w' v (spl s.data.toList) := by
  have hsz : s.data.toList.length = s.size := Array.length_toList
  have HSZ : Hid (s.data.toList.length = s.size) := hsz
  have hst : Toks w.heap.size (w.alloc (.cells #[] 9)) (.slice (some ⟨w.heap.size, 0, none⟩) 0 0) [] := ⟨rfl, Or.inr ⟨w.heap.size, 0, #[], rfl, Nat.le_refl _, heap_new rfl, by simp, by unfold maxLen; simp, by simp, by simp⟩⟩
  clear hsz
  go_enter Try.func57, Try.ntmps57
  go_wp2_with fail
  go_loopw [3, 4, 5] (fun a b c wr => ∃ (v : Value) (P : List (List UInt8)) (f i : Nat), a = v ∧ b = .int .i64 f ∧ c = .int .i64 i ∧ P.length ≤ i ∧ Below w.heap.size w wr ∧ Toks w.heap.size wr v P ∧ Hid ((f ≤ i ∧ i ≤ s.size ∧ spl s.data.toList = P ++ splAcc (sub s f i) (s.data.toList.drop i)) ∨ (i = s.size + 1 ∧ spl s.data.toList = P))) (fun _ _ c _ => s.size + 2 - (intOf c).toNat)
  case atStart => exact ⟨_, [], 0, 0, rfl, rfl, rfl, by simp, (Below.refl _ _).alloc (Nat.le_refl _) _, hst, Or.inl ⟨by omega, by omega, by simp [spl, sub_nil]⟩⟩
  case round =>
    obtain ⟨v, P, f, i, rfl, rfl, rfl, hP, hbr, hT, HI⟩ := hrel
    have hzr := hbr.size
    have hform : ∃ ao cap, u3 = .slice ao P.length cap := by
      rcases hT.2 with ⟨rfl, hn⟩ | ⟨g, cap, cur, rfl, _⟩
      · exact ⟨none, 0, by rw [hn]⟩
      · exact ⟨_, cap, rfl⟩
    obtain ⟨ao, cap, rfl⟩ := hform
    by_cases hle : i ≤ s.size
    · have hI := HI.out.resolve_right (fun h => by omega)
      have hfi := hI.1
      have HE : Hid (spl s.data.toList = P ++ splAcc (sub s f i) (s.data.toList.drop i)) := hI.2.2
      clear hI HI
      have PUSH : Hid (∃ g cap' w2, (Builtin.append_ #[38, 38] 38 #[.slice ao P.length cap, .slice (some ⟨wr.heap.size, 0, none⟩) 1 1]).run Try.prog (wr.alloc (.cells #[.string (s.extract f i)] 9)) = .ok (.slice (some ⟨g, 0, none⟩) (P.length + 1) cap') w2 ∧ Toks w.heap.size w2 (.slice (some ⟨g, 0, none⟩) (P.length + 1) cap') (P ++ [sub s f i]) ∧ Below w.heap.size wr w2) := by
        show ∃ g, _
        rw [extract_sub]
        exact toks_push hT hzr (by omega) (sub s f i)
      by_cases heq : i = s.size
      · have hbe : ((i : Int) == (s.size : Int)) = true := by simp [heq]
        obtain ⟨g, cap', w2, hrun, hT2, hb2⟩ := PUSH.out
        have HR : Hid (_ = _) := hrun
        have HN : Hid (i + 1 = s.size + 1 ∧ spl s.data.toList = P ++ [sub s f i]) := by
          refine ⟨by omega, ?_⟩
          rw [HE.out, List.drop_eq_nil_of_le (by have := HSZ.out; omega)]; rfl
        clear hrun heq
        go_wp2_with (at_builtin; refine list_run HR.out (by rfl) _ _ (by rfl) (by rfl) (by rfl) (by rfl) ?_)
        go_roundw
        case rel => exact ⟨_, _, i + 1, i + 1, rfl, by go_num, by go_num, by simp; omega, hbr.trans (hb2.mono (Nat.le_refl _)), hT2, Or.inr HN.out⟩
        case measure => simp [intOf]; omega
      · have hbe : ((i : Int) == (s.size : Int)) = false := by rw [beq_eq_false_iff_ne]; omega
        have hlt : i < s.size := by omega
        have hll : i < s.data.toList.length := by have := HSZ.out; omega
        obtain ⟨x, hx⟩ : ∃ x : Int, x = ((s[i]'hlt).toNat : Int) := ⟨_, rfl⟩
        have hbk : ((s[i]'hlt).toNat : Int) = x := hx.symm
        have HX : Hid (x = ((s.data.toList[i]'hll).toNat : Int)) := hx
        have HDR : Hid (s.data.toList.drop i = s.data.toList[i]'hll :: s.data.toList.drop (i + 1)) := List.drop_eq_getElem_cons hll
        clear hx heq
        cases h32 : (x == 32)
        · have HN : Hid (f ≤ i + 1 ∧ i + 1 ≤ s.size ∧ spl s.data.toList = P ++ splAcc (sub s f (i + 1)) (s.data.toList.drop (i + 1))) := by
            refine ⟨by omega, by omega, ?_⟩
            have hne : s.data.toList[i]'hll ≠ 32 := by
              intro e
              have h1 := HX.out
              rw [e] at h1
              rw [h1] at h32
              simp at h32
            rw [HE.out, HDR.out, splAcc_more hne, sub_more s f i hfi hll]
          go_wp2_with fail
          go_roundw
          case rel => exact ⟨_, P, f, i + 1, rfl, rfl, by go_num, by omega, hbr, hT, Or.inl HN.out⟩
          case measure => simp [intOf]; omega
        · obtain ⟨g, cap', w2, hrun, hT2, hb2⟩ := PUSH.out
          have HR : Hid (_ = _) := hrun
          have HN : Hid (i + 1 ≤ i + 1 ∧ i + 1 ≤ s.size ∧ spl s.data.toList = (P ++ [sub s f i]) ++ splAcc (sub s (i + 1) (i + 1)) (s.data.toList.drop (i + 1))) := by
            refine ⟨by omega, by omega, ?_⟩
            have he : s.data.toList[i]'hll = 32 := by
              have h1 := HX.out
              have h2 : x = 32 := by simpa using h32
              rw [h2] at h1
              exact UInt8.toNat_inj.1 (by have : (s.data.toList[i]'hll).toNat = 32 := by omega
                                          exact this)
            rw [HE.out, HDR.out, he, splAcc_space, sub_nil, List.append_assoc]; rfl
          clear hrun
          go_wp2_with (at_builtin; refine list_run HR.out (by rfl) _ _ (by rfl) (by rfl) (by rfl) (by rfl) ?_)
          go_roundw
          case rel => exact ⟨_, _, i + 1, i + 1, rfl, by go_num, by go_num, by simp; omega, hbr.trans (hb2.mono (Nat.le_refl _)), hT2, Or.inl HN.out⟩
          case measure => simp [intOf]; omega
    · have HE : Hid (spl s.data.toList = P) := (HI.out.resolve_left (fun h => hle h.2.1)).2
      clear HI
      go_wp2_with fail
      go_ret
      exact ⟨_, rfl, hbr, by rw [HE.out]; exact hT⟩

end Go.Proofs.Ytikfbgkjgbdoiaa
