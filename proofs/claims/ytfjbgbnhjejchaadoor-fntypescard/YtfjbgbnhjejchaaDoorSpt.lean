/-
  What the program's 'splitTokens' comes to: the tokens of a text, if none is empty and they are not too many.
-/
import Derived.Test.YtfjbgbnhjejchaaDoorSpl0
import Derived.Lib.OthersKept
import Derived.Laws.RangeAny
import Derived.WalkSmall
namespace Go.Proofs.YtfjbgbnhjejchaaDoor
open Go.RowKit Go.Lib
set_option linter.unusedVariables false
set_option linter.unusedSimpArgs false

/-- None is empty, and there are no more than 'most'. -/
def goodT (most : Nat) (T : List (List UInt8)) : Bool := decide (T.length ≤ most) && T.all fun l => !l.isEmpty

theorem good_empty {most : Nat} {P Q : List (List UInt8)} : goodT most (P ++ [] :: Q) = false := by simp [goodT]
theorem good_many {most : Nat} {P Q : List (List UInt8)} {l : List UInt8} (h : P.length = most) : goodT most (P ++ l :: Q) = false := by
  unfold goodT
  rw [Bool.and_eq_false_iff]
  left
  simp
  omega
theorem good_all {most : Nat} {P : List (List UInt8)} {l : List UInt8} (h : P.length < most) (hP : ∀ x ∈ P, x ≠ []) (hl : l ≠ []) : goodT most (P ++ [l]) = true := by
  unfold goodT
  rw [Bool.and_eq_true, decide_eq_true_eq, List.all_eq_true]
  refine ⟨by simp; omega, fun x hx => ?_⟩
  rw [List.mem_append] at hx
  have hne : x ≠ [] := by
    rcases hx with hx | hx
    · exact hP x hx
    · simp at hx; rw [hx]; exact hl
  cases x with
  | nil => exact (hne rfl).elim
  | cons a x => rfl

/-- What a range over a text hands over at a place: a space is a byte 32, and no other rune has one. -/
theorem dec_facts (s : ByteArray) (i : Nat) (h : i < s.size) : 1 ≤ (Utf8.decode s i).2 ∧ i + (Utf8.decode s i).2 ≤ s.size ∧ ((s.get! i).toNat = 32 → (Utf8.decode s i).1 = 32 ∧ (Utf8.decode s i).2 = 1) ∧ ((s.get! i).toNat ≠ 32 → (Utf8.decode s i).1 ≠ 32 ∧ ∀ k, k < (Utf8.decode s i).2 → (s.get! (i + k)).toNat ≠ 32) := by
  have e0 : s.get! (i + 0) = s.get! i := rfl
  simp only [Utf8.decode, e0]
  by_cases ha : (s.get! i).toNat < 128
  · simp only [ha, if_true]
    refine ⟨by omega, by omega, fun h => ⟨h, by trivial⟩, fun h => ⟨h, fun k hk => ?_⟩⟩
    have : k = 0 := by omega
    subst this
    exact h
  · have hn : (s.get! i).toNat ≠ 32 := by omega
    simp only [ha, if_false]
    have one : ∀ k, k < 1 → (s.get! (i + k)).toNat ≠ 32 := by
      intro k hk
      have h0 : k = 0 := by omega
      subst h0
      exact hn
    repeat' split
    all_goals simp only [Bool.and_eq_true, decide_eq_true_eq, beq_iff_eq] at *
    all_goals refine ⟨by omega, by omega, fun h => (hn h).elim, fun _ => ⟨by first | (simp only [Utf8.runeError]; omega) | omega, fun k hk => ?_⟩⟩
    all_goals
      first
        | exact one k hk
        | (have hk4 : k = 0 ∨ k = 1 ∨ k = 2 ∨ k = 3 := by omega
           rcases hk4 with rfl | rfl | rfl | rfl <;> first | exact hn | omega)

theorem get_list (s : ByteArray) (i : Nat) (h : i < s.data.toList.length) : s.data.toList[i] = s.get! i := by
  have : i < s.data.size := by simpa using h
  show s.data.toList[i] = s.data[i]!
  rw [getElem!_pos s.data i this]
  simp

theorem splAcc_skip (s : ByteArray) (f i : Nat) (hf : f ≤ i) : ∀ n, i + n ≤ s.data.toList.length → (∀ k, k < n → (s.get! (i + k)).toNat ≠ 32) → splAcc (sub s f i) (s.data.toList.drop i) = splAcc (sub s f (i + n)) (s.data.toList.drop (i + n)) := by
  intro n
  induction n with
  | zero => intro _ _; rfl
  | succ n ih =>
    intro hn hk
    rw [ih (by omega) (fun k hk' => hk k (by omega))]
    have hlt : i + n < s.data.toList.length := by omega
    rw [List.drop_eq_getElem_cons hlt, splAcc_more (b := s.data.toList[i + n]), ← sub_more s f (i + n) (by omega) hlt]
    · rfl
    · intro e
      have := hk n (by omega)
      rw [← get_list s (i + n) hlt, e] at this
      exact this rfl

set_option maxRecDepth 100000 in
set_option maxHeartbeats 4000000 in
theorem splitTokens_any (s : ByteArray) (most : Nat) (w : World) (hl : s.size ≤ 1048576) (hm : most ≤ 100000) :
    Calls Tryd.prog 29 #[.string s, .int .i64 most] w fun e w' => ∃ v : Value, e = .returned (.tuple #[v, .bool (goodT most (spl s.data.toList))]) ∧ Below w.heap.size w w' ∧ (goodT most (spl s.data.toList) = true → Toks w.heap.size w' v (spl s.data.toList)) := by
  have HSZ : Hid (s.data.toList.length = s.size) := Array.length_toList
  have hst : Toks (w.heap.size + 1) (w.iter s 0) (.slice none 0 0) [] := ⟨rfl, Or.inl ⟨rfl, rfl⟩⟩
  have hb0 : Below w.heap.size w (w.iter s 0) := (Below.refl _ _).alloc (Nat.le_refl _) _
  have hi0 : (w.iter s 0).heap[w.heap.size]? = some (.stringIter s 0) := World.iter_heap w s 0
  go_enter Tryd.func29, Tryd.ntmps29
  go_wp2_with fail
  go_loopw [6, 7] (fun a b wr => ∃ (v : Value) (P : List (List UInt8)) (f i : Nat), a = v ∧ b = .int .i64 f ∧ P.length ≤ most ∧ Below w.heap.size w wr ∧ wr.heap[w.heap.size]? = some (.stringIter s i) ∧ Toks (w.heap.size + 1) wr v P ∧ f ≤ i ∧ i ≤ s.size ∧ Hid (spl s.data.toList = P ++ splAcc (sub s f i) (s.data.toList.drop i)) ∧ Hid (∀ x ∈ P, x ≠ [])) (fun _ _ wr => s.size - wr.iterPos w.heap.size)
  case atStart => exact ⟨_, [], 0, 0, rfl, rfl, by simp, hb0, hi0, hst, by omega, by omega, by simp [Hid, spl, sub_nil], fun x hx => by simp at hx⟩
  case round =>
    obtain ⟨v, P, f, i, rfl, rfl, hPm, hbr, hit, hT, hfi, his, HE, HNE⟩ := hrel
    have hzr := hbr.size
    have hform : ∃ ao cap, u6 = .slice ao P.length cap := by
      rcases hT.2 with ⟨rfl, hn⟩ | ⟨g, cap, cur, rfl, _⟩
      · exact ⟨none, 0, by rw [hn]⟩
      · exact ⟨_, cap, rfl⟩
    obtain ⟨ao, cap, rfl⟩ := hform
    have hmu : wr.iterPos w.heap.size = i := iterPos_of hit
    by_cases hlt : i < s.size
    · have hnx : ∀ ty, (Instr.next (.pointer (some ⟨w.heap.size, 0, none⟩)) true ty).run Tryd.prog wr = _ := fun ty => run_next_any_at wr w.heap.size s i ty hit hlt
      obtain ⟨hw1, hw2, hsp, hno⟩ := dec_facts s i hlt
      have hb2 := below_iterAt hbr (Nat.le_refl _) s (i + (Utf8.decode s i).2)
      have hit2 := iterAt_heap wr w.heap.size s i (i + (Utf8.decode s i).2) hit
      have hT2 : Toks (w.heap.size + 1) (wr.iterAt w.heap.size s (i + (Utf8.decode s i).2)) (.slice ao P.length cap) P := by
        refine ⟨hT.1, ?_⟩
        rcases hT.2 with hn | ⟨g, cp, cur, e, hg, hh, r⟩
        · exact Or.inl hn
        · exact Or.inr ⟨g, cp, cur, e, hg, (iterAt_other _ _ _ _ _ (by omega)).trans hh, r⟩
      by_cases h32 : (s.get! i).toNat = 32
      · have hd := hsp h32
        rw [hd.2] at hb2 hit2 hT2
        have hll : i < s.data.toList.length := by have := HSZ.out; omega
        have HDR : Hid (s.data.toList.drop i = 32 :: s.data.toList.drop (i + 1)) := by
          show _ = _
          rw [List.drop_eq_getElem_cons hll]
          congr 1
          rw [get_list]
          exact UInt8.toNat_inj.1 h32
        have hnx2 : ∀ ty, (Instr.next (.pointer (some ⟨w.heap.size, 0, none⟩)) true ty).run Tryd.prog wr = .ok (.tuple #[.bool true, .int .i64 i, .int .i32 32]) (wr.iterAt w.heap.size s (i + 1)) := fun ty => by rw [hnx ty, hd.1, hd.2]; rfl
        have hWs : (wr.iterAt w.heap.size s (i + 1)).heap.size = wr.heap.size := iterAt_size _ _ _ _
        clear hnx hsp hno hd hw1 hw2
        generalize wr.iterAt w.heap.size s (i + 1) = W at *
        have HWS : Hid (W.heap.size = wr.heap.size) := hWs
        clear hWs hT hit hbr
        by_cases hfe : i = f
        · have hbe : ((i : Int) == (f : Int)) = true := by simp [hfe]
          have HG : Hid (goodT most (spl s.data.toList) = false) := by show _ = _; rw [HE.out, HDR.out, splAcc_space, ← hfe, sub_nil]; exact good_empty
          clear hfe
          go_wp2_with fail
          refine bodyPost_ret (v := .tuple #[.slice none 0 0, .bool false]) (by simp [results, Tryd.results29, go_sem]) rfl ?_
          exact ⟨_, by rw [HG.out], hb2, fun h => by rw [HG.out] at h; cases h⟩
        have hbe : ((i : Int) == (f : Int)) = false := by rw [beq_eq_false_iff_ne]; omega
        by_cases hpe : P.length = most
        · have hbm : ((P.length : Int) == (most : Int)) = true := by simp [hpe]
          have HG : Hid (goodT most (spl s.data.toList) = false) := by show _ = _; rw [HE.out, HDR.out, splAcc_space]; exact good_many hpe
          clear hpe hfe
          go_wp2_with fail
          refine bodyPost_ret (v := .tuple #[.slice none 0 0, .bool false]) (by simp [results, Tryd.results29, go_sem]) rfl ?_
          exact ⟨_, by rw [HG.out], hb2, fun h => by rw [HG.out] at h; cases h⟩
        have hbm : ((P.length : Int) == (most : Int)) = false := by rw [beq_eq_false_iff_ne]; omega
        obtain ⟨g, cap', w2, hrun, hT3, hb3⟩ := toks_push hT2 (by have := (Array.getElem?_eq_some_iff.1 hit2).1; omega) (by omega) (sub s f i)
        have HR : Hid ((Builtin.append_ #[43, 43] 43 #[.slice ao P.length cap, .slice (some ⟨W.heap.size, 0, none⟩) 1 1]).run Tryd.prog (W.alloc (.cells #[.string (s.extract f i)] 9)) = .ok (.slice (some ⟨g, 0, none⟩) (P.length + 1) cap') w2) := by rw [extract_sub]; exact hrun
        have hit3 := (hb3.block w.heap.size (by omega)).trans hit2
        have hbw3 : Below w.heap.size w w2 := hb2.trans (hb3.mono (by omega))
        have HN : Hid (spl s.data.toList = (P ++ [sub s f i]) ++ splAcc (sub s (i + 1) (i + 1)) (s.data.toList.drop (i + 1))) := by show _ = _; rw [HE.out, HDR.out, splAcc_space, sub_nil, List.append_assoc]; rfl
        have HNE2 : Hid (∀ x ∈ P ++ [sub s f i], x ≠ []) := by
          intro x hx
          rw [List.mem_append] at hx
          rcases hx with hx | hx
          · exact HNE.out x hx
          · simp at hx
            rw [hx]
            intro e
            have : (sub s f i).length = i - f := by unfold sub; rw [List.length_drop, List.length_take]; omega
            rw [e] at this
            simp at this
            omega
        have HPL : Hid ((P ++ [sub s f i]).length ≤ most) := by show _ ≤ _; simp; omega
        clear hrun hfe hpe
        go_wp2_with (at_builtin; refine list_run HR.out (by rfl) _ _ (by rfl) (by rfl) (by rfl) (by rfl) ?_)
        go_roundw
        case rel => exact ⟨_, _, i + 1, i + 1, rfl, by go_num, HPL.out, hbw3, hit3, hT3, by omega, by omega, HN, HNE2⟩
        case measure => rw [iterPos_of hit3, hmu]; omega
      · have HN : Hid (spl s.data.toList = P ++ splAcc (sub s f (i + (Utf8.decode s i).2)) (s.data.toList.drop (i + (Utf8.decode s i).2))) := by
          show _ = _
          rw [HE.out, splAcc_skip s f i hfi _ (by have := HSZ.out; omega) (hno h32).2]
        have hr : (((Utf8.decode s i).1 : Int) != 32) = true := by rw [bne_iff_ne]; have := (hno h32).1; omega
        generalize (Utf8.decode s i).1 = r at *
        generalize (Utf8.decode s i).2 = wd at *
        clear hsp hno h32 hT hit hbr
        go_wp2_with fail
        go_roundw
        case rel => exact ⟨_, P, f, i + wd, rfl, rfl, hPm, hb2, hit2, hT2, by omega, by omega, HN, HNE⟩
        case measure => rw [iterPos_of hit2, hmu]; omega
    · have hnx : ∀ ty, (Instr.next (.pointer (some ⟨w.heap.size, 0, none⟩)) true ty).run Tryd.prog wr = _ := fun ty => run_next_end_at wr w.heap.size s i ty hit hlt
      have hie : i = s.size := by omega
      subst hie
      have HDR : Hid (s.data.toList.drop s.size = []) := List.drop_eq_nil_of_le (by have := HSZ.out; omega)
      by_cases hfe : f = s.size
      · have hbe : ((f : Int) == (s.size : Int)) = true := by simp [hfe]
        have HG : Hid (goodT most (spl s.data.toList) = false) := by show _ = _; rw [HE.out, HDR.out, hfe, sub_nil]; exact good_empty (Q := [])
        clear hfe
        go_wp2_with fail
        refine bodyPost_ret (v := .tuple #[.slice none 0 0, .bool false]) (by simp [results, Tryd.results29, go_sem]) rfl ?_
        exact ⟨_, by rw [HG.out], hbr, fun h => by rw [HG.out] at h; cases h⟩
      have hbe : ((f : Int) == (s.size : Int)) = false := by rw [beq_eq_false_iff_ne]; omega
      by_cases hpe : P.length = most
      · have hbm : ((P.length : Int) == (most : Int)) = true := by simp [hpe]
        have HG : Hid (goodT most (spl s.data.toList) = false) := by show _ = _; rw [HE.out, HDR.out]; exact good_many (Q := []) hpe
        clear hpe hfe
        go_wp2_with fail
        refine bodyPost_ret (v := .tuple #[.slice none 0 0, .bool false]) (by simp [results, Tryd.results29, go_sem]) rfl ?_
        exact ⟨_, by rw [HG.out], hbr, fun h => by rw [HG.out] at h; cases h⟩
      have hbm : ((P.length : Int) == (most : Int)) = false := by rw [beq_eq_false_iff_ne]; omega
      obtain ⟨g, cap', w2, hrun, hT3, hb3⟩ := toks_push hT (by have := (Array.getElem?_eq_some_iff.1 hit).1; omega) (by omega) (sub s f s.size)
      have HR : Hid ((Builtin.append_ #[43, 43] 43 #[.slice ao P.length cap, .slice (some ⟨wr.heap.size, 0, none⟩) 1 1]).run Tryd.prog (wr.alloc (.cells #[.string (s.extract f s.size)] 9)) = .ok (.slice (some ⟨g, 0, none⟩) (P.length + 1) cap') w2) := by rw [extract_sub]; exact hrun
      have hbw3 : Below w.heap.size w w2 := hbr.trans (hb3.mono (by omega))
      have HT : Hid (spl s.data.toList = P ++ [sub s f s.size]) := by show _ = _; rw [HE.out, HDR.out]; rfl
      have hne : sub s f s.size ≠ [] := by
        intro e
        have : (sub s f s.size).length = s.size - f := by unfold sub; rw [List.length_drop, List.length_take]; have := HSZ.out; omega
        rw [e] at this
        simp at this
        omega
      have HG : Hid (goodT most (spl s.data.toList) = true) := by show _ = _; rw [HT.out]; exact good_all (by omega) HNE.out hne
      have hT4 : Toks w.heap.size w2 (.slice (some ⟨g, 0, none⟩) (P.length + 1) cap') (P ++ [sub s f s.size]) := by
        refine ⟨hT3.1, ?_⟩
        rcases hT3.2 with hn | ⟨g', cp, cur, e, hg, r⟩
        · exact Or.inl hn
        · exact Or.inr ⟨g', cp, cur, e, by omega, r⟩
      clear hrun hfe hpe hne
      go_wp2_with (at_builtin; refine list_run HR.out (by rfl) _ _ (by rfl) (by rfl) (by rfl) (by rfl) ?_)
      refine bodyPost_ret (v := .tuple #[.slice (some ⟨g, 0, none⟩) (P.length + 1) cap', .bool true]) (by simp [results, Tryd.results29, go_sem]) rfl ?_
      exact ⟨_, by rw [HG.out], hbw3, fun _ => by rw [HT.out]; exact hT4⟩

end Go.Proofs.YtfjbgbnhjejchaaDoor
