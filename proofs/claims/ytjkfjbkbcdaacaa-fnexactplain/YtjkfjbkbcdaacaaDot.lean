/-
  A dot in a name: 'strings.Contains' at one byte, walked; and plain names, in plain words.
-/
import Derived.Test.YtjkfjbkbcdaacaaLs
import Derived.Lib.Bytealg
namespace Go.Proofs.Ytjkfjbkbcdaacaa
open Go.RowKit Go.PlainAid
set_option linter.unusedVariables false
set_option linter.unusedSimpArgs false

def hasDot (s : ByteArray) : Bool := decide (0 ≤ Lib.indexByte s.data.toList 46)

set_option maxHeartbeats 400000 in
set_option maxRecDepth 100000 in
theorem indexByte_any (s : ByteArray) (w : World) : Calls Try.prog 153 #[.string s, .int .u8 46] w fun e w' => e = .returned (.int .i64 (Lib.indexByte s.data.toList 46)) ∧ w' = w := by
  go_enter Try.func153, Try.ntmps153
  go_wp2
  rw [run_callFunc_extern Try.func162 (by kernel_rfl) (by kernel_rfl) (by kernel_rfl) (e := Extern.BytealgIndexByte.indexByte) (by kernel_rfl), Lib.run_indexByteString]
  simp only [Result.andThen]
  rw [Oper.upon_value]
  go_wp2
  go_ret
  exact ⟨rfl, rfl⟩

set_option maxHeartbeats 1000000 in
set_option maxRecDepth 100000 in
theorem index_any (s : ByteArray) (w : World) : Calls Try.prog 143 #[.string s, .string ⟨#[46]⟩] w fun e w' => e = .returned (.int .i64 (Lib.indexByte s.data.toList 46)) ∧ w' = w := by
  have hl : s.toList = s.data.toList := ByteArray.toList_eq s
  go_enter Try.func143, Try.ntmps143
  go_wp2_with (go_at_call 153; refine (indexByte_any _ _).mono ?_; rintro e w' ⟨rfl, rfl⟩)
  · go_ret
    refine ⟨?_, rfl⟩
    have h : ([46] == s.data.toList) = true := by assumption
    have e : s.data.toList = [46] := (beq_iff_eq.1 h).symm
    rw [e]
    simp [Lib.indexByte]
  · go_ret
    exact ⟨rfl, rfl⟩

set_option maxHeartbeats 400000 in
set_option maxRecDepth 100000 in
theorem contains_any (s : ByteArray) (w : World) : Calls Try.prog 87 #[.string s, .string ⟨#[46]⟩] w fun e w' => e = .returned (.bool (hasDot s)) ∧ w' = w := by
  have hi : Calls Try.prog 126 #[.string s, .string ⟨#[46]⟩] w fun e w' => e = .returned (.int .i64 (Lib.indexByte s.data.toList 46)) ∧ w' = w := by
    go_enter Try.func126, Try.ntmps126
    go_wp2_with (go_at_call 143; refine (index_any _ _).mono ?_; rintro e w' ⟨rfl, rfl⟩)
    go_ret
    exact ⟨rfl, rfl⟩
  go_enter Try.func87, Try.ntmps87
  go_wp2_with (go_at_call 126; refine hi.mono ?_; rintro e w' ⟨rfl, rfl⟩)
  go_ret
  exact ⟨ret_bool rfl, rfl⟩

theorem indexByte_mem (c : UInt8) : ∀ l : List UInt8, (0 ≤ Lib.indexByte l c) ↔ c ∈ l := by
  intro l
  induction l with
  | nil => simp [Lib.indexByte]
  | cons b l ih =>
    have hge := Lib.indexByte_ge l c
    unfold Lib.indexByte
    by_cases hb : b = c
    · simp [hb]
    · have h1 : (b == c) = false := by simp [hb]
      rw [h1]
      by_cases h2 : Lib.indexByte l c = -1
      · have : ¬ c ∈ l := fun h => by have := ih.2 h; omega
        simp [h2, this]; exact fun h => hb h.symm
      · have h3 : (Lib.indexByte l c == -1) = false := by simp [h2]
        have : c ∈ l := ih.1 (by omega)
        simp [h3, this]; omega

theorem bt_list (s : ByteArray) (i : Nat) (h : i < s.data.toList.length) : bt s i = ((s.data.toList[i]).toNat : Int) := by
  have hl : s.data.toList.length = s.size := by cases s; rfl
  rw [← get_bt s i (by omega)]
  cases s; rfl

theorem allB_list (s : ByteArray) (f : Int → Bool) : allB s s.size f = s.data.toList.all (fun b => f b.toNat) := by
  have hl : s.data.toList.length = s.size := by cases s; rfl
  rw [Bool.eq_iff_iff]
  constructor
  · intro h
    rw [List.all_eq_true]
    intro b hb
    obtain ⟨i, hi, rfl⟩ := List.getElem_of_mem hb
    rw [← bt_list s i hi]
    exact allB_get h i (by omega)
  · intro h
    unfold allB
    rw [List.all_eq_true]
    intro i hi
    have hi' : i < s.data.toList.length := by have := List.mem_range.1 hi; omega
    rw [bt_list s i hi']
    exact List.all_eq_true.1 h _ (List.getElem_mem hi')

theorem chPl_dot (x : Int) (h : chOk x = true) : chPl x = !decide (x = 46) := by
  by_cases h46 : x = 46
  · subst h46; rfl
  · have : chOk x = (chPl x || decide (x = 46)) := rfl
    rw [this, decide_eq_false h46, Bool.or_false] at h
    rw [h, decide_eq_false h46]; rfl

theorem dot_name {s : ByteArray} (h : isNil s = true ∨ nameW s = true) : (!hasDot s) = (s.toList.isEmpty || nameP true s) := by
  have hd : hasDot s = decide ((46 : UInt8) ∈ s.data.toList) := by unfold hasDot; rw [Bool.eq_iff_iff]; simp only [decide_eq_true_eq]; exact indexByte_mem 46 _
  rw [hd]
  rcases h with h | h
  · have h1 : s.toList.isEmpty = true := h
    have h2 : s.data.toList = [] := by rw [← ByteArray.toList_eq]; exact List.isEmpty_iff.1 h1
    rw [h1, h2]; simp
  · have h1 : s.toList.isEmpty = false := by
      have e : isNil s = decide (s.size = 0) := isNil_size s
      unfold isNil at e
      rw [e, decide_eq_false_iff_not]
      simp only [nameW, Bool.and_eq_true, decide_eq_true_eq] at h
      omega
    rw [h1, Bool.false_or]
    simp only [nameW, Bool.and_eq_true, decide_eq_true_eq] at h
    obtain ⟨⟨⟨h2, h3⟩, h4⟩, h5⟩ := h
    have e : nameP true s = allB s s.size chPl := by
      rw [nameP_all h2 h3 h4]; rfl
    rw [e, allB_list]
    rw [allB_list, List.all_eq_true] at h5
    rw [Bool.eq_iff_iff, List.all_eq_true, Bool.not_eq_true', decide_eq_false_iff_not]
    constructor
    · intro hn b hb
      rw [chPl_dot _ (h5 b hb), Bool.not_eq_true', decide_eq_false_iff_not]
      intro h46
      have : b = 46 := by apply UInt8.toNat_inj.1; have : (46 : UInt8).toNat = 46 := rfl; omega
      exact hn (this ▸ hb)
    · intro ha hm
      have := ha 46 hm
      rw [chPl_dot _ (h5 46 hm)] at this
      simp at this

end Go.Proofs.Ytjkfjbkbcdaacaa
