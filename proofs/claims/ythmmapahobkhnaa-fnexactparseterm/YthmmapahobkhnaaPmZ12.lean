/-
  The program's reader of terms: words and their kinds; numbers with a sign, counts, signs of ops; the number behind a word.
-/
import Derived.Test.YthmmapahobkhnaaPmZ11
import Derived.Test.YthmmapahobkhnaaPmZ7
import Derived.Laws.IdiomStrings
import Derived.Test.YthmmapahobkhnaaPmZ9
import Derived.Test.YthmmapahobkhnaaPmZ2
import Derived.Deep.RegionLaw
namespace Go.Proofs.Ythmmapahobkhnaa
open Go.RowKit Go.PlainAid
set_option linter.unusedVariables false
set_option linter.unusedSimpArgs false

set_option maxRecDepth 100000 in
set_option maxHeartbeats 4000000 in
theorem kindOfWord_any (l : List UInt8) (w : World) :
    Calls Try.prog 37 #[tk l] w fun e w' => e = .returned (.int .i64 (kindW l)) ∧ w' = w := by
  unfold tk
  by_cases h1 : l = [110]
  · subst h1
    go_enter Try.func37, Try.ntmps37
    go_wp2
    go_ret
    exact ⟨rfl, rfl⟩
  by_cases h2 : l = [116]
  · subst h2
    go_enter Try.func37, Try.ntmps37
    go_wp2
    go_ret
    exact ⟨rfl, rfl⟩
  by_cases h3 : l = [117]
  · subst h3
    go_enter Try.func37, Try.ntmps37
    go_wp2
    go_ret
    exact ⟨rfl, rfl⟩
  by_cases h4 : l = [118]
  · subst h4
    go_enter Try.func37, Try.ntmps37
    go_wp2
    go_ret
    exact ⟨rfl, rfl⟩
  by_cases h5 : l = [102, 110]
  · subst h5
    go_enter Try.func37, Try.ntmps37
    go_wp2
    go_ret
    exact ⟨rfl, rfl⟩
  by_cases h6 : l = [97, 112, 112]
  · subst h6
    go_enter Try.func37, Try.ntmps37
    go_wp2
    go_ret
    exact ⟨rfl, rfl⟩
  by_cases h7 : l = [108, 101, 116]
  · subst h7
    go_enter Try.func37, Try.ntmps37
    go_wp2
    go_ret
    exact ⟨rfl, rfl⟩
  by_cases h8 : l = [102, 105, 120]
  · subst h8
    go_enter Try.func37, Try.ntmps37
    go_wp2
    go_ret
    exact ⟨rfl, rfl⟩
  by_cases h9 : l = [105, 102]
  · subst h9
    go_enter Try.func37, Try.ntmps37
    go_wp2
    go_ret
    exact ⟨rfl, rfl⟩
  by_cases h10 : l = [112, 97, 105, 114]
  · subst h10
    go_enter Try.func37, Try.ntmps37
    go_wp2
    go_ret
    exact ⟨rfl, rfl⟩
  by_cases h11 : l = [102, 115, 116]
  · subst h11
    go_enter Try.func37, Try.ntmps37
    go_wp2
    go_ret
    exact ⟨rfl, rfl⟩
  by_cases h12 : l = [115, 110, 100]
  · subst h12
    go_enter Try.func37, Try.ntmps37
    go_wp2
    go_ret
    exact ⟨rfl, rfl⟩
  by_cases h13 : l = [110, 105, 108]
  · subst h13
    go_enter Try.func37, Try.ntmps37
    go_wp2
    go_ret
    exact ⟨rfl, rfl⟩
  by_cases h14 : l = [99, 111, 110, 115]
  · subst h14
    go_enter Try.func37, Try.ntmps37
    go_wp2
    go_ret
    exact ⟨rfl, rfl⟩
  by_cases h15 : l = [99, 97, 115, 101]
  · subst h15
    go_enter Try.func37, Try.ntmps37
    go_wp2
    go_ret
    exact ⟨rfl, rfl⟩
  by_cases h16 : l = [111, 112]
  · subst h16
    go_enter Try.func37, Try.ntmps37
    go_wp2
    go_ret
    exact ⟨rfl, rfl⟩
  by_cases h17 : l = [114, 97, 105, 115, 101]
  · subst h17
    go_enter Try.func37, Try.ntmps37
    go_wp2
    go_ret
    exact ⟨rfl, rfl⟩
  by_cases h18 : l = [116, 114, 121]
  · subst h18
    go_enter Try.func37, Try.ntmps37
    go_wp2
    go_ret
    exact ⟨rfl, rfl⟩
  have b1 : (l == [110]) = false := by rw [beq_eq_false_iff_ne]; exact h1
  have b2 : (l == [116]) = false := by rw [beq_eq_false_iff_ne]; exact h2
  have b3 : (l == [117]) = false := by rw [beq_eq_false_iff_ne]; exact h3
  have b4 : (l == [118]) = false := by rw [beq_eq_false_iff_ne]; exact h4
  have b5 : (l == [102, 110]) = false := by rw [beq_eq_false_iff_ne]; exact h5
  have b6 : (l == [97, 112, 112]) = false := by rw [beq_eq_false_iff_ne]; exact h6
  have b7 : (l == [108, 101, 116]) = false := by rw [beq_eq_false_iff_ne]; exact h7
  have b8 : (l == [102, 105, 120]) = false := by rw [beq_eq_false_iff_ne]; exact h8
  have b9 : (l == [105, 102]) = false := by rw [beq_eq_false_iff_ne]; exact h9
  have b10 : (l == [112, 97, 105, 114]) = false := by rw [beq_eq_false_iff_ne]; exact h10
  have b11 : (l == [102, 115, 116]) = false := by rw [beq_eq_false_iff_ne]; exact h11
  have b12 : (l == [115, 110, 100]) = false := by rw [beq_eq_false_iff_ne]; exact h12
  have b13 : (l == [110, 105, 108]) = false := by rw [beq_eq_false_iff_ne]; exact h13
  have b14 : (l == [99, 111, 110, 115]) = false := by rw [beq_eq_false_iff_ne]; exact h14
  have b15 : (l == [99, 97, 115, 101]) = false := by rw [beq_eq_false_iff_ne]; exact h15
  have b16 : (l == [111, 112]) = false := by rw [beq_eq_false_iff_ne]; exact h16
  have b17 : (l == [114, 97, 105, 115, 101]) = false := by rw [beq_eq_false_iff_ne]; exact h17
  have b18 : (l == [116, 114, 121]) = false := by rw [beq_eq_false_iff_ne]; exact h18
  have HT : Hid (kindW l = 0) := by show _ = _; unfold kindW; rw [if_neg h1, if_neg h2, if_neg h3, if_neg h4, if_neg h5, if_neg h6, if_neg h7, if_neg h8, if_neg h9, if_neg h10, if_neg h11, if_neg h12, if_neg h13, if_neg h14, if_neg h15, if_neg h16, if_neg h17, if_neg h18]
  clear h1 h2 h3 h4 h5 h6 h7 h8 h9 h10 h11 h12 h13 h14 h15 h16 h17 h18
  go_enter Try.func37, Try.ntmps37
  go_wp2
  go_ret
  exact ⟨ret_int HT.out.symm, rfl⟩

/-! strings.CutPrefix at one byte. -/

def cutM (l : List UInt8) : List UInt8 × Bool := match l with
  | 45 :: r => (r, true)
  | _ => (l, false)

theorem ext1 (s : ByteArray) : (s.extract 0 1).toList = (sb s).take 1 := by
  rw [ByteArray.toList_eq, ByteArray.data_extract, Array.toList_extract]
  simp [sb, List.extract_eq_take_drop]

set_option maxRecDepth 100000 in
set_option maxHeartbeats 2000000 in
theorem hasPrefix_any (s : ByteArray) (w : World) (hl : s.size ≤ 1048577) :
    Calls Try.prog 70 #[.string s, .string ⟨#[45]⟩] w fun e w' => e = .returned (.bool (cutM (sb s)).2) ∧ w' = w := by
  have HL : Hid ((sb s).length = s.size) := sb_len s
  have hx := ext1 s
  by_cases h0 : s.size = 0
  · have HN : Hid ((cutM (sb s)).2 = false) := by
      show _ = _
      rw [List.length_eq_zero_iff.1 (HL.out.trans h0)]
      rfl
    have hge : decide ((1 : Int) ≤ (s.size : Int)) = false := by rw [decide_eq_false_iff_not]; omega
    go_enter Try.func70, Try.ntmps70
    go_wp2_with fail
    go_ret
    exact ⟨ret_bool HN.out.symm, rfl⟩
  · have HC : Hid (((sb s).take 1 == [45]) = (cutM (sb s)).2) := by
      show _ = _
      cases hs : sb s with
      | nil => have := HL.out; rw [hs] at this; simp at this; omega
      | cons b r =>
        by_cases hb : b = 45
        · subst hb; rfl
        · have e : (cutM (b :: r)).2 = false := by
            unfold cutM
            split
            · rename_i heq; exact (hb (List.cons.inj heq).1).elim
            · rfl
          rw [e, beq_eq_false_iff_ne]
          simpa using hb
    have hge : decide ((1 : Int) ≤ (s.size : Int)) = true := by rw [decide_eq_true_eq]; omega
    obtain ⟨c, hc⟩ : ∃ c, c = ((sb s).take 1 == [45]) := ⟨_, rfl⟩
    have hcc : ((s.extract 0 1).toList == [45]) = c := by rw [hx, hc]
    have HC2 : Hid (c = (cutM (sb s)).2) := by show _ = _; rw [hc, HC.out]
    clear hc hx
    go_enter Try.func70, Try.ntmps70
    go_wp2_with fail
    go_ret
    exact ⟨ret_bool HC2.out, rfl⟩

theorem ext_rest (s : ByteArray) : sb (s.extract 1 s.size) = (sb s).drop 1 := by
  unfold sb
  rw [ByteArray.data_extract, Array.toList_extract]
  have : s.data.toList.length = s.size := Array.length_toList
  simp only [List.extract_eq_take_drop]
  rw [List.take_of_length_le]
  rw [List.length_drop]
  omega

set_option maxRecDepth 100000 in
set_option maxHeartbeats 2000000 in
theorem cutPrefix_any (s : ByteArray) (w : World) (hl : s.size ≤ 1048577) :
    Calls Try.prog 58 #[.string s, .string ⟨#[45]⟩] w fun e w' => ∃ r : ByteArray, e = .returned (.tuple #[.string r, .bool (cutM (sb s)).2]) ∧ w' = w ∧ sb r = (cutM (sb s)).1 ∧ r.size ≤ 1048577 := by
  have HL : Hid ((sb s).length = s.size) := sb_len s
  have H : Calls Try.prog 65 #[.string s, .string ⟨#[45]⟩] w fun e w' => ∃ r : ByteArray, e = .returned (.tuple #[.string r, .bool (cutM (sb s)).2]) ∧ w' = w ∧ sb r = (cutM (sb s)).1 ∧ r.size ≤ 1048577 := by
    cases hc : (cutM (sb s)).2 with
    | false =>
      have HE : Hid ((cutM (sb s)).1 = sb s) := by
        show _ = _
        unfold cutM at hc ⊢
        split at hc
        · cases hc
        · rfl
      go_enter Try.func65, Try.ntmps65
      go_wp2_with fail
      refine (hasPrefix_any s _ hl).mono ?_
      rintro e w1 ⟨rfl, rfl⟩
      rw [hc]
      go_wp2_with fail
      refine bodyPost_ret (v := .tuple #[.string s, .bool false]) (by simp [results, Try.results65, go_sem]) rfl ⟨s, rfl, rfl, HE.out.symm, hl⟩
    | true =>
      have HE : Hid ((cutM (sb s)).1 = (sb s).drop 1 ∧ 1 ≤ s.size) := by
        show _ ∧ _
        rw [← HL.out]
        unfold cutM at hc ⊢
        split at hc
        · rename_i r heq; rw [heq]; simp
        · cases hc
      have hs1 := HE.out.2
      go_enter Try.func65, Try.ntmps65
      go_wp2_with fail
      refine (hasPrefix_any s _ hl).mono ?_
      rintro e w1 ⟨rfl, rfl⟩
      rw [hc]
      go_wp2_with fail
      refine bodyPost_ret (v := .tuple #[.string (s.extract 1 s.size), .bool true]) (by simp [results, Try.results65, go_sem]) rfl ⟨_, rfl, rfl, (ext_rest s).trans HE.out.1.symm, ?_⟩
      have h2 := congrArg List.length (ext_rest s)
      rw [sb_len, List.length_drop, HL.out] at h2
      omega
  go_enter Try.func58, Try.ntmps58
  go_wp2_with fail
  refine H.mono ?_
  rintro e w1 ⟨r, rfl, rfl, h1, h2⟩
  go_wp2_with fail
  refine bodyPost_ret (v := .tuple #[.string r, .bool (cutM (sb s)).2]) (by simp [results, Try.results58, go_sem]) rfl ⟨r, rfl, rfl, h1, h2⟩

theorem first45 (l : List UInt8) : (∃ r, l = 45 :: r) ∨ (cutM l = (l, false) ∧ sgnR l = (digR l).map (fun n : Nat => (n : Int))) := by
  cases l with
  | nil => exact Or.inr ⟨rfl, rfl⟩
  | cons b r =>
    by_cases hb : b = 45
    · subst hb; exact Or.inl ⟨r, rfl⟩
    · refine Or.inr ⟨?_, ?_⟩
      · unfold cutM
        split
        · rename_i heq; exact (hb (List.cons.inj heq).1).elim
        · rfl
      · unfold sgnR
        split
        · rename_i heq; exact (hb (List.cons.inj heq).1).elim
        · rfl
theorem sgnR_cut (l : List UInt8) : sgnR l = match (cutM l).2, digR (cutM l).1 with
    | true, some n => if n = 0 then none else some (-(n : Int))
    | false, some n => some (n : Int)
    | _, none => none := by
  rcases first45 l with ⟨r, rfl⟩ | ⟨h1, h2⟩
  · show (match digR r with | some n => if n = 0 then none else some (-(n : Int)) | none => none) = match true, digR r with | true, some n => if n = 0 then none else some (-(n : Int)) | false, some n => some (n : Int) | _, none => none
    cases digR r <;> rfl
  · rw [h1, h2]
    show (digR l).map (fun n : Nat => (n : Int)) = match false, digR l with | true, some n => if n = 0 then none else some (-(n : Int)) | false, some n => some (n : Int) | _, none => none
    cases digR l <;> rfl

theorem tk_size (x : List UInt8) : (⟨x.toArray⟩ : ByteArray).size = x.length := by simp [ByteArray.size]
theorem sb_tk (x : List UInt8) : sb ⟨x.toArray⟩ = x := by simp [sb]

/-- What a reader of a number comes to. -/
def NumEnd (f : Rr Int) (lo : Int) (L B : Nat) (w w' : World) (e : Ending) (p : Nat) (ao : Option Addr) (len cap : Nat) (T : List (List UInt8)) (a : Nat) (bad : Bool) : Prop :=
  ∃ n a' bad', e = .returned (.int .i64 n) ∧ w.grownBy w' (some p) ∧ Rdm L B w' p ao len cap a' bad' T ∧ RdO f T a bad n a' bad' ∧ lo ≤ n ∧ n < 10000000

set_option maxRecDepth 100000 in
set_option maxHeartbeats 2000000 in
theorem count_any (p : Nat) (ao : Option Addr) (len cap a L B : Nat) (bad : Bool) (T : List (List UInt8)) (w : World) (hT : ∀ x ∈ T, x.length ≤ 1048577) (h : Rdm L B w p ao len cap a bad T) :
    Calls Try.prog 53 #[.pointer (some ⟨p, 0, none⟩)] w fun e w' => NumEnd (tokR.bind fun y => Rr.opt (cntR y)) 0 L B w w' e p ao len cap T a bad := by
  go_enter Try.func53, Try.ntmps53
  go_wp2_with fail
  refine (token_any p ao len cap a L B bad T _ hT h).mono ?_
  rintro e w1 ⟨x, a1, b1, rfl, hg1, hR1, hO1, hx⟩
  have hsz := tk_size x
  unfold tk
  go_wp2_with fail
  refine (readDigits_any ⟨x.toArray⟩ _ (by omega)).mono ?_
  rintro e w2 ⟨rfl, rfl⟩
  rw [sb_tk]
  obtain ⟨f0, f1, f2⟩ := box_cells hR1.row
  have f3 := row_free hR1.row
  have HO : ∀ n : Int, (∀ y, cntR x = some y → n = y) → RdO (tokR.bind fun y => Rr.opt (cntR y)) T a bad n a1 (b1 || (cntR x).isNone) := fun n hn => rdo_bind hO1 (rdo_opt hn)
  cases hd : digR x with
  | none =>
    have hc : cntR x = none := by unfold cntR; rw [hd]; rfl
    have H := HO 0 (fun y hy => by rw [hc] at hy; cases hy)
    rw [hc] at H
    have e1 : (b1 || (none : Option Int).isNone) = true := by simp
    rw [e1] at H
    have HH : Hid (RdO (tokR.bind fun y => Rr.opt (cntR y)) T a bad 0 a1 true) := H
    clear HO hO1 H hd hc e1
    simp only [Option.getD_none, Option.isSome_none]
    go_wp2_with fail
    go_ret
    exact ⟨0, a1, true, rfl, gr_set hg1, hR1.setB true, HH.out, by omega, by omega⟩
  | some n =>
    have hc : cntR x = some (n : Int) := by unfold cntR; rw [hd]; rfl
    have H := HO n (fun y hy => by rw [hc] at hy; injection hy)
    rw [hc] at H
    have e1 : (b1 || (some (n : Int)).isNone) = b1 := by simp
    rw [e1] at H
    have HH : Hid (RdO (tokR.bind fun y => Rr.opt (cntR y)) T a bad n a1 b1) := H
    have hn := (digR_some hd).2
    clear HO hO1 H hd hc e1
    simp only [Option.getD_some, Option.isSome_some]
    go_wp2_with fail
    go_ret
    exact ⟨n, a1, b1, rfl, hg1, hR1, HH.out, by omega, by omega⟩

set_option maxRecDepth 100000 in
set_option maxHeartbeats 4000000 in
theorem signed_any (p : Nat) (ao : Option Addr) (len cap a L B : Nat) (bad : Bool) (T : List (List UInt8)) (w : World) (hT : ∀ x ∈ T, x.length ≤ 1048577) (h : Rdm L B w p ao len cap a bad T) :
    Calls Try.prog 52 #[.pointer (some ⟨p, 0, none⟩)] w fun e w' => NumEnd (tokR.bind fun y => Rr.opt (sgnR y)) (-10000000) L B w w' e p ao len cap T a bad := by
  go_enter Try.func52, Try.ntmps52
  go_wp2_with fail
  refine (token_any p ao len cap a L B bad T _ hT h).mono ?_
  rintro e w1 ⟨x, a1, b1, rfl, hg1, hR1, hO1, hx⟩
  have hsz := tk_size x
  unfold tk
  go_wp2_with fail
  refine (cutPrefix_any ⟨x.toArray⟩ _ (by omega)).mono ?_
  rintro e w2 ⟨r, rfl, rfl, hr, hrs⟩
  rw [sb_tk x] at hr ⊢
  have HR : Hid (digR (sb r) = digR (cutM x).1) := by show _ = _; rw [hr]
  clear hr
  go_wp2_with fail
  refine (readDigits_any r _ hrs).mono ?_
  rintro e w3 ⟨rfl, rfl⟩
  rw [HR.out]
  obtain ⟨f0, f1, f2⟩ := box_cells hR1.row
  have f3 := row_free hR1.row
  have hsc := sgnR_cut x
  have HO : ∀ (n : Int) (o : Option Int), sgnR x = o → (∀ y, o = some y → n = y) → RdO (tokR.bind fun y => Rr.opt (sgnR y)) T a bad n a1 (b1 || o.isNone) := fun n o ho hn => by
    have := rdo_bind (g := fun y => Rr.opt (sgnR y)) hO1 (rdo_opt (T := T) (a := a1) (b := b1) (o := sgnR x) (x := n) (by rw [ho]; exact hn))
    rw [ho] at this
    exact this
  have HB : Hid ((b1 || (none : Option Int).isNone) = true) := by show _ = _; simp
  have HB2 : ∀ n : Int, Hid ((b1 || (some n).isNone) = b1) := fun n => by show _ = _; simp
  cases hd : digR (cutM x).1 with
  | none =>
    rw [hd] at hsc
    cases hc : (cutM x).2 with
    | true =>
      rw [hc] at hsc
      have HH : Hid (RdO (tokR.bind fun y => Rr.opt (sgnR y)) T a bad (-0) a1 (b1 || (none : Option Int).isNone)) := HO _ none hsc (fun y hy => by cases hy)
      rw [HB.out] at HH
      clear HO hO1 hd hc hsc HB HB2
      simp only [Option.getD_none, Option.isSome_none]
      go_wp2_with fail
      go_ret
      exact ⟨-0, a1, true, rfl, gr_set hg1, hR1.setB true, HH.out, by omega, by omega⟩
    | false =>
      rw [hc] at hsc
      have HH : Hid (RdO (tokR.bind fun y => Rr.opt (sgnR y)) T a bad 0 a1 (b1 || (none : Option Int).isNone)) := HO _ none hsc (fun y hy => by cases hy)
      rw [HB.out] at HH
      clear HO hO1 hd hc hsc HB HB2
      simp only [Option.getD_none, Option.isSome_none]
      go_wp2_with fail
      go_ret
      exact ⟨0, a1, true, rfl, gr_set hg1, hR1.setB true, HH.out, by omega, by omega⟩
  | some n =>
    have hn := (digR_some hd).2
    rw [hd] at hsc
    cases hc : (cutM x).2 with
    | true =>
      rw [hc] at hsc
      by_cases hz : n = 0
      · subst hz
        have hsc : sgnR x = none := hsc
        have HH : Hid (RdO (tokR.bind fun y => Rr.opt (sgnR y)) T a bad (-0) a1 (b1 || (none : Option Int).isNone)) := HO _ none hsc (fun y hy => by cases hy)
        rw [HB.out] at HH
        clear HO hO1 hd hc hsc HB HB2
        simp only [Option.getD_some, Option.isSome_some]
        go_wp2_with fail
        go_ret
        exact ⟨-0, a1, true, rfl, gr_set hg1, hR1.setB true, HH.out, by omega, by omega⟩
      · have hsc : sgnR x = some (-(n : Int)) := hsc.trans (if_neg hz)
        have HH : Hid (RdO (tokR.bind fun y => Rr.opt (sgnR y)) T a bad (-(n : Int)) a1 (b1 || (some (-(n : Int))).isNone)) := HO _ _ hsc (fun y hy => by injection hy)
        rw [(HB2 _).out] at HH
        have hz' : ((n : Int) == 0) = false := by rw [beq_eq_false_iff_ne]; omega
        clear HO hO1 hd hc hsc HB HB2
        simp only [Option.getD_some, Option.isSome_some]
        go_wp2_with fail
        go_ret
        exact ⟨-(n : Int), a1, b1, rfl, hg1, hR1, HH.out, by omega, by omega⟩
    | false =>
      rw [hc] at hsc
      have hsc : sgnR x = some (n : Int) := hsc
      have HH : Hid (RdO (tokR.bind fun y => Rr.opt (sgnR y)) T a bad (n : Int) a1 (b1 || (some (n : Int)).isNone)) := HO _ _ hsc (fun y hy => by injection hy)
      rw [(HB2 _).out] at HH
      clear HO hO1 hd hc hsc HB HB2
      simp only [Option.getD_some, Option.isSome_some]
      go_wp2_with fail
      go_ret
      exact ⟨(n : Int), a1, b1, rfl, hg1, hR1, HH.out, by omega, by omega⟩

end Go.Proofs.Ythmmapahobkhnaa

/-
  What the model's 'l1Text' comes to: the text of a type that is right.
-/
namespace Go.Proofs.Ythmmapahobkhnaa
open Go.RowKit
set_option linter.unusedVariables false
set_option linter.unusedSimpArgs false

theorem str_add (a b : List UInt8) : (⟨a.toArray⟩ : ByteArray) ++ ⟨b.toArray⟩ = ⟨(a ++ b).toArray⟩ := by
  apply ByteArray.ext
  simp

end Go.Proofs.Ythmmapahobkhnaa

/-
  The model's 'l2Int': a number as text; 'l2Word'.
-/
namespace Go.Proofs.Ythmmapahobkhnaa
open Go.RowKit
set_option linter.unusedVariables false
set_option linter.unusedSimpArgs false

theorem conv_any (w : World) (g : Nat) (b : UInt8) (x : Int) (hx : x = (b.toNat : Int)) (hc : w.cell? ⟨g, 0, none⟩ = some (.int .u8 x)) : (convert 72 9 (.slice (some ⟨g, 0, none⟩) 1 1)).run Try.prog w = .ok (.string ⟨#[b]⟩) w := by
  refine run_convert_bytes_back _ _ _ _ ⟨g, 0, none⟩ 1 [b] Try.underlying72 Try.underlying5 Try.underlying9 ?_
  intro j hj
  have hj0 : j = 0 := by simpa using hj
  subst hj0
  show w.cell? ⟨g, 0, none⟩ = _
  rw [hc, hx]
  rfl

set_option maxRecDepth 100000 in
set_option maxHeartbeats 1000000 in
theorem li_ten (u : Nat) (hu : u < 10) (w : World) : Calls Try.prog 33 #[.int .i64 (u : Int)] w fun e w' => e = .returned (.string ⟨(Lib.decDigits u).toArray⟩) ∧ Below w.heap.size w w' := by
  have h : u = 0 ∨ u = 1 ∨ u = 2 ∨ u = 3 ∨ u = 4 ∨ u = 5 ∨ u = 6 ∨ u = 7 ∨ u = 8 ∨ u = 9 := by omega
  have HD : Hid (Lib.decDigits u = [UInt8.ofNat (48 + u)]) := Lib.decDigits_one hu
  clear hu
  rcases h with rfl | rfl | rfl | rfl | rfl | rfl | rfl | rfl | rfl | rfl
  · have hcv := conv_any (w.alloc (.cells #[.int .u8 48] 5)) w.heap.size 48 48 rfl (row_cell (heap_new rfl) 0)
    go_enter Try.func33, Try.ntmps33
    go_wp2_with fail
    go_ret
    exact ⟨by rw [HD.out]; rfl, (Below.refl _ _).alloc (Nat.le_refl _) _⟩
  · have hcv := conv_any (w.alloc (.cells #[.int .u8 49] 5)) w.heap.size 49 49 rfl (row_cell (heap_new rfl) 0)
    go_enter Try.func33, Try.ntmps33
    go_wp2_with fail
    go_ret
    exact ⟨by rw [HD.out]; rfl, (Below.refl _ _).alloc (Nat.le_refl _) _⟩
  · have hcv := conv_any (w.alloc (.cells #[.int .u8 50] 5)) w.heap.size 50 50 rfl (row_cell (heap_new rfl) 0)
    go_enter Try.func33, Try.ntmps33
    go_wp2_with fail
    go_ret
    exact ⟨by rw [HD.out]; rfl, (Below.refl _ _).alloc (Nat.le_refl _) _⟩
  · have hcv := conv_any (w.alloc (.cells #[.int .u8 51] 5)) w.heap.size 51 51 rfl (row_cell (heap_new rfl) 0)
    go_enter Try.func33, Try.ntmps33
    go_wp2_with fail
    go_ret
    exact ⟨by rw [HD.out]; rfl, (Below.refl _ _).alloc (Nat.le_refl _) _⟩
  · have hcv := conv_any (w.alloc (.cells #[.int .u8 52] 5)) w.heap.size 52 52 rfl (row_cell (heap_new rfl) 0)
    go_enter Try.func33, Try.ntmps33
    go_wp2_with fail
    go_ret
    exact ⟨by rw [HD.out]; rfl, (Below.refl _ _).alloc (Nat.le_refl _) _⟩
  · have hcv := conv_any (w.alloc (.cells #[.int .u8 53] 5)) w.heap.size 53 53 rfl (row_cell (heap_new rfl) 0)
    go_enter Try.func33, Try.ntmps33
    go_wp2_with fail
    go_ret
    exact ⟨by rw [HD.out]; rfl, (Below.refl _ _).alloc (Nat.le_refl _) _⟩
  · have hcv := conv_any (w.alloc (.cells #[.int .u8 54] 5)) w.heap.size 54 54 rfl (row_cell (heap_new rfl) 0)
    go_enter Try.func33, Try.ntmps33
    go_wp2_with fail
    go_ret
    exact ⟨by rw [HD.out]; rfl, (Below.refl _ _).alloc (Nat.le_refl _) _⟩
  · have hcv := conv_any (w.alloc (.cells #[.int .u8 55] 5)) w.heap.size 55 55 rfl (row_cell (heap_new rfl) 0)
    go_enter Try.func33, Try.ntmps33
    go_wp2_with fail
    go_ret
    exact ⟨by rw [HD.out]; rfl, (Below.refl _ _).alloc (Nat.le_refl _) _⟩
  · have hcv := conv_any (w.alloc (.cells #[.int .u8 56] 5)) w.heap.size 56 56 rfl (row_cell (heap_new rfl) 0)
    go_enter Try.func33, Try.ntmps33
    go_wp2_with fail
    go_ret
    exact ⟨by rw [HD.out]; rfl, (Below.refl _ _).alloc (Nat.le_refl _) _⟩
  · have hcv := conv_any (w.alloc (.cells #[.int .u8 57] 5)) w.heap.size 57 57 rfl (row_cell (heap_new rfl) 0)
    go_enter Try.func33, Try.ntmps33
    go_wp2_with fail
    go_ret
    exact ⟨by rw [HD.out]; rfl, (Below.refl _ _).alloc (Nat.le_refl _) _⟩

set_option maxRecDepth 100000 in
set_option maxHeartbeats 1000000 in
theorem li_big (q r : Nat) (hr : r < 10) (hq : 1 ≤ q) (h6 : 10 * q + r ≤ 1000000) (u : Nat) (hu : u = 10 * q + r) (IH : ∀ w, Calls Try.prog 33 #[.int .i64 (q : Int)] w fun e w' => e = .returned (.string ⟨(Lib.decDigits q).toArray⟩) ∧ Below w.heap.size w w') (w : World) : Calls Try.prog 33 #[.int .i64 (u : Int)] w fun e w' => e = .returned (.string ⟨(Lib.decDigits u).toArray⟩) ∧ Below w.heap.size w w' := by
  have h10 : ¬ (u : Int) < 10 := by omega
  have h0 : ¬ (u : Int) < 0 := by omega
  have wq : IntKind.i64.wrap ((u : Int) / 10) = (q : Int) := by rw [IntKind.wrap_i64]; omega
  have wr : (u : Int).tmod 10 = (r : Int) := by rw [Int.tmod_eq_emod_of_nonneg (by omega)]; omega
  have wr2 : IntKind.i64.wrap (48 + (r : Int)) = 48 + (r : Int) := by rw [IntKind.wrap_i64]; omega
  have wr3 : IntKind.u8.wrap (48 + (r : Int)) = 48 + (r : Int) := by simp [IntKind.wrap, IntKind.bits, IntKind.signed]; omega
  have HD : Hid (Lib.decDigits u = Lib.decDigits q ++ [UInt8.ofNat (48 + r)]) := by
    show _ = _
    rw [Lib.decDigits, dif_neg (by omega), show u / 10 = q by omega, show u % 10 = r by omega]
  have hb : (48 + (r : Int)) = ((UInt8.ofNat (48 + r)).toNat : Int) := by
    rw [UInt8.toNat_ofNat']; omega
  generalize UInt8.ofNat (48 + r) = b at HD hb
  have CV : Hid (∀ W : World, W.cell? ⟨w.heap.size, 0, none⟩ = some (.int .u8 (48 + (r : Int))) → (convert 72 9 (.slice (some ⟨w.heap.size, 0, none⟩) 1 1)).run Try.prog W = .ok (.string ⟨#[b]⟩) W) := fun W hc => conv_any W _ b _ hb hc
  have CV1 : Hid (∀ W : World, (convert 72 9 (.slice (some ⟨W.heap.size, 0, none⟩) 1 1)).run Try.prog (W.alloc (.cells #[.int .u8 (48 + (r : Int))] 5)) = .ok (.string ⟨#[b]⟩) (W.alloc (.cells #[.int .u8 (48 + (r : Int))] 5))) := fun W => conv_any _ _ b _ hb (row_cell (heap_new rfl) 0)
  have hcv := CV.out (w.alloc (.cells #[.int .u8 (48 + (r : Int))] 5)).drew (row_cell (w := w.alloc (.cells #[.int .u8 (48 + (r : Int))] 5)) (heap_new rfl) 0)
  have HBD : Hid (Below w.heap.size w w.drew) := ⟨rfl, rfl, rfl, Nat.le_refl _, fun _ _ => rfl⟩
  have hln : ¬ 9223372036854775807 < (Lib.decDigits q).length + 1 := by
    have h := Lib.itoa_length_le (q : Int) (by omega) (by omega)
    rw [Lib.itoa_nonneg] at h
    omega
  clear hb hu hq h6
  go_enter Try.func33, Try.ntmps33
  go_wp2_with fail
  go_region_law (go_simp; go_at_call 33; refine (IH _).mono ?_; rintro e w5 ⟨rfl, hb5⟩; have hcv5 := CV1.out w5; first | (have hd5 := HBD.out.trans (hb5.mono HBD.out.size)) | (have hd5 := (HBD.out.alloc (Nat.le_refl _) _).trans (hb5.mono (by simp)); have hcv6 := CV.out w5 ((hb5.cell (by simp)).trans (row_cell (heap_new rfl) 0))))
  all_goals
    go_wp2_with fail
    go_ret
    exact ⟨by rw [HD.out, ← str_add]; rfl, by first | exact hd5 | exact hd5.alloc hd5.size _⟩

theorem li_nat (u : Nat) (h6 : u ≤ 1000000) (w : World) : Calls Try.prog 33 #[.int .i64 (u : Int)] w fun e w' => e = .returned (.string ⟨(Lib.decDigits u).toArray⟩) ∧ Below w.heap.size w w' := by
  induction u using Nat.strongRecOn generalizing w with
  | _ u ih =>
    by_cases hu : u < 10
    · exact li_ten u hu w
    · exact li_big (u / 10) (u % 10) (by omega) (by omega) (by omega) u (by omega) (fun W => ih (u / 10) (by omega) (by omega) W) w

set_option maxRecDepth 100000 in
set_option maxHeartbeats 1000000 in
theorem li_neg (u : Nat) (h1 : 1 ≤ u) (h6 : u ≤ 1000000) (w : World) : Calls Try.prog 33 #[.int .i64 (-(u : Int))] w fun e w' => e = .returned (.string ⟨(45 :: Lib.decDigits u).toArray⟩) ∧ Below w.heap.size w w' := by
  have h0 : (-(u : Int)) < 0 := by omega
  have wq : IntKind.i64.wrap (u : Int) = (u : Int) := by rw [IntKind.wrap_i64]; omega
  have hln : ¬ 9223372036854775807 < 1 + (Lib.decDigits u).length := by
    have h := Lib.itoa_length_le (u : Int) (by omega) (by omega)
    rw [Lib.itoa_nonneg] at h
    omega
  have K := li_nat u h6
  clear h1 h6
  go_enter Try.func33, Try.ntmps33
  go_wp2_with fail
  refine (K _).mono ?_
  rintro e w1 ⟨rfl, hb1⟩
  go_wp2_with fail
  go_ret
  exact ⟨by rw [show (45 :: Lib.decDigits u) = [45] ++ Lib.decDigits u from rfl, ← str_add]; rfl, hb1⟩

theorem li_any (n : Int) (h0 : -1000000 ≤ n) (h1 : n ≤ 1000000) (w : World) : Calls Try.prog 33 #[.int .i64 n] w fun e w' => e = .returned (.string ⟨(Lib.itoa n).toArray⟩) ∧ Below w.heap.size w w' := by
  by_cases hn : n < 0
  · obtain ⟨u, rfl⟩ : ∃ u : Nat, n = -(u : Int) := ⟨n.natAbs, by omega⟩
    rw [Lib.itoa_neg u (by omega)]
    exact li_neg u (by omega) (by omega) w
  · obtain ⟨u, rfl⟩ : ∃ u : Nat, n = (u : Int) := ⟨n.toNat, by omega⟩
    rw [Lib.itoa_nonneg]
    exact li_nat u (by omega) w

end Go.Proofs.Ythmmapahobkhnaa
