/-
  What the program's 'isName', 'namesOk', 'sameTyNode' (against the zero type), 'typesOk' come to.
-/
import Derived.Test.YtgckmnchlkgakaaLmbTn
namespace Go.Proofs.Ytgckmnchlkgakaa
open Go.RowKit Go.PlainAid
set_option linter.unusedVariables false
set_option linter.unusedSimpArgs false

theorem nameW_size {s : ByteArray} (h : ¬ (1 ≤ s.size ∧ s.size ≤ 8)) : nameW s = false := by
  unfold nameW; rw [Bool.eq_false_iff]; intro h1; simp only [Bool.and_eq_true, decide_eq_true_eq] at h1; omega
theorem nameW_first {s : ByteArray} (h : isLow (bt s 0) = false) : nameW s = false := by simp [nameW, h]
theorem nameW_all {s : ByteArray} (h1 : 1 ≤ s.size) (h8 : s.size ≤ 8) (h : isLow (bt s 0) = true) : nameW s = allB s s.size chOk := by simp [nameW, h1, h8, h]
theorem isLow_yes {x : Int} (h : 97 ≤ x) (h' : x ≤ 122) : isLow x = true := by simp [isLow]; omega
theorem isLow_no {x : Int} (h : ¬ (97 ≤ x ∧ x ≤ 122)) : isLow x = false := by simp only [isLow, decide_eq_false_iff_not]; exact h

set_option maxHeartbeats 1000000 in
theorem isName_any (s : ByteArray) (w : World) (hs : s.size ≤ 9223372036854775807) : Calls Try.prog 102 #[.string s] w fun e w' => e = .returned (.bool (nameW s)) ∧ w' = w := by
  have hb := get_bt s
  have hb0 := bt_nonneg s 0
  by_cases h0 : s.size = 0
  · have HN : Hid (nameW s = false) := nameW_size (by omega)
    have hz : ((s.size : Int) == 0) = true := by simp [h0]
    clear h0
    go_enter Try.func102, Try.ntmps102
    go_wp2_with fail
    go_ret
    exact ⟨ret_bool HN.out.symm, rfl⟩
  have hz : ((s.size : Int) == 0) = false := by rw [beq_eq_false_iff_ne]; omega
  by_cases h8 : 8 < s.size
  · have HN : Hid (nameW s = false) := nameW_size (by omega)
    go_enter Try.func102, Try.ntmps102
    go_wp2_with fail
    go_ret
    exact ⟨ret_bool HN.out.symm, rfl⟩
  by_cases hlo : bt s 0 < 97
  · have HN : Hid (nameW s = false) := nameW_first (isLow_no (by omega))
    go_enter Try.func102, Try.ntmps102
    go_wp2_with fail
    go_ret
    exact ⟨ret_bool HN.out.symm, rfl⟩
  by_cases hhi : 122 < bt s 0
  · have HN : Hid (nameW s = false) := nameW_first (isLow_no (by omega))
    go_enter Try.func102, Try.ntmps102
    go_wp2_with fail
    go_ret
    exact ⟨ret_bool HN.out.symm, rfl⟩
  have HN : Hid (nameW s = allB s s.size chOk) := nameW_all (by omega) (by omega) (isLow_yes (by omega) (by omega))
  go_enter Try.func102, Try.ntmps102
  go_wp2_with fail
  go_loopw [26] (fun i wr => ∃ k : Nat, k ≤ s.size ∧ i = .int .i64 k ∧ Hid (allB s k chOk = true) ∧ wr = w) (fun i _ => s.size - (intOf i).toNat)
  case atStart => exact ⟨0, by omega, rfl, rfl, rfl⟩
  case round =>
    obtain ⟨k, hk, rfl, HA, rfl⟩ := hrel
    by_cases hlt : k < s.size
    · have HS : Hid (allB s (k + 1) chOk = (allB s k chOk && chOk (bt s k))) := allB_succ s k chOk
      have HF : Hid (chOk (bt s k) = false → allB s s.size chOk = false) := fun hf => allB_false k hlt hf
      have hbk := bt_nonneg s k
      obtain ⟨x, hx⟩ : ∃ x, x = bt s k := ⟨_, rfl⟩
      have hbk' : ((s[k]'hlt).toNat : Int) = x := by rw [hx]; exact hb k hlt
      have HX : Hid (x = bt s k) := hx
      rw [← hx] at HS HF hbk
      clear hx hb
      by_cases c1 : 97 ≤ x
      all_goals by_cases c2 : x ≤ 122
      all_goals by_cases c3 : 48 ≤ x
      all_goals by_cases c4 : x ≤ 57
      all_goals by_cases c5 : x = 46
      all_goals try omega
      all_goals
        first
          | (have hyes : Hid (chOk x = true) := (by show chOk x = true; simp only [chOk, isLow, isDig, Bool.or_eq_true, decide_eq_true_eq]; omega)
             go_wp2_with fail
             go_roundw
             case rel => exact ⟨k + 1, by omega, by go_num, (by show _ = _; rw [HS.out, HA.out, hyes.out]; rfl), (by trivial)⟩
             case measure => simp [intOf]; omega)
          | (have hno : Hid (chOk x = false) := (by show chOk x = false; rw [Bool.eq_false_iff]; intro hc; simp only [chOk, isLow, isDig, Bool.or_eq_true, decide_eq_true_eq] at hc; omega)
             go_wp2_with fail
             go_ret
             exact ⟨ret_bool (by rw [HN.out, HF.out hno.out]), rfl⟩)
    · have hke : k = s.size := by omega
      have HK : Hid (allB s s.size chOk = true) := by have := HA.out; rw [hke] at this; exact this
      clear hke
      go_wp2_with fail
      go_ret
      exact ⟨ret_bool (by rw [HN.out, HK.out]), rfl⟩

theorem isNil_size (s : ByteArray) : isNil s = decide (s.size = 0) := by
  unfold isNil
  rw [ByteArray.toList_eq, Bool.eq_iff_iff, List.isEmpty_iff, decide_eq_true_eq]
  have hl : s.data.toList.length = s.size := by cases s; rfl
  rw [← hl]
  exact List.length_eq_zero_iff.symm

set_option maxHeartbeats 1000000 in
theorem namesOk_any (n : Int) (k m : Int) (s z : ByteArray) (v4 v5 v6 v7 v8 : Value) (w : World) (hs : s.size ≤ 9223372036854775807) (hz : z.size ≤ 9223372036854775807) :
    Calls Try.prog 98 #[.agg #[.int .i64 k, .int .i64 m, .string s, .string z, v4, v5, v6, v7, v8], .int .i64 n] w fun e w' => e = .returned (.bool (namesB n s z)) ∧ Below w.heap.size w w' := by
  have hbel : Below w.heap.size w (w.alloc (.cells #[.int .i64 k, .int .i64 m, .string s, .string z, v4, v5, v6, v7, v8] 36)) := (Below.refl _ _).alloc (Nat.le_refl _) _
  by_cases h0 : n = 0
  · subst h0
    go_enter Try.func98, Try.ntmps98
    go_wp2_with fail
    all_goals
      go_ret
      exact ⟨ret_bool (by simp_all [namesB, isNil]), hbel⟩
  by_cases h1 : n = 1
  · subst h1
    clear h0
    cases h2 : nameW s
    all_goals
      have HN : Hid (nameW s = _) := h2
      clear h2
      go_enter Try.func98, Try.ntmps98
      go_wp2_with (go_at_call 102; refine (isName_any _ _ hs).mono ?_; rintro e w' ⟨rfl, rfl⟩; rw [HN.out])
      all_goals
        go_ret
        exact ⟨ret_bool (by have := HN.out; simp_all [namesB, isNil]), hbel⟩
  · have b0 : (n == 0) = false := beq_eq_false_iff_ne.2 h0
    have b1 : (n == 1) = false := beq_eq_false_iff_ne.2 h1
    have HB : Hid (namesB n s z = (nameW s && nameW z && !(s.toList == z.toList))) := by show _ = _; simp [namesB, h0, h1]
    clear h0 h1
    cases h2 : nameW s
    all_goals cases h3 : nameW z
    all_goals cases h4 : (s.toList == z.toList)
    all_goals
      have HN : Hid (nameW s = _) := h2
      have HN2 : Hid (nameW z = _) := h3
      have HN3 : Hid ((s.toList == z.toList) = _) := h4
      rw [h2, h3, h4] at HB
      clear h2 h3
      go_enter Try.func98, Try.ntmps98
      go_wp2_with fail
      refine (isName_any _ _ hs).mono ?_
      rintro e w' ⟨rfl, rfl⟩
      rw [HN.out]
      go_wp2_with fail
      try (refine (isName_any _ _ hz).mono ?_; rintro e w' ⟨rfl, rfl⟩; rw [HN2.out]; go_wp2_with fail)
      go_ret
      exact ⟨ret_bool (by rw [HB.out]; rfl), hbel⟩

set_option maxHeartbeats 1000000 in
theorem sameTyNode_zero (k n : Int) (ao : Option Addr) (len cap : Nat) (w : World) (hl : len ≤ 9223372036854775807) :
    Calls Try.prog 104 #[.agg #[.int .i64 k, .int .i64 n, .slice ao len cap], .agg #[.int .i64 0, .int .i64 0, .slice none 0 0]] w fun e w' => e = .returned (.bool ((k == 0) && (n == 0) && ((len : Int) == 0))) ∧ Below w.heap.size w w' := by
  have hbel : Below w.heap.size w ((w.alloc (.cells #[.int .i64 k, .int .i64 n, .slice ao len cap] 33)).alloc (.cells #[.int .i64 0, .int .i64 0, .slice none 0 0] 33)) := ((Below.refl _ _).alloc (Nat.le_refl _) _).alloc (by simp) _
  cases h1 : (k == 0)
  all_goals cases h2 : (n == 0)
  all_goals cases h3 : ((len : Int) == 0)
  all_goals
    go_enter Try.func104, Try.ntmps104
    go_wp2_with fail
    go_ret
    exact ⟨rfl, hbel⟩

/-- What 'typesOk' asks, but for the list Ts' own types. -/
def typesHead (typed : Bool) (ts : Int) (t : Tr) (n : Nat) : Bool := (if typed then okT t else zeroT t) && decide ((n : Int) ≤ ts)

theorem all_take {l : List Tr} {f : Tr → Bool} {k : Nat} (h : k < l.length) : (l.take (k + 1)).all f = ((l.take k).all f && f l[k]) := by
  rw [List.take_succ_eq_append_getElem h]; simp only [List.all_append, List.all_cons, List.all_nil, Bool.and_true]
theorem all_not {l : List Tr} {f : Tr → Bool} {k : Nat} (h : k < l.length) (hf : f l[k] = false) : l.all f = false := by
  rw [Bool.eq_false_iff]; intro h1
  have := List.all_eq_true.1 h1 l[k] (List.getElem_mem h)
  rw [hf] at this; cases this

set_option maxHeartbeats 1000000 in
theorem typesOk_any (D L B : Nat) (k m : Int) (s z : ByteArray) (tk tn : Int) (a1 : Option Addr) (l1 c1 : Nat) (a2 : Option Addr) (l2 c2 : Nat) (v8 : Value) (tA tS : List Tr) (n1 n2 n3 : Int) (typed : Bool) (ts n5 : Int) (w : World) (hts : 0 ≤ ts) (hts2 : ts ≤ 2)
    (hB : B ≤ w.heap.size) (h1 : Hs L B w D a1 l1 tA) (h2 : Hs L B w D a2 l2 tS) :
    Calls Try.prog 99 #[.agg #[.int .i64 k, .int .i64 m, .string s, .string z, .int .i64 tk, .int .i64 tn, .slice a1 l1 c1, .slice a2 l2 c2, v8], .agg #[.int .i64 n1, .int .i64 n2, .int .i64 n3, .bool typed, .int .i64 ts, .int .i64 n5]] w fun e w' => e = .returned (.bool (typesHead typed ts ⟨tk, tn, tA⟩ l2 && tS.all okT)) ∧ Below w.heap.size w w' := by
  have hl1 := h1.len.2
  have hl2 := h2.len.2
  have HL : Hid (l2 = tS.length) := h2.len.1
  have HL1 : Hid (l1 = tA.length) := h1.len.1
  obtain ⟨X, hX⟩ : ∃ X, X = ((w.alloc (.cells #[.int .i64 k, .int .i64 m, .string s, .string z, .int .i64 tk, .int .i64 tn, .slice a1 l1 c1, .slice a2 l2 c2, v8] 36)).alloc (.cells #[.int .i64 n1, .int .i64 n2, .int .i64 n3, .bool typed, .int .i64 ts, .int .i64 n5] 110)) := ⟨_, rfl⟩
  have hbel : Below w.heap.size w X := by rw [hX]; exact ((Below.refl _ _).alloc (Nat.le_refl _) _).alloc (by simp) _
  have hXs : X.heap.size = w.heap.size + 2 := by rw [hX]; simp
  have hX0 : X.heap[w.heap.size]? = some (.cells #[.int .i64 k, .int .i64 m, .string s, .string z, .int .i64 tk, .int .i64 tn, .slice a1 l1 c1, .slice a2 l2 c2, v8] 36 (0, 0)) := by
    rw [hX, Below.heap_alloc _ _ _ (by simp)]; exact heap_new rfl
  have hX1 : X.heap[w.heap.size + 1]? = some (.cells #[.int .i64 n1, .int .i64 n2, .int .i64 n3, .bool typed, .int .i64 ts, .int .i64 n5] 110 (0, 0)) := by
    rw [hX]; exact heap_new (by simp)
  have g1 := h1.below hbel hB
  have HX : Hid (X = _) := hX
  clear hX
  cases typed
  case' false =>
    have HT : Hid (∃ hd, typesHead false ts ⟨tk, tn, tA⟩ l2 = (hd && decide ((l2 : Int) ≤ ts)) ∧ ((tk == 0) && (tn == 0) && ((l1 : Int) == 0)) = hd) := ⟨zeroT ⟨tk, tn, tA⟩, rfl, by rw [HL1.out]; rfl⟩
    obtain ⟨hd, HT1, HT2⟩ := HT.out
    replace HT1 : Hid (_ = _) := HT1
    replace HT2 : Hid (_ = _) := HT2
    go_enter Try.func99, Try.ntmps99
    go_wp2_with fail
    rw [← HX.out]
    refine (sameTyNode_zero _ _ _ _ _ _ hl1).mono ?_
    rintro e w1 ⟨rfl, hb1⟩
    rw [HT2.out]
  case' true =>
    have HT : Hid (∃ hd, typesHead true ts ⟨tk, tn, tA⟩ l2 = (hd && decide ((l2 : Int) ≤ ts)) ∧ okT ⟨tk, tn, tA⟩ = hd) := ⟨okT ⟨tk, tn, tA⟩, rfl, rfl⟩
    obtain ⟨hd, HT1, HT2⟩ := HT.out
    replace HT1 : Hid (_ = _) := HT1
    replace HT2 : Hid (_ = _) := HT2
    go_enter Try.func99, Try.ntmps99
    go_wp2_with fail
    rw [← HX.out]
    refine (tyOk_any D L B _ _ _ _ _ tA _ (by omega) g1).mono ?_
    rintro e w1 ⟨rfl, hb1⟩
    rw [HT2.out]
  all_goals
    clear HT HT2
    have hz1 := hb1.size
    have hbw1 : Below w.heap.size w w1 := hbel.trans (hb1.mono (by omega))
    have y0 := (hb1.block _ (by omega)).trans hX0
    have y1 := (hb1.block _ (by omega)).trans hX1
    obtain ⟨f0, f1, f2, f3, f4, f5, f6, f7, f8⟩ := Nine.box y0
    have q3 := row_cell y1 3
    have q4 := row_cell y1 4
    simp only [List.getElem?_toArray, List.getElem?_cons_zero, List.getElem?_cons_succ] at q3 q4
    cases hd
    · go_wp2_with fail
      go_ret
      exact ⟨ret_bool (by rw [HT1.out]; rfl), hbw1⟩
    by_cases hgt : ts < l2
    · go_wp2_with fail
      go_ret
      exact ⟨ret_bool (by rw [HT1.out, decide_eq_false (by omega)]; rfl), hbw1⟩
    replace HT1 : Hid (_ = true) := HT1.out.trans (by rw [decide_eq_true (by omega)]; rfl)
    go_wp2_with fail
    go_loopw [38] (fun i wr => ∃ j : Nat, j ≤ l2 ∧ i = .int .i64 j ∧ Hid ((tS.take j).all okT = true) ∧ Below w1.heap.size w1 wr) (fun i _ => l2 - (intOf i).toNat)
    case atStart => exact ⟨0, by omega, rfl, rfl, Below.refl _ _⟩
    case round =>
      obtain ⟨j, hj, rfl, HA, hbr⟩ := hrel
      have hszr := hbr.size
      by_cases hlt : j < l2
      · have hlt' : j < tS.length := by have := HL.out; omega
        obtain ⟨b, o, rfl, _, hbB, ao1, len1, cap1, x0, x1, x2, hs1⟩ := h2.get j hlt'
        have hbw : Below w.heap.size w wr := hbw1.trans (hbr.mono (by omega))
        have e0 := (bcell hbw (by omega) _).trans x0
        have e1 := (bcell hbw (by omega) _).trans x1
        have e2 := (bcell hbw (by omega) _).trans x2
        have hba : Below w.heap.size w (wr.alloc (.cells #[.int .i64 tS[j].K, .int .i64 tS[j].N, .slice ao1 len1 cap1] 33)) := hbw.alloc (by omega) _
        have hs2 := hs1.below hba hB
        have HT : Hid ((tS.take (j + 1)).all okT = ((tS.take j).all okT && okT tS[j])) := all_take hlt'
        have HF : Hid (okT tS[j] = false → tS.all okT = false) := fun h => all_not hlt' h
        have HE : Hid (okT ⟨tS[j].K, tS[j].N, tS[j].A⟩ = okT tS[j]) := by show _ = _; rw [tr_eta]
        cases hok : okT tS[j]
        · rw [hok] at HE
          replace HF : Hid (_ = _) := HF.out hok
          clear hok
          go_wp2_with fail
          refine (tyOk_any _ _ _ _ _ _ _ _ _ _ (by simp; omega) hs2).mono ?_
          rintro e w2 ⟨rfl, hb2⟩
          rw [HE.out]
          go_wp2_with fail
          go_ret
          exact ⟨ret_bool (by rw [HF.out, Bool.and_false]), hba.trans (hb2.mono (by simp; omega))⟩
        · rw [hok] at HE HT
          clear hok
          go_wp2_with fail
          refine (tyOk_any _ _ _ _ _ _ _ _ _ _ (by simp; omega) hs2).mono ?_
          rintro e w2 ⟨rfl, hb2⟩
          rw [HE.out]
          have hbr2 : Below w1.heap.size w1 w2 := (hbr.alloc (by omega) _).trans (hb2.mono (by simp; omega))
          go_wp2_with fail
          go_roundw
          case rel => exact ⟨j + 1, by omega, by go_num, (by show _ = _; rw [HT.out, HA.out]; rfl), hbr2⟩
          case measure => simp [intOf]; omega
      · have HK : Hid (tS.all okT = true) := by have h1 := HL.out; have h2 := HA.out; rw [List.take_of_length_le (by omega)] at h2; exact h2
        go_wp2_with fail
        go_ret
        exact ⟨ret_bool (by rw [HT1.out, HK.out]; rfl), hbw1.trans (hbr.mono (by omega))⟩

end Go.Proofs.Ytgckmnchlkgakaa
