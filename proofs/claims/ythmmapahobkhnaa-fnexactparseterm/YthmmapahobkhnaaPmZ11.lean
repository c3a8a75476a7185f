/-
  The program's reader of terms: one token, digits, numbers, signs, kinds.
-/
import Derived.Test.YthmmapahobkhnaaPmPmL
import Derived.Lib.Bytealg
import Derived.BigQuiet
namespace Go.Proofs.Ythmmapahobkhnaa
open Go.RowKit
set_option linter.unusedVariables false
set_option linter.unusedSimpArgs false

/-- The reader in block p: its tokens, where it is, whether anything was wrong. -/
structure Rdm (L B : Nat) (w : World) (p : Nat) (ao : Option Addr) (len cap a : Nat) (bad : Bool) (T : List (List UInt8)) : Prop where
  row : w.heap[p]? = some (.cells #[.slice ao len cap, .int .i64 a, .bool bad] 44 (0, 0))
  toks : Stx L B w ao len T
  le : a ≤ len
  sm : len ≤ 1048577
  lo : B ≤ p

theorem Rdm.lt {L B : Nat} {w : World} {p : Nat} {ao : Option Addr} {len cap a : Nat} {bad : Bool} {T : List (List UInt8)} (h : Rdm L B w p ao len cap a bad T) : p < w.heap.size := (Array.getElem?_eq_some_iff.1 h.row).1
theorem Rdm.below {L B : Nat} {w w' : World} {p : Nat} {ao : Option Addr} {len cap a : Nat} {bad : Bool} {T : List (List UInt8)} (h : Rdm L B w p ao len cap a bad T) (hb : Below w.heap.size w w') : Rdm L B w' p ao len cap a bad T :=
  ⟨(hb.block p h.lt).trans h.row, h.toks.below hb (by have := h.lt; have := h.lo; omega), h.le, h.sm, h.lo⟩
theorem Stx.setm {L B : Nat} {w : World} {ao : Option Addr} {len : Nat} {T : List (List UInt8)} (h : Stx L B w ao len T) {p : Nat} (hB : B ≤ p) (o : Nat) (v : Value) : Stx L B (w.setCell ⟨p, o, none⟩ v) ao len T := by
  refine ⟨h.1, fun i hi => ?_⟩
  obtain ⟨b, o', e, h1, h2, h3⟩ := h.2 i hi
  exact ⟨b, o', e, h1, h2, (World.cell?_of_block (a := ⟨b, o' + i, none⟩) (row_other _ _ _ (show b ≠ p by omega))).trans h3⟩
theorem Rdm.setA {L B : Nat} {w : World} {p : Nat} {ao : Option Addr} {len cap a : Nat} {bad : Bool} {T : List (List UInt8)} (h : Rdm L B w p ao len cap a bad T) (a' : Nat) (ha : a' ≤ len) : Rdm L B (w.setCell ⟨p, 1, none⟩ (.int .i64 a')) p ao len cap a' bad T :=
  ⟨by rw [row_set h.row]; rfl, h.toks.setm h.lo _ _, ha, h.sm, h.lo⟩
theorem Rdm.setB {L B : Nat} {w : World} {p : Nat} {ao : Option Addr} {len cap a : Nat} {bad : Bool} {T : List (List UInt8)} (h : Rdm L B w p ao len cap a bad T) (bad' : Bool) : Rdm L B (w.setCell ⟨p, 2, none⟩ (.bool bad')) p ao len cap a bad' T :=
  ⟨by rw [row_set h.row]; rfl, h.toks.setm h.lo _ _, h.le, h.sm, h.lo⟩

theorem gr_set {w w' : World} {p o : Nat} {v : Value} (h : w.grownBy w' (some p)) : w.grownBy (w'.setCell ⟨p, o, none⟩ v) (some p) :=
  ⟨h.os, h.tape, h.output, by simpa using h.size, fun k hk hne => (row_other _ _ _ (by simpa using hne)).trans (h.block k hk hne)⟩
theorem gr_refl (w : World) (r : Option Nat) : w.grownBy w r := ⟨rfl, rfl, rfl, Nat.le_refl _, fun _ _ _ => rfl⟩
theorem gr_trans {w w' w'' : World} {r : Option Nat} (h : w.grownBy w' r) (k : w'.grownBy w'' r) : w.grownBy w'' r :=
  ⟨k.os.trans h.os, k.tape.trans h.tape, k.output.trans h.output, Nat.le_trans h.size k.size, fun i hi hne => (k.block i (Nat.lt_of_lt_of_le hi h.size) hne).trans (h.block i hi hne)⟩
theorem gr_below {w w' : World} {r : Option Nat} (h : Below w.heap.size w w') : w.grownBy w' r := ⟨h.os, h.tape, h.output, h.size, fun k hk _ => h.block k hk⟩

/-- What a reader comes to, from a on: where nothing was wrong ahead of it, what the plain reader reads; once wrong, wrong. -/
def RdO {α : Type} (f : Rr α) (T : List (List UInt8)) (a : Nat) (bad : Bool) (v : α) (a' : Nat) (bad' : Bool) : Prop :=
  (bad = true → bad' = true) ∧ (bad = false → match f (T.drop a) with
    | none => bad' = true
    | some (x, u) => bad' = false ∧ v = x ∧ a' = a + u)

theorem rdo_bind {α β : Type} {f : Rr α} {g : α → Rr β} {T : List (List UInt8)} {a a1 a2 : Nat} {b b1 b2 : Bool} {x : α} {y : β} (h1 : RdO f T a b x a1 b1) (h2 : RdO (g x) T a1 b1 y a2 b2) : RdO (f.bind g) T a b y a2 b2 := by
  refine ⟨fun h => h2.1 (h1.1 h), fun h => ?_⟩
  have k1 := h1.2 h
  unfold Rr.bind
  cases hf : f (T.drop a) with
  | none => rw [hf] at k1; exact h2.1 k1
  | some p =>
    obtain ⟨x', u⟩ := p
    rw [hf] at k1
    obtain ⟨k2, rfl, rfl⟩ := k1
    have k3 := h2.2 k2
    simp only [List.drop_drop]
    cases hg : g x (T.drop (a + u)) with
    | none => rw [hg] at k3; simp only [hg]; exact k3
    | some q =>
      obtain ⟨y', v⟩ := q
      rw [hg] at k3
      obtain ⟨k4, rfl, rfl⟩ := k3
      simp only [hg]
      first | exact ⟨k4, trivial, by omega⟩ | exact ⟨k4, rfl, by omega⟩
theorem rdo_ret {α : Type} (x : α) (T : List (List UInt8)) (a : Nat) (b : Bool) : RdO (Rr.ret x) T a b x a b := ⟨fun h => h, fun h => ⟨h, rfl, rfl⟩⟩
theorem rdo_opt {α : Type} {o : Option α} {x : α} {T : List (List UInt8)} {a : Nat} {b : Bool} (h : ∀ y, o = some y → x = y) : RdO (Rr.opt o) T a b x a (b || o.isNone) := by
  refine ⟨fun h => by rw [h]; rfl, fun hb => ?_⟩
  cases o with
  | none => show (b || true) = true; simp
  | some y => exact ⟨by rw [hb]; rfl, h y rfl, rfl⟩

set_option maxRecDepth 100000 in
set_option maxHeartbeats 2000000 in
theorem token_end (p : Nat) (ao : Option Addr) (len cap L B : Nat) (bad : Bool) (T : List (List UInt8)) (w : World) (h : Rdm L B w p ao len cap len bad T) :
    Calls Try.prog 35 #[.pointer (some ⟨p, 0, none⟩)] w fun e w' => e = .returned (.string ⟨#[]⟩) ∧ w.grownBy w' (some p) ∧ Rdm L B w' p ao len cap len true T := by
  obtain ⟨f0, f1, f2⟩ := box_cells h.row
  have f3 := row_free h.row
  have hge : ((len : Int) == (len : Int)) = true := by simp
  have hl := h.sm
  go_enter Try.func35, Try.ntmps35
  go_wp2_with fail
  go_quiet (fail)
  go_wp2_with fail
  go_ret
  have h2 : Rdm L B (w.drewN nq) p ao len cap len bad T := ⟨h.row, h.toks, h.le, h.sm, h.lo⟩
  have hg : w.grownBy (w.drewN nq) (some p) := ⟨rfl, rfl, rfl, Nat.le_refl _, fun _ _ _ => rfl⟩
  exact ⟨rfl, gr_set hg, h2.setB true⟩

set_option maxRecDepth 100000 in
set_option maxHeartbeats 2000000 in
theorem token_tok (p : Nat) (ao : Option Addr) (len cap a L B : Nat) (bad : Bool) (T : List (List UInt8)) (w : World) (h : Rdm L B w p ao len cap a bad T) (ha : a < len) (haT : a < T.length) :
    Calls Try.prog 35 #[.pointer (some ⟨p, 0, none⟩)] w fun e w' => e = .returned (tk T[a]) ∧ w.grownBy w' (some p) ∧ Rdm L B w' p ao len cap (a + 1) bad T := by
  obtain ⟨f0, f1, f2⟩ := box_cells h.row
  have f3 := row_free h.row
  have hge : ((a : Int) == (len : Int)) = false := by rw [beq_eq_false_iff_ne]; omega
  have hl := h.sm
  go_enter Try.func35, Try.ntmps35
  go_wp2_with fail
  go_quiet (fail)
  have h2 : Rdm L B (w.drewN nq) p ao len cap a bad T := ⟨h.row, h.toks, h.le, h.sm, h.lo⟩
  have hg : w.grownBy (w.drewN nq) (some p) := ⟨rfl, rfl, rfl, Nat.le_refl _, fun _ _ _ => rfl⟩
  generalize w.drewN nq = W at *
  clear f0 f1 f2 f3
  obtain ⟨f0, f1, f2⟩ := box_cells h2.row
  have f3 := row_free h2.row
  have h3 : Rdm L B (W.setCell ⟨p, 1, none⟩ (.int .i64 ((a : Int) + 1))) p ao len cap (a + 1) bad T := h2.setA (a + 1) (by omega)
  have hg3 : w.grownBy (W.setCell ⟨p, 1, none⟩ (.int .i64 ((a : Int) + 1))) (some p) := gr_set hg
  go_wp2_with fail
  generalize W.setCell ⟨p, 1, none⟩ (.int .i64 ((a : Int) + 1)) = V at *
  clear f0 f1 f2 f3
  obtain ⟨f0, f1, f2⟩ := box_cells h3.row
  obtain ⟨b, o, rfl, hLb, hbB, hc⟩ := h3.toks.2 a haT
  have HTK : Hid (tk T[a] = .string ⟨T[a].toArray⟩) := rfl
  unfold tk at hc
  have hbV : b < V.heap.size := by have := h3.lt; have := h3.lo; omega
  have hjI : (0 : Int) ≤ (a : Int) := by omega
  have hjl : (a : Int) < (len : Int) := by omega
  have e1 : (((a + 1 : Nat) : Int) - 1) = a := by omega
  have e2 : ((a : Int) + 1 - 1) = a := by omega
  go_quiet (fail)
  go_wp2_with fail
  go_ret
  exact ⟨rfl, ⟨hg3.os, hg3.tape, hg3.output, hg3.size, hg3.block⟩, ⟨h3.row, h3.toks, h3.le, h3.sm, h3.lo⟩⟩

theorem token_any (p : Nat) (ao : Option Addr) (len cap a L B : Nat) (bad : Bool) (T : List (List UInt8)) (w : World) (hT : ∀ x ∈ T, x.length ≤ 1048577) (h : Rdm L B w p ao len cap a bad T) :
    Calls Try.prog 35 #[.pointer (some ⟨p, 0, none⟩)] w fun e w' => ∃ x a' bad', e = .returned (tk x) ∧ w.grownBy w' (some p) ∧ Rdm L B w' p ao len cap a' bad' T ∧ RdO tokR T a bad x a' bad' ∧ x.length ≤ 1048577 := by
  by_cases ha : a < len
  · have haT : a < T.length := by have := h.toks.1; omega
    refine (token_tok p ao len cap a L B bad T w h ha haT).mono ?_
    rintro e w' ⟨rfl, hg, hR⟩
    refine ⟨_, _, _, rfl, hg, hR, ⟨fun hb => hb, fun hb => ?_⟩, hT _ (List.getElem_mem haT)⟩
    rw [List.drop_eq_getElem_cons haT]
    exact ⟨hb, rfl, rfl⟩
  · obtain rfl : a = len := by have := h.le; omega
    refine (token_end p ao a cap L B bad T w h).mono ?_
    rintro e w' ⟨rfl, hg, hR⟩
    refine ⟨[], _, _, rfl, hg, hR, ⟨fun _ => rfl, fun hb => ?_⟩, by simp⟩
    rw [List.drop_eq_nil_of_le (by have := h.toks.1; omega)]
    rfl

end Go.Proofs.Ythmmapahobkhnaa

/-
  The program's reader of terms: digits, numbers with a sign, signs of ops, words.
-/
namespace Go.Proofs.Ythmmapahobkhnaa
open Go.RowKit Go.PlainAid
set_option linter.unusedVariables false
set_option linter.unusedSimpArgs false

theorem bt_sb (s : ByteArray) (k : Nat) (h : k < (sb s).length) : bt s k = ((sb s)[k].toNat : Int) := by
  have hk : k < s.size := by rw [sb_len] at h; exact h
  unfold bt
  rw [dif_pos hk]
  simp only [sb, Array.getElem_toList]
  rfl

theorem val_take (l : List UInt8) (i : Nat) (h : i < l.length) : valD (l.take (i + 1)) = 10 * valD (l.take i) + (l[i].toNat - 48) := by
  rw [List.take_succ_eq_append_getElem h, valD_snoc]
theorem take_all (l : List UInt8) (i : Nat) (h : i < l.length) : (l.take (i + 1)).all dgB = ((l.take i).all dgB && dgB l[i]) := by
  rw [List.take_succ_eq_append_getElem h, List.all_append]; simp
theorem take_lt (l : List UInt8) (i : Nat) (h : (l.take i).all dgB = true) (hi : i ≤ 7) : valD (l.take i) < 10000000 := by
  have := val_lt _ h
  have h2 : (l.take i).length ≤ 7 := by rw [List.length_take]; omega
  have h10 : 10 ^ (l.take i).length ≤ 10 ^ 7 := Nat.pow_le_pow_right (by omega) h2
  omega
theorem not_all (l : List UInt8) (i : Nat) (h : i < l.length) (hd : dgB l[i] = false) : l.all dgB = false := by
  rw [Bool.eq_false_iff]
  intro h1
  have := List.all_eq_true.1 h1 l[i] (List.getElem_mem h)
  rw [hd] at this
  cases this

theorem digR_no {l : List UInt8} (h : l = [] ∨ 7 < l.length ∨ leadB l = false ∨ l.all dgB = false) : digR l = none := by
  unfold digR
  rw [if_neg]
  intro hc
  simp only [Bool.and_eq_true, decide_eq_true_eq] at hc
  obtain ⟨⟨⟨h1, h2⟩, h3⟩, h4⟩ := hc
  rcases h with h | h | h | h
  · exact h1 h
  · omega
  · rw [h] at h3; cases h3
  · rw [h] at h4; cases h4
theorem digR_yes {l : List UInt8} (h1 : l ≠ []) (h2 : l.length ≤ 7) (h3 : leadB l = true) (h4 : l.all dgB = true) : digR l = some (valD l) := by
  unfold digR
  rw [if_pos (by simp [h1, h2, h3, h4])]

set_option maxRecDepth 100000 in
set_option maxHeartbeats 2000000 in
theorem readDigits_any (s : ByteArray) (w : World) (hl : s.size ≤ 1048577) :
    Calls Try.prog 59 #[.string s, .int .i64 7] w fun e w' => e = .returned (.tuple #[.int .i64 (((digR (sb s)).getD 0 : Nat) : Int), .bool (digR (sb s)).isSome]) ∧ w' = w := by
  have hb := get_bt s
  have hb0 := bt_nonneg s 0
  have HL : Hid ((sb s).length = s.size) := sb_len s
  have HB : Hid (∀ k (h : k < (sb s).length), bt s k = ((sb s)[k].toNat : Int)) := bt_sb s
  by_cases h0 : s.size = 0
  · have HN : Hid (digR (sb s) = none) := digR_no (Or.inl (List.length_eq_zero_iff.1 (HL.out.trans h0)))
    have hz : (s.toList == ([] : List UInt8)) = true := by
      rw [ByteArray.toList_eq]
      have : s.data.toList = [] := List.length_eq_zero_iff.1 (HL.out.trans h0)
      rw [this]; rfl
    clear h0
    rw [HN.out]
    go_enter Try.func59, Try.ntmps59
    go_wp2_with fail
    refine bodyPost_ret (v := .tuple #[.int .i64 0, .bool false]) (by simp [results, Try.results59, go_sem]) rfl ⟨rfl, rfl⟩
  have hz : (s.toList == ([] : List UInt8)) = false := by
    rw [beq_eq_false_iff_ne, ByteArray.toList_eq]
    intro e
    have := congrArg List.length e
    exact h0 (HL.out.symm.trans this)
  by_cases h7 : 7 < s.size
  · have HN : Hid (digR (sb s) = none) := digR_no (Or.inr (Or.inl (by rw [HL.out]; exact h7)))
    rw [HN.out]
    go_enter Try.func59, Try.ntmps59
    go_wp2_with fail
    refine bodyPost_ret (v := .tuple #[.int .i64 0, .bool false]) (by simp [results, Try.results59, go_sem]) rfl ⟨rfl, rfl⟩
  have HH : Hid ((sb s).head? = some 48 ↔ bt s 0 = 48) := by
    have h1 : 0 < (sb s).length := by rw [HL.out]; omega
    have e := HB.out 0 h1
    have e2 : (sb s).head? = some (sb s)[0] := by rw [List.head?_eq_getElem?, List.getElem?_eq_getElem h1]
    rw [e2, e]
    constructor
    · intro h; injection h with h; rw [h]; rfl
    · intro h
      have : (sb s)[0].toNat = 48 := by omega
      have : (sb s)[0] = 48 := UInt8.toNat_inj.1 this
      rw [this]
  by_cases hlead : bt s 0 = 48 ∧ 1 < s.size
  · have HN : Hid (digR (sb s) = none) := digR_no (Or.inr (Or.inr (Or.inl (by
      have h2 := HH.out.2 hlead.1
      have h3 := hlead.2
      rw [← HL.out] at h3
      simp only [leadB, h2, ne_eq, not_true, decide_false, Bool.or_false, decide_eq_false_iff_not]
      omega))))
    obtain ⟨c1, c2⟩ := hlead
    have c1' : (bt s 0 == 48) = true := by simp [c1]
    rw [HN.out]
    clear HH
    go_enter Try.func59, Try.ntmps59
    go_wp2_with fail
    refine bodyPost_ret (v := .tuple #[.int .i64 0, .bool false]) (by simp [results, Try.results59, go_sem]) rfl ⟨rfl, rfl⟩
  have HLd : Hid (leadB (sb s) = true) := by
    show _ = _
    simp only [leadB, Bool.or_eq_true, decide_eq_true_eq]
    by_cases c : 1 < s.size
    · right; intro h; exact hlead ⟨HH.out.1 h, c⟩
    · left; rw [HL.out]; omega
  have HNE : Hid (sb s ≠ []) := fun e => h0 (by have := congrArg List.length e; rw [HL.out] at this; exact this)
  have HNO : Hid (∀ k (h : k < (sb s).length), dgB (sb s)[k] = false → digR (sb s) = none) := fun k h hd => digR_no (Or.inr (Or.inr (Or.inr (not_all _ k h hd))))
  have hor : (bt s 0 == 48) = false ∨ (bt s 0 == 48) = true ∧ ¬ 1 < s.size := by
    by_cases c : bt s 0 = 48
    · right; exact ⟨by simp [c], fun h => hlead ⟨c, h⟩⟩
    · left; rw [beq_eq_false_iff_ne]; exact c
  clear hlead HH
  rcases hor with hor | ⟨hor, hor1⟩
  all_goals
    go_enter Try.func59, Try.ntmps59
    go_wp2_with fail
    go_loopw [6, 28] (fun n i wr => ∃ k : Nat, k ≤ s.size ∧ i = .int .i64 k ∧ n = .int .i64 ((valD ((sb s).take k) : Nat) : Int) ∧ Hid (((sb s).take k).all dgB = true) ∧ wr = w) (fun _ i _ => s.size - (intOf i).toNat)
    case atStart => exact ⟨0, by omega, rfl, rfl, rfl, rfl⟩
    case round =>
      obtain ⟨k, hk, rfl, rfl, HA, rfl⟩ := hrel
      by_cases hlt : k < s.size
      · have hlt' : k < (sb s).length := by rw [HL.out]; exact hlt
        have HS : Hid (((sb s).take (k + 1)).all dgB = (((sb s).take k).all dgB && dgB (sb s)[k])) := take_all _ k hlt'
        have HV : Hid (valD ((sb s).take (k + 1)) = 10 * valD ((sb s).take k) + ((sb s)[k].toNat - 48)) := val_take _ k hlt'
        have hv := take_lt (sb s) k HA.out (by omega)
        have hbk := bt_nonneg s k
        obtain ⟨x, hx⟩ : ∃ x, x = bt s k := ⟨_, rfl⟩
        have hbk' : ((s[k]'hlt).toNat : Int) = x := by rw [hx]; exact hb k hlt
        have HX : Hid (x = ((sb s)[k].toNat : Int)) := hx.trans (HB.out k hlt')
        rw [← hx] at hbk
        have hx255 : x ≤ 255 := by rw [hx]; exact bt_le s k
        have HD : Hid (dgB (sb s)[k] = decide (48 ≤ x ∧ x ≤ 57)) := by
          show _ = _
          rw [HX.out]
          unfold dgB
          rw [decide_eq_decide]
          omega
        have HNk : Hid (dgB (sb s)[k] = false → digR (sb s) = none) := HNO.out k hlt'
        obtain ⟨V, hV⟩ : ∃ V, V = valD ((sb s).take k) := ⟨_, rfl⟩
        rw [← hV] at hv HV
        have HVV : Hid (V = valD ((sb s).take k)) := hV
        rw [← hV]
        clear hx hb hV hor
        by_cases c1 : x < 48
        · have HN : Hid (digR (sb s) = none) := HNk.out (by rw [HD.out, decide_eq_false_iff_not]; omega)
          go_wp2_with fail
          refine bodyPost_ret (v := .tuple #[.int .i64 0, .bool false]) (by simp [results, Try.results59, go_sem]) rfl ⟨by rw [HN.out]; rfl, rfl⟩
        by_cases c2 : 57 < x
        · have HN : Hid (digR (sb s) = none) := HNk.out (by rw [HD.out, decide_eq_false_iff_not]; omega)
          go_wp2_with fail
          refine bodyPost_ret (v := .tuple #[.int .i64 0, .bool false]) (by simp [results, Try.results59, go_sem]) rfl ⟨by rw [HN.out]; rfl, rfl⟩
        go_wp2_with fail
        go_roundw
        case rel => exact ⟨k + 1, by omega, by go_num, (by rw [HV.out]; have := HX.out; go_num), (by show _ = _; rw [HS.out, HA.out, HD.out]; simp; omega), (by trivial)⟩
        case measure => simp [intOf]; omega
      · have hke : k = s.size := by omega
        have HT : Hid ((sb s).take k = sb s) := by show _ = _; exact List.take_of_length_le (by rw [HL.out]; omega)
        have HN : Hid (digR (sb s) = some (valD (sb s))) := digR_yes HNE.out (by rw [HL.out]; omega) HLd.out (by have := HA.out; rw [HT.out] at this; exact this)
        rw [HT.out] at *
        clear hke
        go_wp2_with fail
        refine bodyPost_ret (v := .tuple #[.int .i64 ((valD (sb s) : Nat) : Int), .bool true]) (by simp [results, Try.results59, go_sem]) rfl ⟨by rw [HN.out]; rfl, rfl⟩

end Go.Proofs.Ythmmapahobkhnaa
