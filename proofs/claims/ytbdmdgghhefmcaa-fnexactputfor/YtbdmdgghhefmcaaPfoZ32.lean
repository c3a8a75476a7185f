/-
  What the model's 'l2Of', 'l2Number' come to.
-/
import Derived.Test.YtbdmdgghhefmcaaPfoZ31
import Derived.Test.YtbdmdgghhefmcaaPfoZ14
import Derived.Test.YtbdmdgghhefmcaaPfoZ24
import Derived.BigQuiet
import Derived.Deep.Cut
import Derived.Deep.CutRange
namespace Go.Proofs.Ytbdmdgghhefmcaa
open Go.RowKit Go.PlainAid
set_option linter.unusedVariables false
set_option linter.unusedSimpArgs false

def ofP (k : Int) : Int := if kOk k then shP k else -1
def ofN (k : Int) : Int := if k = 1 ∨ k = 2 ∨ k = 6 ∨ k = 7 ∨ k = 15 then 1 else 0
def ofS (k : Int) : Bool := decide (k = 3 ∨ k = 4 ∨ k = 6 ∨ k = 7 ∨ k = 14 ∨ k = 17)
def ofZ (k : Int) : Bool := decide (k = 14)

set_option maxHeartbeats 1000000 in
theorem l2Of_any (k : Int) (w : World) : Calls Try.prog 58 #[.int .i64 k] w fun e w' => e = .returned (.agg #[.int .i64 (ofP k), .int .i64 (ofN k), .bool (ofS k), .bool (ofZ k), .bool (shT k)]) ∧ Below w.heap.size w w' := by
  by_cases h1 : k = 1
  · subst h1; go_enter Try.func58, Try.ntmps58; go_wp2; refine bodyPost_ret (v := .agg #[.int .i64 0, .int .i64 1, .bool false, .bool false, .bool false]) (by simp [results, Try.results58, go_sem]) rfl ⟨rfl, ?_⟩; exact (Below.refl _ _).alloc (Nat.le_refl _) _
  by_cases h2 : k = 2
  · subst h2; go_enter Try.func58, Try.ntmps58; go_wp2; refine bodyPost_ret (v := .agg #[.int .i64 0, .int .i64 1, .bool false, .bool false, .bool false]) (by simp [results, Try.results58, go_sem]) rfl ⟨rfl, ?_⟩; exact (Below.refl _ _).alloc (Nat.le_refl _) _
  by_cases h3 : k = 3
  · subst h3; go_enter Try.func58, Try.ntmps58; go_wp2; refine bodyPost_ret (v := .agg #[.int .i64 0, .int .i64 0, .bool true, .bool false, .bool false]) (by simp [results, Try.results58, go_sem]) rfl ⟨rfl, ?_⟩; exact (Below.refl _ _).alloc (Nat.le_refl _) _
  by_cases h4 : k = 4
  · subst h4; go_enter Try.func58, Try.ntmps58; go_wp2; refine bodyPost_ret (v := .agg #[.int .i64 1, .int .i64 0, .bool true, .bool false, .bool true]) (by simp [results, Try.results58, go_sem]) rfl ⟨rfl, ?_⟩; exact (Below.refl _ _).alloc (Nat.le_refl _) _
  by_cases h5 : k = 5
  · subst h5; go_enter Try.func58, Try.ntmps58; go_wp2; refine bodyPost_ret (v := .agg #[.int .i64 2, .int .i64 0, .bool false, .bool false, .bool false]) (by simp [results, Try.results58, go_sem]) rfl ⟨rfl, ?_⟩; exact (Below.refl _ _).alloc (Nat.le_refl _) _
  by_cases h6 : k = 6
  · subst h6; go_enter Try.func58, Try.ntmps58; go_wp2; refine bodyPost_ret (v := .agg #[.int .i64 2, .int .i64 1, .bool true, .bool false, .bool false]) (by simp [results, Try.results58, go_sem]) rfl ⟨rfl, ?_⟩; exact (Below.refl _ _).alloc (Nat.le_refl _) _
  by_cases h7 : k = 7
  · subst h7; go_enter Try.func58, Try.ntmps58; go_wp2; refine bodyPost_ret (v := .agg #[.int .i64 2, .int .i64 1, .bool true, .bool false, .bool true]) (by simp [results, Try.results58, go_sem]) rfl ⟨rfl, ?_⟩; exact (Below.refl _ _).alloc (Nat.le_refl _) _
  by_cases h8 : k = 8
  · subst h8; go_enter Try.func58, Try.ntmps58; go_wp2; refine bodyPost_ret (v := .agg #[.int .i64 3, .int .i64 0, .bool false, .bool false, .bool false]) (by simp [results, Try.results58, go_sem]) rfl ⟨rfl, ?_⟩; exact (Below.refl _ _).alloc (Nat.le_refl _) _
  by_cases h9 : k = 9
  · subst h9; go_enter Try.func58, Try.ntmps58; go_wp2; refine bodyPost_ret (v := .agg #[.int .i64 2, .int .i64 0, .bool false, .bool false, .bool false]) (by simp [results, Try.results58, go_sem]) rfl ⟨rfl, ?_⟩; exact (Below.refl _ _).alloc (Nat.le_refl _) _
  by_cases h10 : k = 10
  · subst h10; go_enter Try.func58, Try.ntmps58; go_wp2; refine bodyPost_ret (v := .agg #[.int .i64 1, .int .i64 0, .bool false, .bool false, .bool false]) (by simp [results, Try.results58, go_sem]) rfl ⟨rfl, ?_⟩; exact (Below.refl _ _).alloc (Nat.le_refl _) _
  by_cases h11 : k = 11
  · subst h11; go_enter Try.func58, Try.ntmps58; go_wp2; refine bodyPost_ret (v := .agg #[.int .i64 1, .int .i64 0, .bool false, .bool false, .bool false]) (by simp [results, Try.results58, go_sem]) rfl ⟨rfl, ?_⟩; exact (Below.refl _ _).alloc (Nat.le_refl _) _
  by_cases h12 : k = 12
  · subst h12; go_enter Try.func58, Try.ntmps58; go_wp2; refine bodyPost_ret (v := .agg #[.int .i64 0, .int .i64 0, .bool false, .bool false, .bool true]) (by simp [results, Try.results58, go_sem]) rfl ⟨rfl, ?_⟩; exact (Below.refl _ _).alloc (Nat.le_refl _) _
  by_cases h13 : k = 13
  · subst h13; go_enter Try.func58, Try.ntmps58; go_wp2; refine bodyPost_ret (v := .agg #[.int .i64 2, .int .i64 0, .bool false, .bool false, .bool false]) (by simp [results, Try.results58, go_sem]) rfl ⟨rfl, ?_⟩; exact (Below.refl _ _).alloc (Nat.le_refl _) _
  by_cases h14 : k = 14
  · subst h14; go_enter Try.func58, Try.ntmps58; go_wp2; refine bodyPost_ret (v := .agg #[.int .i64 3, .int .i64 0, .bool true, .bool true, .bool false]) (by simp [results, Try.results58, go_sem]) rfl ⟨rfl, ?_⟩; exact (Below.refl _ _).alloc (Nat.le_refl _) _
  by_cases h15 : k = 15
  · subst h15; go_enter Try.func58, Try.ntmps58; go_wp2; refine bodyPost_ret (v := .agg #[.int .i64 2, .int .i64 1, .bool false, .bool false, .bool false]) (by simp [results, Try.results58, go_sem]) rfl ⟨rfl, ?_⟩; exact (Below.refl _ _).alloc (Nat.le_refl _) _
  by_cases h16 : k = 16
  · subst h16; go_enter Try.func58, Try.ntmps58; go_wp2; refine bodyPost_ret (v := .agg #[.int .i64 1, .int .i64 0, .bool false, .bool false, .bool true]) (by simp [results, Try.results58, go_sem]) rfl ⟨rfl, ?_⟩; exact (Below.refl _ _).alloc (Nat.le_refl _) _
  by_cases h17 : k = 17
  · subst h17; go_enter Try.func58, Try.ntmps58; go_wp2; refine bodyPost_ret (v := .agg #[.int .i64 2, .int .i64 0, .bool true, .bool false, .bool false]) (by simp [results, Try.results58, go_sem]) rfl ⟨rfl, ?_⟩; exact (Below.refl _ _).alloc (Nat.le_refl _) _
  have e1 : ofP k = -1 := by unfold ofP kOk; rw [decide_eq_false (by omega)]; rfl
  have e2 : ofN k = 0 := by unfold ofN; rw [if_neg (by omega)]
  have e3 : ofS k = false := by unfold ofS; rw [decide_eq_false (by omega)]
  have e4 : ofZ k = false := by unfold ofZ; rw [decide_eq_false (by omega)]
  have e5 : shT k = false := by unfold shT; rw [decide_eq_false (by omega)]
  rw [e1, e2, e3, e4, e5]
  have b1 : (k == 1) = false := beq_eq_false_iff_ne.2 h1
  have b2 : (k == 2) = false := beq_eq_false_iff_ne.2 h2
  have b3 : (k == 3) = false := beq_eq_false_iff_ne.2 h3
  have b4 : (k == 4) = false := beq_eq_false_iff_ne.2 h4
  have b5 : (k == 5) = false := beq_eq_false_iff_ne.2 h5
  have b6 : (k == 6) = false := beq_eq_false_iff_ne.2 h6
  have b7 : (k == 7) = false := beq_eq_false_iff_ne.2 h7
  have b8 : (k == 8) = false := beq_eq_false_iff_ne.2 h8
  have b9 : (k == 9) = false := beq_eq_false_iff_ne.2 h9
  have b10 : (k == 10) = false := beq_eq_false_iff_ne.2 h10
  have b11 : (k == 11) = false := beq_eq_false_iff_ne.2 h11
  have b12 : (k == 12) = false := beq_eq_false_iff_ne.2 h12
  have b13 : (k == 13) = false := beq_eq_false_iff_ne.2 h13
  have b14 : (k == 14) = false := beq_eq_false_iff_ne.2 h14
  have b15 : (k == 15) = false := beq_eq_false_iff_ne.2 h15
  have b16 : (k == 16) = false := beq_eq_false_iff_ne.2 h16
  have b17 : (k == 17) = false := beq_eq_false_iff_ne.2 h17
  clear e1 e2 e3 e4 e5 h1 h2 h3 h4 h5 h6 h7 h8 h9 h10 h11 h12 h13 h14 h15 h16 h17
  go_enter Try.func58, Try.ntmps58; go_wp2; refine bodyPost_ret (v := .agg #[.int .i64 (-1), .int .i64 0, .bool false, .bool false, .bool false]) (by simp [results, Try.results58, go_sem]) rfl ⟨rfl, ?_⟩; exact (Below.refl _ _).alloc (Nat.le_refl _) _

def numB (k n : Int) : Bool := inB n (shL k) (shM k)
set_option maxHeartbeats 1000000 in
theorem l2Number_any (k n : Int) (v2 v3 v4 v5 v6 v7 v8 : Value) (w : World) : Calls Try.prog 59 #[.agg #[.int .i64 k, .int .i64 n, v2, v3, v4, v5, v6, v7, v8]] w fun e w' => e = .returned (.bool (numB k n)) ∧ Below w.heap.size w w' := by
  have hb0 : Below w.heap.size w (w.alloc (.cells #[.int .i64 k, .int .i64 n, v2, v3, v4, v5, v6, v7, v8] 35)) := (Below.refl _ _).alloc (Nat.le_refl _) _
  by_cases h1 : k = 1
  · subst h1
    go_enter Try.func59, Try.ntmps59
    go_wp2_with fail
    refine (l1In_gen _ _ _ _).mono ?_
    rintro e w' ⟨rfl, rfl⟩
    go_wp2_with fail
    go_ret
    exact ⟨rfl, hb0⟩
  by_cases h2 : k = 2
  · subst h2
    go_enter Try.func59, Try.ntmps59
    go_wp2_with fail
    refine (l1In_gen _ _ _ _).mono ?_
    rintro e w' ⟨rfl, rfl⟩
    go_wp2_with fail
    go_ret
    exact ⟨rfl, hb0⟩
  by_cases h6 : k = 6
  · subst h6
    go_enter Try.func59, Try.ntmps59
    go_wp2_with fail
    refine (l1In_gen _ _ _ _).mono ?_
    rintro e w' ⟨rfl, rfl⟩
    go_wp2_with fail
    go_ret
    exact ⟨rfl, hb0⟩
  by_cases h7 : k = 7
  · subst h7
    go_enter Try.func59, Try.ntmps59
    go_wp2_with fail
    refine (l1In_gen _ _ _ _).mono ?_
    rintro e w' ⟨rfl, rfl⟩
    go_wp2_with fail
    go_ret
    exact ⟨rfl, hb0⟩
  by_cases h15 : k = 15
  · subst h15
    go_enter Try.func59, Try.ntmps59
    go_wp2_with fail
    refine (l1In_gen _ _ _ _).mono ?_
    rintro e w' ⟨rfl, rfl⟩
    go_wp2_with fail
    go_ret
    exact ⟨rfl, hb0⟩
  have HE : Hid (numB k n = (n == 0)) := by
    show _ = _
    have e1 : shL k = 0 := by unfold shL; rw [if_neg h1, if_neg h15]
    have e2 : shM k = 0 := by unfold shM; rw [if_neg h1, if_neg h2, if_neg (by omega), if_neg h15]
    unfold numB inB; rw [e1, e2, Bool.eq_iff_iff]; simp; omega
  have b1 : (k == 1) = false := beq_eq_false_iff_ne.2 h1
  have b2 : (k == 2) = false := beq_eq_false_iff_ne.2 h2
  have b6 : (k == 6) = false := beq_eq_false_iff_ne.2 h6
  have b7 : (k == 7) = false := beq_eq_false_iff_ne.2 h7
  have b15 : (k == 15) = false := beq_eq_false_iff_ne.2 h15
  clear h1 h2 h6 h7 h15
  go_enter Try.func59, Try.ntmps59
  go_wp2_with fail
  go_ret
  exact ⟨ret_bool HE.out.symm, hb0⟩

end Go.Proofs.Ytbdmdgghhefmcaa

/-
  What the model's 'SameTy' against the zero type comes to; and 'l2One' (one term, but for its parts).
-/
namespace Go.Proofs.Ytbdmdgghhefmcaa
open Go.RowKit Go.PlainAid
set_option linter.unusedVariables false
set_option linter.unusedSimpArgs false

set_option maxHeartbeats 1000000 in
theorem sSameTy_zero (k n : Int) (ao : Option Addr) (len cap : Nat) (w : World) (hl : len ≤ 9223372036854775807) :
    Calls Try.prog 62 #[.agg #[.int .i64 k, .int .i64 n, .slice ao len cap], .agg #[.int .i64 0, .int .i64 0, .slice none 0 0]] w fun e w' => e = .returned (.bool ((k == 0) && (n == 0) && ((len : Int) == 0))) ∧ Below w.heap.size w w' := by
  have hbel : Below w.heap.size w ((w.alloc (.cells #[.int .i64 k, .int .i64 n, .slice ao len cap] 32)).alloc (.cells #[.int .i64 0, .int .i64 0, .slice none 0 0] 32)) := ((Below.refl _ _).alloc (Nat.le_refl _) _).alloc (by simp) _
  cases h1 : (k == 0)
  case' false => have h1' : (k != 0) = true := (by simp only [bne, h1]; rfl)
  case' true => have h1' : (k != 0) = false := (by simp only [bne, h1]; rfl)
  all_goals cases h2 : (n == 0)
  all_goals (have h2' : (n != 0) = !(n == 0) := rfl; rw [h2] at h2')
  all_goals (by_cases h3 : len = 0)
  all_goals first
    | (subst h3
       go_enter Try.func62, Try.ntmps62
       go_wp2_with fail
       first
         | (go_ret; exact ⟨rfl, hbel⟩)
         | (refine wp_loop_rounds 1 ?_; rw [rounds_succ]; go_wp2_with fail; go_ret; exact ⟨rfl, hbel⟩))
    | (have h3' : ((len : Int) != 0) = true := (by simp; omega)
       have HF : Hid (((len : Int) == 0) = false) := (by show _ = _; rw [beq_eq_false_iff_ne]; omega)
       go_enter Try.func62, Try.ntmps62
       go_wp2_with fail
       go_ret
       exact ⟨ret_bool (by rw [HF.out]; simp), hbel⟩)

def bad2 (b1 b2 sB nS eS zB nZ eZ eq : Bool) : Bool := b1 || !b2 || (sB != nS) || (!sB && !eS) || (zB != nZ) || (!zB && !eZ) || (zB && eq)
def bad4 (tB ok zr g2 k3 g0 : Bool) : Bool := (tB != ok) || (!tB && !zr) || g2 || (k3 && g0)
theorem nameW_nil {s : ByteArray} (h : nameP false s = true) : s.toList.isEmpty = false := by
  have h1 : isNil s = decide (s.size = 0) := isNil_size s
  unfold isNil at h1
  rw [h1, decide_eq_false_iff_not]
  simp only [nameP, Bool.and_eq_true, decide_eq_true_eq] at h
  omega
theorem okT_zero {t : Tr} (h : okT t = true) : zeroT t = false := by
  rw [Bool.eq_false_iff]; intro hz
  simp only [zeroT, Bool.and_eq_true, beq_iff_eq] at hz
  have h1 : nodeOk t.K t.N t.A.length = false := by
    rw [hz.1.1]; unfold nodeOk parts; simp
  simp only [okT, nodesT, nodesW, h1] at h
  cases h

theorem names_eq (k : Int) (s z : ByteArray) : namesB (shN k) s z = (!((ofS k != nameP false s) || (!ofS k && !s.toList.isEmpty) || (ofZ k != nameP false z) || (!ofZ k && !z.toList.isEmpty) || (ofZ k && (s.toList == z.toList)))) := by
  have hs : nameP false s = true → s.toList.isEmpty = false := nameW_nil
  have hz : nameP false z = true → z.toList.isEmpty = false := nameW_nil
  by_cases h14 : k = 14
  · have e1 : shN k = 2 := by rw [h14]; rfl
    have e2 : ofS k = true := by rw [h14]; rfl
    have e3 : ofZ k = true := by rw [h14]; rfl
    rw [e1, e2, e3]
    show (nameW s && nameW z && !(s.toList == z.toList)) = _
    rw [← nameP_false, ← nameP_false]
    cases nameP false s <;> cases nameP false z <;> cases (s.toList == z.toList) <;> rfl
  · have e3 : ofZ k = false := by unfold ofZ; rw [decide_eq_false h14]
    by_cases h1 : k = 3 ∨ k = 4 ∨ k = 6 ∨ k = 7 ∨ k = 17
    · have e1 : shN k = 1 := by unfold shN; rw [if_pos h1]
      have e2 : ofS k = true := by unfold ofS; rw [decide_eq_true]; omega
      rw [e1, e2, e3]
      show (nameW s && isNil z) = _
      rw [← nameP_false]
      unfold isNil
      cases h2 : nameP false s <;> cases h3 : nameP false z <;> cases h4 : z.toList.isEmpty <;> simp_all
    · have e1 : shN k = 0 := by unfold shN; rw [if_neg h1, if_neg h14]
      have e2 : ofS k = false := by unfold ofS; rw [decide_eq_false]; omega
      rw [e1, e2, e3]
      show (isNil s && isNil z) = _
      unfold isNil
      cases h2 : nameP false s <;> cases h3 : nameP false z <;> cases h4 : z.toList.isEmpty <;> cases h5 : s.toList.isEmpty <;> simp_all

theorem types_eq (k : Int) (t : Tr) (ts : List Tr) : typesB k t ts = (!(bad4 (shT k) (okT t) (zeroT t) (decide (2 < (ts.length : Int))) (k != 3) (decide (0 < (ts.length : Int)))) && ts.all okT) := by
  have hz : okT t = true → zeroT t = false := okT_zero
  have hl : decide ((ts.length : Int) ≤ shS k) = !(decide (2 < (ts.length : Int)) || ((k != 3) && decide (0 < (ts.length : Int)))) := by
    unfold shS
    by_cases h3 : k = 3
    · have e : (k != 3) = false := by simp [h3]
      rw [if_pos h3, e, Bool.false_and, Bool.or_false, Bool.eq_iff_iff]; simp
    · have e : (k != 3) = true := by simp [h3]
      rw [if_neg h3, e, Bool.true_and, Bool.eq_iff_iff, decide_eq_true_eq, Bool.not_eq_true', Bool.or_eq_false_iff, decide_eq_false_iff_not, decide_eq_false_iff_not]; omega
  unfold typesB bad4
  rw [hl]
  cases shT k <;> cases h1 : okT t <;> cases h2 : zeroT t <;> simp_all

theorem nodeM_one (t : Tm) : nodeM t = (!(bad2 ((t.A.length : Int) != ofP t.K) (numB t.K t.N) (ofS t.K) (nameP false t.S) t.S.toList.isEmpty (ofZ t.K) (nameP false t.Z) t.Z.toList.isEmpty (t.S.toList == t.Z.toList)) && !(bad4 (shT t.K) (okT t.T) (zeroT t.T) (decide (2 < (t.Ts.length : Int))) (t.K != 3) (decide (0 < (t.Ts.length : Int)))) && t.Ts.all okT && fixB t.K t.A) := by
  unfold nodeM
  rw [names_eq, types_eq]
  have e1 : (kOk t.K && decide ((t.A.length : Int) = shP t.K)) = !((t.A.length : Int) != ofP t.K) := by
    unfold ofP
    cases kOk t.K
    · rw [if_neg Bool.false_ne_true, Bool.false_and, eq_comm, Bool.not_eq_false']
      rw [bne_iff_ne]; omega
    · rw [if_pos rfl, Bool.true_and, Bool.eq_iff_iff]; simp
  have e2 : numB t.K t.N = decide (shL t.K ≤ t.N ∧ t.N ≤ shM t.K) := rfl
  rw [e2]
  unfold bad2
  generalize decide (shL t.K ≤ t.N ∧ t.N ≤ shM t.K) = b2
  generalize ((t.A.length : Int) != ofP t.K) = b1 at e1 ⊢
  generalize (bad4 _ _ _ _ _ _) = b4
  generalize (ofS t.K != nameP false t.S) = c1
  generalize (!ofS t.K && !t.S.toList.isEmpty) = c2
  generalize (ofZ t.K != nameP false t.Z) = c3
  generalize (!ofZ t.K && !t.Z.toList.isEmpty) = c4
  generalize (ofZ t.K && t.S.toList == t.Z.toList) = c5
  generalize kOk t.K = k1 at e1 ⊢
  generalize decide ((t.A.length : Int) = shP t.K) = p1 at e1 ⊢
  generalize fixB t.K t.A = fx
  generalize t.Ts.all okT = al
  cases b1 <;> cases k1 <;> cases p1 <;> simp at e1 <;> cases b2 <;> cases b4 <;> cases c1 <;> cases c2 <;> cases c3 <;> cases c4 <;> cases c5 <;> cases fx <;> cases al <;> rfl

theorem ofZ_ofS {k : Int} (h : ofZ k = true) : ofS k = true := by
  simp only [ofZ, ofS, decide_eq_true_eq] at *; omega

end Go.Proofs.Ytbdmdgghhefmcaa
