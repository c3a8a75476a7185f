/-
  What the model's 'SameTy' against the zero type comes to; and 'l2One' (one term, but for its parts).
-/
import Derived.Test.YtgckmnchlkgakaaBndLo
import Derived.Test.YtgckmnchlkgakaaBndTw
import Derived.BigQuiet
import Derived.Deep.Cut
import Derived.Deep.CutRange
namespace Go.Proofs.Ytgckmnchlkgakaa
open Go.RowKit Go.PlainAid
set_option linter.unusedVariables false
set_option linter.unusedSimpArgs false

set_option maxHeartbeats 1000000 in
theorem sSameTy_zero (k n : Int) (ao : Option Addr) (len cap : Nat) (w : World) (hl : len ≤ 9223372036854775807) :
    Calls Try.prog 86 #[.agg #[.int .i64 k, .int .i64 n, .slice ao len cap], .agg #[.int .i64 0, .int .i64 0, .slice none 0 0]] w fun e w' => e = .returned (.bool ((k == 0) && (n == 0) && ((len : Int) == 0))) ∧ Below w.heap.size w w' := by
  have hbel : Below w.heap.size w ((w.alloc (.cells #[.int .i64 k, .int .i64 n, .slice ao len cap] 33)).alloc (.cells #[.int .i64 0, .int .i64 0, .slice none 0 0] 33)) := ((Below.refl _ _).alloc (Nat.le_refl _) _).alloc (by simp) _
  cases h1 : (k == 0)
  case' false => have h1' : (k != 0) = true := (by simp only [bne, h1]; rfl)
  case' true => have h1' : (k != 0) = false := (by simp only [bne, h1]; rfl)
  all_goals cases h2 : (n == 0)
  all_goals (have h2' : (n != 0) = !(n == 0) := rfl; rw [h2] at h2')
  all_goals (by_cases h3 : len = 0)
  all_goals first
    | (subst h3
       go_enter Try.func86, Try.ntmps86
       go_wp2_with fail
       first
         | (go_ret; exact ⟨rfl, hbel⟩)
         | (refine wp_loop_rounds 1 ?_; rw [rounds_succ]; go_wp2_with fail; go_ret; exact ⟨rfl, hbel⟩))
    | (have h3' : ((len : Int) != 0) = true := (by simp; omega)
       have HF : Hid (((len : Int) == 0) = false) := (by show _ = _; rw [beq_eq_false_iff_ne]; omega)
       go_enter Try.func86, Try.ntmps86
       go_wp2_with fail
       go_ret
       exact ⟨ret_bool (by rw [HF.out]; simp), hbel⟩)

theorem wp_region_below {P : Program} {id : Nat} {Q : Exit → Act → World → Prop} {a : Act} {X : World} {l : List Oper} (hm : P.follows .mixedOrders = true) (hB : Region.lexB .any l.toArray = true)
    (h : wpQuiet P l.toArray (fun w' => Below X.heap.size X w') (fun a' => ∀ w', Below X.heap.size X w' → Q .normal a' w') l a) : (Code.region id l.toArray true).wp P Q a X :=
  wp_region_quiet (C := fun w' => Below X.heap.size X w') hm hB ((Below.refl _ _).drew) (by simpa using h)

def bad2 (b1 b2 sB nS eS zB nZ eZ eq : Bool) : Bool := b1 || !b2 || (sB != nS) || (!sB && !eS) || (zB != nZ) || (!zB && !eZ) || (zB && eq)
def bad4 (tB ok zr g2 k3 g0 : Bool) : Bool := (tB != ok) || (!tB && !zr) || g2 || (k3 && g0)
theorem nameW_nil {s : ByteArray} (h : nameP false s = true) : s.toList.isEmpty = false := by
  have h1 : isNil s = decide (s.size = 0) := isNil_size s
  unfold isNil at h1
  rw [h1, decide_eq_false_iff_not]
  simp only [nameP, Bool.and_eq_true, decide_eq_true_eq] at h
  omega
theorem okT_zero {t : Tr} (h : okT t = true) : zeroT t = false := by
  rw [Bool.eq_false_iff]; intro hz
  simp only [zeroT, Bool.and_eq_true, beq_iff_eq] at hz
  have h1 : nodeOk t.K t.N t.A.length = false := by
    rw [hz.1.1]; unfold nodeOk parts; simp
  simp only [okT, nodesT, nodesW, h1] at h
  cases h

theorem names_eq (k : Int) (s z : ByteArray) : namesB (shN k) s z = (!((ofS k != nameP false s) || (!ofS k && !s.toList.isEmpty) || (ofZ k != nameP false z) || (!ofZ k && !z.toList.isEmpty) || (ofZ k && (s.toList == z.toList)))) := by
  have hs : nameP false s = true → s.toList.isEmpty = false := nameW_nil
  have hz : nameP false z = true → z.toList.isEmpty = false := nameW_nil
  by_cases h14 : k = 14
  · have e1 : shN k = 2 := by rw [h14]; rfl
    have e2 : ofS k = true := by rw [h14]; rfl
    have e3 : ofZ k = true := by rw [h14]; rfl
    rw [e1, e2, e3]
    show (nameW s && nameW z && !(s.toList == z.toList)) = _
    rw [← nameP_false, ← nameP_false]
    cases nameP false s <;> cases nameP false z <;> cases (s.toList == z.toList) <;> rfl
  · have e3 : ofZ k = false := by unfold ofZ; rw [decide_eq_false h14]
    by_cases h1 : k = 3 ∨ k = 4 ∨ k = 6 ∨ k = 7 ∨ k = 17
    · have e1 : shN k = 1 := by unfold shN; rw [if_pos h1]
      have e2 : ofS k = true := by unfold ofS; rw [decide_eq_true]; omega
      rw [e1, e2, e3]
      show (nameW s && isNil z) = _
      rw [← nameP_false]
      unfold isNil
      cases h2 : nameP false s <;> cases h3 : nameP false z <;> cases h4 : z.toList.isEmpty <;> simp_all
    · have e1 : shN k = 0 := by unfold shN; rw [if_neg h1, if_neg h14]
      have e2 : ofS k = false := by unfold ofS; rw [decide_eq_false]; omega
      rw [e1, e2, e3]
      show (isNil s && isNil z) = _
      unfold isNil
      cases h2 : nameP false s <;> cases h3 : nameP false z <;> cases h4 : z.toList.isEmpty <;> cases h5 : s.toList.isEmpty <;> simp_all

theorem types_eq (k : Int) (t : Tr) (ts : List Tr) : typesB k t ts = (!(bad4 (shT k) (okT t) (zeroT t) (decide (2 < (ts.length : Int))) (k != 3) (decide (0 < (ts.length : Int)))) && ts.all okT) := by
  have hz : okT t = true → zeroT t = false := okT_zero
  have hl : decide ((ts.length : Int) ≤ shS k) = !(decide (2 < (ts.length : Int)) || ((k != 3) && decide (0 < (ts.length : Int)))) := by
    unfold shS
    by_cases h3 : k = 3
    · have e : (k != 3) = false := by simp [h3]
      rw [if_pos h3, e, Bool.false_and, Bool.or_false, Bool.eq_iff_iff]; simp
    · have e : (k != 3) = true := by simp [h3]
      rw [if_neg h3, e, Bool.true_and, Bool.eq_iff_iff, decide_eq_true_eq, Bool.not_eq_true', Bool.or_eq_false_iff, decide_eq_false_iff_not, decide_eq_false_iff_not]; omega
  unfold typesB bad4
  rw [hl]
  cases shT k <;> cases h1 : okT t <;> cases h2 : zeroT t <;> simp_all

theorem nodeM_one (t : Tm) : nodeM t = (!(bad2 ((t.A.length : Int) != ofP t.K) (numB t.K t.N) (ofS t.K) (nameP false t.S) t.S.toList.isEmpty (ofZ t.K) (nameP false t.Z) t.Z.toList.isEmpty (t.S.toList == t.Z.toList)) && !(bad4 (shT t.K) (okT t.T) (zeroT t.T) (decide (2 < (t.Ts.length : Int))) (t.K != 3) (decide (0 < (t.Ts.length : Int)))) && t.Ts.all okT && fixB t.K t.A) := by
  unfold nodeM
  rw [names_eq, types_eq]
  have e1 : (kOk t.K && decide ((t.A.length : Int) = shP t.K)) = !((t.A.length : Int) != ofP t.K) := by
    unfold ofP
    cases kOk t.K
    · rw [if_neg Bool.false_ne_true, Bool.false_and, eq_comm, Bool.not_eq_false']
      rw [bne_iff_ne]; omega
    · rw [if_pos rfl, Bool.true_and, Bool.eq_iff_iff]; simp
  have e2 : numB t.K t.N = decide (shL t.K ≤ t.N ∧ t.N ≤ shM t.K) := rfl
  rw [e2]
  unfold bad2
  generalize decide (shL t.K ≤ t.N ∧ t.N ≤ shM t.K) = b2
  generalize ((t.A.length : Int) != ofP t.K) = b1 at e1 ⊢
  generalize (bad4 _ _ _ _ _ _) = b4
  generalize (ofS t.K != nameP false t.S) = c1
  generalize (!ofS t.K && !t.S.toList.isEmpty) = c2
  generalize (ofZ t.K != nameP false t.Z) = c3
  generalize (!ofZ t.K && !t.Z.toList.isEmpty) = c4
  generalize (ofZ t.K && t.S.toList == t.Z.toList) = c5
  generalize kOk t.K = k1 at e1 ⊢
  generalize decide ((t.A.length : Int) = shP t.K) = p1 at e1 ⊢
  generalize fixB t.K t.A = fx
  generalize t.Ts.all okT = al
  cases b1 <;> cases k1 <;> cases p1 <;> simp at e1 <;> cases b2 <;> cases b4 <;> cases c1 <;> cases c2 <;> cases c3 <;> cases c4 <;> cases c5 <;> cases fx <;> cases al <;> rfl

theorem ofZ_ofS {k : Int} (h : ofZ k = true) : ofS k = true := by
  simp only [ofZ, ofS, decide_eq_true_eq] at *; omega

end Go.Proofs.Ytgckmnchlkgakaa
