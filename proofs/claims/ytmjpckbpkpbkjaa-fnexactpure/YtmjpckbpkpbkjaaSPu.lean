/-
  What the model's 'Pure' comes to.
-/
import Derived.Test.YtmjpckbpkpbkjaaPu0
namespace Go.Proofs.Ytmjpckbpkpbkjaa
open Go.RowKit
set_option linter.unusedVariables false
set_option linter.unusedSimpArgs false

def SaidSP (D d : Nat) : Prop := ∀ (L B : Nat) (t : Tm) (a1 : Option Addr) (l1 c1 : Nat) (a2 : Option Addr) (l2 c2 : Nat) (a3 : Option Addr) (l3 c3 : Nat) (w : World), B ≤ w.heap.size → Fm L B w D d t a1 l1 a2 l2 a3 l3 →
    Calls Try.prog 5 #[.agg #[.int .i64 t.K, .int .i64 t.N, .string t.S, .string t.Z, .int .i64 t.T.K, .int .i64 t.T.N, .slice a1 l1 c1, .slice a2 l2 c2, .slice a3 l3 c3]] w fun e w' => e = .returned (.bool (pureM t)) ∧ Below w.heap.size w w'

theorem two_parts {l : List Tm} (h : l.length = 2) : l.all pureM = (pureM (l[0]'(by omega)) && pureM (l[1]'(by omega))) := by
  match l, h with
  | [x, y], _ => simp

set_option maxHeartbeats 2000000 in
theorem sp_step (D d : Nat) (IH : ∀ d', d = d' + 1 → SaidSP D d') : SaidSP D d := by
  intro L B t a1 l1 c1 a2 l2 c2 a3 l3 c3 w hB hf
  obtain ⟨X, hX⟩ : ∃ X, X = w.alloc (.cells #[.int .i64 t.K, .int .i64 t.N, .string t.S, .string t.Z, .int .i64 t.T.K, .int .i64 t.T.N, .slice a1 l1 c1, .slice a2 l2 c2, .slice a3 l3 c3] 35) := ⟨_, rfl⟩
  have hXb : Below w.heap.size w X := by rw [hX]; exact (Below.refl _ _).alloc (Nat.le_refl _) _
  have hX1 : X.heap[w.heap.size]? = some (.cells #[.int .i64 t.K, .int .i64 t.N, .string t.S, .string t.Z, .int .i64 t.T.K, .int .i64 t.T.N, .slice a1 l1 c1, .slice a2 l2 c2, .slice a3 l3 c3] 35 (0, 0)) := by rw [hX]; exact heap_new rfl
  have hXs : X.heap.size = w.heap.size + 1 := by rw [hX]; simp
  have HX : Hid (X = _) := hX
  clear hX
  have HL : Hid (l3 = t.A.length) := hf.m.len.1
  have hl3 := hf.m.len.2
  obtain ⟨f0, f1, f2, f3, f4, f5, f6, f7, f8⟩ := Nine.box hX1
  rw [pureM_eq]
  by_cases hp : t.K = 9 ∨ t.K = 13
  · rw [if_pos hp]
    by_cases h2 : l3 = 2
    · subst h2
      have hlen : t.A.length = 2 := HL.out.symm
      obtain ⟨p0, hp0⟩ : ∃ p0, pureM (t.A[0]'(by omega)) = p0 := ⟨_, rfl⟩
      obtain ⟨p1, hp1⟩ : ∃ p1, pureM (t.A[1]'(by omega)) = p1 := ⟨_, rfl⟩
      rw [two_parts hlen, hp0, hp1]
      simp only [hlen, decide_true, Bool.true_and]
      cases d with
      | zero => have := hf.m.1; omega
      | succ d =>
        have ih := IH d rfl
        obtain ⟨b, o, rfl, hbL, hbB, x1, m1, k1, x2, m2, k2, x3, m3, k3, hn0, hf0⟩ := hf.m.2.2 0 (by omega)
        obtain ⟨b', o', heq, _, _, y1, n1, j1, y2, n2, j2, y3, n3, j3, hn1, hf1⟩ := hf.m.2.2 1 (by omega)
        cases heq
        have hbX : b < X.heap.size := by omega
        have E := hn0.below hXb (by omega)
        rw [HX.out, Nat.zero_mul, Nat.add_zero] at E
        obtain ⟨e0, e1, e2, e3, e4, e5, e6, e7, e8⟩ := E
        rw [Nat.one_mul] at hn1
        have hf0' := Fm.below hXb hB hf0
        have hk : (t.K == 9) = true ∨ ((t.K == 9) = false ∧ (t.K == 13) = true) := by
          rcases hp with h | h
          · left; simp [h]
          · right; simp [h]
        have HP0 : Hid (_ = p0) := hp0
        have HP1 : Hid (_ = p1) := hp1
        clear hp0 hp1 hp
        rcases hk with hk | ⟨hk, hk2⟩
        all_goals
          go_enter Try.func5, Try.ntmps5
          go_wp2_with fail
          rw [← HX.out]
          refine (ih L B _ _ _ _ _ _ _ _ _ _ X (by omega) hf0').mono ?_
          rintro e w1 ⟨rfl, hb1⟩
          rw [HP0.out]
          have hz1 := hb1.size
          have hbw1 : Below w.heap.size w w1 := hXb.trans (hb1.mono hXb.size)
          cases p0
          · go_wp2_with fail
            go_ret
            exact ⟨rfl, hbw1⟩
          · have z1 := (hb1.block w.heap.size (by omega)).trans hX1
            obtain ⟨_, _, _, _, _, _, _, _, g8⟩ := Nine.box z1
            obtain ⟨q0, q1, q2, q3, q4, q5, q6, q7, q8⟩ := hn1.below hbw1 (by omega)
            have hf1' := Fm.below hbw1 hB hf1
            clear f0 f1 f2 f3 f4 f5 f6 f7 f8 e0 e1 e2 e3 e4 e5 e6 e7 e8
            go_wp2_with fail
            refine (ih L B _ _ _ _ _ _ _ _ _ _ w1 (by omega) hf1').mono ?_
            rintro e w2 ⟨rfl, hb2⟩
            rw [HP1.out]
            go_wp2_with fail
            go_ret
            exact ⟨by cases p1 <;> rfl, hbw1.trans (hb2.mono hbw1.size)⟩
    · have hne : ((l3 : Int) == 2) = false := by rw [beq_eq_false_iff_ne]; omega
      have hlen : ¬ t.A.length = 2 := by have := HL.out; omega
      simp only [hlen, decide_false, Bool.false_and]
      clear hlen
      have hk : (t.K == 9) = true ∨ ((t.K == 9) = false ∧ (t.K == 13) = true) := by
        rcases hp with h | h
        · left; simp [h]
        · right; simp [h]
      rcases hk with hk | ⟨hk, hk2⟩
      all_goals
        go_enter Try.func5, Try.ntmps5
        go_wp2_with fail
        go_ret
        refine ⟨rfl, ?_⟩
        first | exact hXb | (rw [← HX.out]; exact hXb)
  · rw [if_neg hp]
    have h9 : (t.K == 9) = false := by rw [beq_eq_false_iff_ne]; omega
    have h13 : (t.K == 13) = false := by rw [beq_eq_false_iff_ne]; omega
    go_enter Try.func5, Try.ntmps5
    go_wp2_with fail
    rw [← HX.out]
    refine (sIsValue_any D d L B t _ _ _ _ _ _ _ _ _ X (by omega) (Fm.below hXb hB hf)).mono ?_
    rintro e w1 ⟨rfl, hb1⟩
    go_wp2_with fail
    go_ret
    exact ⟨rfl, hXb.trans (hb1.mono hXb.size)⟩

theorem sPure_any (D d : Nat) : SaidSP D d := by
  induction d with
  | zero => exact sp_step D 0 (fun d' h => by omega)
  | succ d ih => exact sp_step D (d + 1) (fun d' h => by obtain rfl : d' = d := by omega
                                                         exact ih)

end Go.Proofs.Ytmjpckbpkpbkjaa
