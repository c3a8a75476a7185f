/-
  What the program's 'termNodeOk' comes to.
-/
import Derived.Test.YtgckmnchlkgakaaLmaSh
import Derived.Test.YtgckmnchlkgakaaLmaTi
namespace Go.Proofs.Ytgckmnchlkgakaa
open Go.RowKit Go.PlainAid
set_option linter.unusedVariables false
set_option linter.unusedSimpArgs false

theorem nodeM_k {t : Tm} (h : kOk t.K = false) : nodeM t = false := by simp [nodeM, h]
theorem nodeM_n {t : Tm} (h : ¬ (shL t.K ≤ t.N ∧ t.N ≤ shM t.K)) : nodeM t = false := by unfold nodeM; rw [decide_eq_false h]; simp
theorem nodeM_p {t : Tm} (h : ¬ (t.A.length : Int) = shP t.K) : nodeM t = false := by unfold nodeM; rw [decide_eq_false h]; simp
theorem nodeM_f {t : Tm} (h : fixB t.K t.A = false) : nodeM t = false := by unfold nodeM; rw [h]; simp
theorem nodeM_s {t : Tm} (h : namesB (shN t.K) t.S t.Z = false) : nodeM t = false := by unfold nodeM; rw [h]; simp
theorem nodeM_all {t : Tm} (h1 : kOk t.K = true) (h2 : shL t.K ≤ t.N ∧ t.N ≤ shM t.K) (h3 : (t.A.length : Int) = shP t.K) (h4 : fixB t.K t.A = true) (h5 : namesB (shN t.K) t.S t.Z = true) : nodeM t = typesB t.K t.T t.Ts := by
  unfold nodeM; rw [h1, decide_eq_true h2, decide_eq_true h3, h4, h5]; simp

theorem fixB_seven {k : Int} {l : List Tm} (h : k = 7) (hl : 0 < l.length) : fixB k l = decide (l[0].K = 4) := by
  unfold fixB; rw [if_pos h]
  cases l with
  | nil => simp at hl
  | cons x l => rfl

theorem typesB_eq (t : Tm) : typesB t.K t.T t.Ts = (typesHead (shT t.K) (shS t.K) ⟨t.T.K, t.T.N, t.T.A⟩ t.Ts.length && t.Ts.all okT) := by
  rw [tr_eta]; rfl

set_option maxHeartbeats 2000000 in
theorem termNodeOk_any (D d L B : Nat) (t : Tm) (a1 : Option Addr) (l1 c1 : Nat) (a2 : Option Addr) (l2 c2 : Nat) (a3 : Option Addr) (l3 c3 : Nat) (w : World) (hB : B ≤ w.heap.size) (hf : Fm L B w D d t a1 l1 a2 l2 a3 l3) :
    Calls Try.prog 87 #[.agg #[.int .i64 t.K, .int .i64 t.N, .string t.S, .string t.Z, .int .i64 t.T.K, .int .i64 t.T.N, .slice a1 l1 c1, .slice a2 l2 c2, .slice a3 l3 c3]] w fun e w' => e = .returned (.bool (nodeM t)) ∧ Below w.heap.size w w' := by
  have hl3 := hf.m.len.2
  have HL3 : Hid (l3 = t.A.length) := hf.m.len.1
  have HL2 : Hid (l2 = t.Ts.length) := hf.t2.len.1
  have bN := shN_bd t.K
  have bL := shL_bd t.K
  have bM := shM_bd t.K
  have bS := shS_bd t.K
  have bP := shP_bd t.K
  have hb0 : Below w.heap.size w (w.alloc (.cells #[.int .i64 t.K, .int .i64 t.N, .string t.S, .string t.Z, .int .i64 t.T.K, .int .i64 t.T.N, .slice a1 l1 c1, .slice a2 l2 c2, .slice a3 l3 c3] 36)) := (Below.refl _ _).alloc (Nat.le_refl _) _
  cases hk : kOk t.K
  · have HN : Hid (nodeM t = false) := nodeM_k hk
    have HK : Hid (kOk t.K = false) := hk
    clear hk
    go_enter Try.func87, Try.ntmps87
    go_wp2_with fail
    refine (shapeOf_any _ _).mono ?_
    rintro e w1 ⟨rfl, hb1⟩
    rw [HK.out]
    go_wp2_with fail
    go_ret
    exact ⟨ret_bool HN.out.symm, (hb0.trans (hb1.mono (by simp))).alloc (by have := hb1.size; simp at this; omega) _⟩
  have HK : Hid (kOk t.K = true) := hk
  clear hk
  go_enter Try.func87, Try.ntmps87
  go_wp2_with fail
  refine (shapeOf_any _ _).mono ?_
  rintro e w1 ⟨rfl, hb1⟩
  rw [HK.out]
  have hz1 := hb1.size
  simp only [World.size_alloc] at hz1
  have hbw1 : Below w.heap.size w w1 := hb0.trans (hb1.mono (by simp))
  have y0 := (hb1.block w.heap.size (by simp)).trans (heap_new rfl)
  obtain ⟨f0, f1, f2, f3, f4, f5, f6, f7, f8⟩ := Nine.box y0
  simp only [Nat.zero_add] at f1 f2 f3 f4 f5 f6 f7 f8
  obtain ⟨X, hX⟩ : ∃ X, X = w1.alloc (.cells #[.int .i64 (shN t.K), .int .i64 (shL t.K), .int .i64 (shM t.K), .bool (shT t.K), .int .i64 (shS t.K), .int .i64 (shP t.K)] 110) := ⟨_, rfl⟩
  have hXb : Below w.heap.size w X := by rw [hX]; exact hbw1.alloc (by omega) _
  have hXs : X.heap.size = w1.heap.size + 1 := by rw [hX]; simp
  have HX : Hid (X = _) := hX
  clear hX
  have hne : ¬ w.heap.size = w1.heap.size := by omega
  have hlt1 : w.heap.size < w1.heap.size := by omega
  have hX1 : X.heap[w1.heap.size]? = some (.cells #[.int .i64 (shN t.K), .int .i64 (shL t.K), .int .i64 (shM t.K), .bool (shT t.K), .int .i64 (shS t.K), .int .i64 (shP t.K)] 110 (0, 0)) := by rw [HX.out]; exact heap_new rfl
  have hX0 : X.heap[w.heap.size]? = some (.cells #[.int .i64 t.K, .int .i64 t.N, .string t.S, .string t.Z, .int .i64 t.T.K, .int .i64 t.T.N, .slice a1 l1 c1, .slice a2 l2 c2, .slice a3 l3 c3] 36 (0, 0)) := by rw [HX.out, Below.heap_alloc _ _ _ hlt1]; exact y0
  by_cases d1 : t.N < shL t.K
  · have HN : Hid (nodeM t = false) := nodeM_n (by omega)
    go_wp2_with fail
    go_ret
    rw [← HX.out]
    exact ⟨ret_bool HN.out.symm, hXb⟩
  by_cases d2 : shM t.K < t.N
  · have HN : Hid (nodeM t = false) := nodeM_n (by omega)
    go_wp2_with fail
    go_ret
    rw [← HX.out]
    exact ⟨ret_bool HN.out.symm, hXb⟩
  have c12 : Hid (shL t.K ≤ t.N ∧ t.N ≤ shM t.K) := ⟨by omega, by omega⟩
  by_cases c3 : (l3 : Int) = shP t.K
  case' neg =>
    have HN : Hid (nodeM t = false) := nodeM_p (by rw [← HL3.out]; exact c3)
    have c3b : ((l3 : Int) != shP t.K) = true := by simp [c3]
    clear c3
    go_wp2_with fail
    go_ret
    rw [← HX.out]
    exact ⟨ret_bool HN.out.symm, hXb⟩
  have HP : Hid ((l3 : Int) = shP t.K) := c3
  have c3b : ((l3 : Int) != shP t.K) = false := by simp [c3]
  have c4 : ∃ b : Bool, fixB t.K t.A = b ∧ (t.K = 7 → ∃ x o, a3 = some ⟨x, o, none⟩ ∧ 0 < l3 ∧ x < B ∧ ∃ q, w.cell? ⟨x, o, none⟩ = some (.int .i64 q) ∧ b = decide (q = 4)) ∧ (¬ t.K = 7 → b = true) := by
    refine ⟨_, rfl, fun h7 => ?_, fun h7 => by simp [fixB, h7]⟩
    have hp2 : shP t.K = 2 := by rw [h7]; rfl
    have h2 : t.A.length = 2 := by have := HL3.out; omega
    obtain ⟨x, o, e, _, hx, q1, q2, q3, q4, q5, q6, q7, q8, q9, h9, _⟩ := hf.m.get 0 (by omega)
    refine ⟨x, o, e, by omega, hx, t.A[0].K, by simpa using h9.c0, ?_⟩
    exact fixB_seven h7 (by omega)
  clear c3
  obtain ⟨fx, HF, c7, c7n⟩ := c4
  replace HF : Hid (_ = _) := HF
  have HT : Hid (fx = true → namesB (shN t.K) t.S t.Z = true → nodeM t = (typesHead (shT t.K) (shS t.K) ⟨t.T.K, t.T.N, t.T.A⟩ l2 && t.Ts.all okT)) := fun h h' => by
    rw [nodeM_all HK.out c12.out (by rw [← HL3.out]; exact HP.out) (HF.out.trans h) h', typesB_eq, HL2.out]
  have HN0 : Hid (fx = false → nodeM t = false) := fun h => nodeM_f (HF.out.trans h)
  have HNs : Hid (namesB (shN t.K) t.S t.Z = false → nodeM t = false) := nodeM_s
  have hfX := Fm.below hXb hB hf
  by_cases h7 : t.K = 7
  case' pos =>
    obtain ⟨x, o, rfl, hpos, hxB, q, hq, rfl⟩ := c7 h7
    clear c7 c7n HF
    have hq1 : w1.cell? ⟨x, o, none⟩ = some (.int .i64 q) := (bcell hbw1 (by omega) _).trans hq
    have hx1 : x < w1.heap.size := by omega
    have h7b : (t.K == 7) = true := by simp [h7]
    clear h7 hq
    cases h4 : (q != 4)
    case' true =>
      have HN : Hid (nodeM t = false) := HN0.out (by simpa using h4)
      go_wp2_with fail
      go_ret
      rw [← HX.out]
      exact ⟨ret_bool HN.out.symm, hXb⟩
    replace HT : Hid (_ → _) := HT.out (by simpa using h4)
  case' neg =>
    replace HT : Hid (_ → _) := HT.out (c7n h7)
    have h7b : (t.K == 7) = false := by simp [h7]
    clear c7 c7n HF h7
  all_goals
    cases hn : namesB (shN t.K) t.S t.Z
    case' false =>
      replace HNs : Hid (_ = _) := HNs.out hn
      have HB : Hid (namesB (shN t.K) t.S t.Z = false) := hn
      clear hn
      go_wp2_with fail
      rw [← HX.out]
      refine (namesOk_any _ _ _ _ _ _ _ _ _ _ _ hf.s hf.z).mono ?_
      rintro e w2 ⟨rfl, hb2⟩
      rw [HB.out]
      go_wp2_with fail
      go_ret
      exact ⟨ret_bool HNs.out.symm, hXb.trans (hb2.mono (by omega))⟩
    case' true =>
      replace HT : Hid (_ = _) := HT.out hn
      have HB : Hid (namesB (shN t.K) t.S t.Z = true) := hn
      clear hn
      go_wp2_with fail
      rw [← HX.out]
      refine (namesOk_any _ _ _ _ _ _ _ _ _ _ _ hf.s hf.z).mono ?_
      rintro e w2 ⟨rfl, hb2⟩
      rw [HB.out]
      have hz2 := hb2.size
      have z1 := (hb2.block _ (by omega)).trans hX1
      have z0 := (hb2.block _ (by omega)).trans hX0
      clear f0 f1 f2 f3 f4 f5 f6 f7 f8
      obtain ⟨f0, f1, f2, f3, f4, f5, f6, f7, f8⟩ := Nine.box z0
      have p0 := row_cell z1 0
      have p1 := row_cell z1 1
      have p2 := row_cell z1 2
      have p3 := row_cell z1 3
      have p4 := row_cell z1 4
      have p5 := row_cell z1 5
      simp only [List.getElem?_toArray, List.getElem?_cons_zero, List.getElem?_cons_succ] at p0 p1 p2 p3 p4 p5
      have hbw2 : Below w.heap.size w w2 := hXb.trans (hb2.mono (by omega))
      have hf2 := Fm.below hbw2 hB hf
      go_wp2_with fail
      refine (typesOk_any D L B _ _ _ _ _ _ _ _ _ _ _ _ _ t.T.A t.Ts _ _ _ _ _ _ _ (by omega) (by omega) (by omega) hf2.t1 hf2.t2).mono ?_
      rintro e w3 ⟨rfl, hb3⟩
      rw [← HT.out]
      go_wp2_with fail
      go_ret
      exact ⟨rfl, hbw2.trans (hb3.mono (by omega))⟩

end Go.Proofs.Ytgckmnchlkgakaa
