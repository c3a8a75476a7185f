/-
  The program's 'LambdaAt', by 'termAt'.
-/
import Derived.Test.YtgckmnchlkgakaaLmaZ17
import Derived.Test.YtgckmnchlkgakaaLmaLm10
import Derived.Test.YtgckmnchlkgakaaLmaTr
namespace Go.Proofs.Ytgckmnchlkgakaa
open Go.RowKit
set_option linter.unusedVariables false
set_option linter.unusedSimpArgs false

set_option maxRecDepth 100000 in
set_option maxHeartbeats 2000000 in
theorem lambdaAt_any (D d L B : Nat) (t : Tm) (a1 : Option Addr) (l1 c1 : Nat) (a2 : Option Addr) (l2 c2 : Nat) (a3 : Option Addr) (l3 c3 : Nat) (n : Int) (w : World) (hB : B ≤ w.heap.size) (hf : Fm L B w D d t a1 l1 a2 l2 a3 l3) (hc : cntM t ≤ 1048576) :
    Calls Try.prog 22 #[.agg #[.int .i64 t.K, .int .i64 t.N, .string t.S, .string t.Z, .int .i64 t.T.K, .int .i64 t.T.N, .slice a1 l1 c1, .slice a2 l2 c2, .slice a3 l3 c3], .int .i64 n] w fun e w' => TellM w w' (D + 1) d e (latM t n).1 (latM t n).2 := by
  obtain ⟨X, hX⟩ : ∃ X, X = (w.alloc (.cells #[.int .i64 t.K, .int .i64 t.N, .string t.S, .string t.Z, .int .i64 t.T.K, .int .i64 t.T.N, .slice a1 l1 c1, .slice a2 l2 c2, .slice a3 l3 c3] 36)).alloc (.cells #[.int .i64 0, .int .i64 0, .string ⟨#[]⟩, .string ⟨#[]⟩, .int .i64 0, .int .i64 0, .slice none 0 0, .slice none 0 0, .slice none 0 0] 36) := ⟨_, rfl⟩
  have hXs : X.heap.size = w.heap.size + 2 := by rw [hX]; simp
  have hXb : Below w.heap.size w X := by rw [hX]; exact ((Below.refl _ _).alloc (Nat.le_refl _) _).alloc (by simp) _
  have hX1 : X.heap[w.heap.size + 1]? = some (.cells #[.int .i64 0, .int .i64 0, .string ⟨#[]⟩, .string ⟨#[]⟩, .int .i64 0, .int .i64 0, .slice none 0 0, .slice none 0 0, .slice none 0 0] 36 (0, 0)) := by rw [hX]; exact heap_new (by simp)
  have hfX := Fm.below hXb hB hf
  have HX : Hid (X = _) := hX
  have hll := lamT_len t
  clear hX
  go_enter Try.func22, Try.ntmps22
  go_wp2_with fail
  rw [← HX.out]
  refine (lambdasOf_any D d L B t _ _ _ _ _ _ _ _ _ X (by omega) hfX).mono ?_
  rintro e w1 ⟨v, rfl, hb1, hT⟩
  have hz1 := hb1.size
  have hbw1 : Below w.heap.size w w1 := hXb.trans (hb1.mono (by omega))
  obtain ⟨ao, cp, rfl⟩ := trow_form hT
  go_wp2_with fail
  refine (termAt_any D d L B _ _ (lamT t) n w1 (by omega) hT (by omega) (fun r h => Nat.le_trans (lamT_cnt h) hc)).mono ?_
  rintro e w2 ht
  obtain ⟨b1, m1, e1, b2, m2, e2, b3, m3, e3, rfl, hb2, ho⟩ := ht
  have hz2 := hb2.size
  have hbw2 : Below w.heap.size w w2 := hbw1.trans (hb2.mono (by omega))
  have x2 := (hb2.block (w.heap.size + 1) (by omega)).trans ((hb1.block (w.heap.size + 1) (by omega)).trans hX1)
  obtain ⟨p0, p1, p2, p3, p4, p5, p6, p7, p8⟩ := Nine.box x2
  have pf := row_free x2
  obtain ⟨R, hR⟩ : ∃ R, (nthM (lamT t) n).1 = R := ⟨_, rfl⟩
  obtain ⟨rb, hrb⟩ : ∃ rb, (nthM (lamT t) n).2 = rb := ⟨_, rfl⟩
  have HV : Hid ((latM t n).1 = R ∧ (latM t n).2 = rb) := ⟨hR, hrb⟩
  rw [hR] at ho ⊢
  rw [hrb]
  clear hR hrb
  go_wp2_with fail
  obtain ⟨Y, hYe⟩ : ∃ Y, Y = set9 w2 (w.heap.size + 1) 0 (.int .i64 R.K) (.int .i64 R.N) (.string R.S) (.string R.Z) (.int .i64 R.T.K) (.int .i64 R.T.N) (.slice b1 m1 e1) (.slice b2 m2 e2) (.slice b3 m3 e3) := ⟨_, rfl⟩
  have hYb : Below w.heap.size w Y := by rw [hYe]; exact set9_below hbw2 (by omega)
  have hYs : Y.heap.size = w2.heap.size := by rw [hYe]; exact set9_size _ _ _ _ _ _ _ _ _ _ _ _
  have hYo : ∀ k, k ≠ w.heap.size + 1 → Y.heap[k]? = w2.heap[k]? := fun k hk => by rw [hYe]; exact set9_other k hk
  refine bodyPost_ret (v := .tuple #[.agg #[.int .i64 R.K, .int .i64 R.N, .string R.S, .string R.Z, .int .i64 R.T.K, .int .i64 R.T.N, .slice b1 m1 e1, .slice b2 m2 e2, .slice b3 m3 e3], .bool rb]) (by simp [results, Try.results22, go_sem, p0, p1, p2, p3, p4, p5, p6, p7, p8]) rfl ?_
  have hfin : TellM w Y (D + 1) d (.returned (.tuple #[.agg #[.int .i64 R.K, .int .i64 R.N, .string R.S, .string R.Z, .int .i64 R.T.K, .int .i64 R.T.N, .slice b1 m1 e1, .slice b2 m2 e2, .slice b3 m3 e3], .bool rb])) R rb := ⟨_, _, _, _, _, _, _, _, _, rfl, hYb, ho.keep (fun k hk1 hk2 => hYo k (by omega)) (by omega) (by omega)⟩
  rw [hYe] at hfin
  rw [HV.out.1, HV.out.2]
  exact hfin

end Go.Proofs.Ytgckmnchlkgakaa

/-
  The model's 'l1In'.
-/
namespace Go.Proofs.Ytgckmnchlkgakaa
open Go.RowKit
set_option linter.unusedVariables false
set_option linter.unusedSimpArgs false

theorem l1In3_any (x lo hi : Int) (b : Bool) (hb : b = (decide (lo ≤ x) && decide (x ≤ hi))) (w : World) : Calls Try.prog 50 #[.int .i64 x, .int .i64 lo, .int .i64 hi] w fun e w' => e = .returned (.bool b) ∧ w' = w := by
  by_cases h1 : lo ≤ x
  · by_cases h2 : x ≤ hi
    · have HB : Hid (b = true) := by show _ = _; rw [hb]; simp [h1, h2]
      clear hb
      go_enter Try.func50, Try.ntmps50
      go_wp2_with fail
      go_ret
      exact ⟨ret_bool (by rw [HB.out]), rfl⟩
    · have HB : Hid (b = false) := by show _ = _; rw [hb]; simp [h2]
      clear hb
      go_enter Try.func50, Try.ntmps50
      go_wp2_with fail
      go_ret
      exact ⟨ret_bool (by rw [HB.out]), rfl⟩
  · have HB : Hid (b = false) := by show _ = _; rw [hb]; simp [h1]
    clear hb
    go_enter Try.func50, Try.ntmps50
    go_wp2_with fail
    go_ret
    exact ⟨ret_bool (by rw [HB.out]), rfl⟩

end Go.Proofs.Ytgckmnchlkgakaa
