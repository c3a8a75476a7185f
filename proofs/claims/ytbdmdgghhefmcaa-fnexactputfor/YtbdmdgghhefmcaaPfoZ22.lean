/-
  What the program's 'formOf' comes to, by 'rebuilt'.
-/
import Derived.Test.YtbdmdgghhefmcaaPfoFr3
import Derived.Test.YtbdmdgghhefmcaaPfoZ5
namespace Go.Proofs.Ytbdmdgghhefmcaa
open Go.RowKit
set_option linter.unusedVariables false
set_option linter.unusedSimpArgs false

/-- What 'formOf' answers of a term, in every world that goes on from w. -/
def SaidFo (l : Nat) : Prop := ∀ (D d L B : Nat) (t : Tm) (a1 : Option Addr) (l1 c1 : Nat) (a2 : Option Addr) (l2 c2 : Nat) (a3 : Option Addr) (l3 c3 : Nat) (m : Nat) (w : World), B ≤ w.heap.size → Fm L B w D d t a1 l1 a2 l2 a3 l3 → nodesM l t = some m → m ≤ 1000 →
    ∃ v, Fv L B w D l t v ∧ ∀ w', Below w.heap.size w w' → Calls Try.prog 57 #[.agg #[.int .i64 t.K, .int .i64 t.N, .string t.S, .string t.Z, .int .i64 t.T.K, .int .i64 t.T.N, .slice a1 l1 c1, .slice a2 l2 c2, .slice a3 l3 c3]] w' fun e w'' => e = .returned v ∧ Below w'.heap.size w' w''

set_option maxRecDepth 100000 in
set_option maxHeartbeats 1000000 in
theorem rebuilt_any (t : Tm) (a1 : Option Addr) (l1 c1 : Nat) (a2 : Option Addr) (l2 c2 : Nat) (a3 : Option Addr) (l3 c3 : Nat) (w w' : World) (m : Nat) (τ : TypeId) (u : Value) (hw : Below w.heap.size w w')
    (hcall : ∀ p X, w.heap.size ≤ p → Nx p w X 0 → Calls Try.prog 73 #[.agg #[.int .i64 t.K, .int .i64 t.N, .string t.S, .string t.Z, .int .i64 t.T.K, .int .i64 t.T.N, .slice a1 l1 c1, .slice a2 l2 c2, .slice a3 l3 c3], .pointer (some ⟨p, 0, none⟩), mdF] X fun e w'' => e = .returned (.iface τ u) ∧ Nx p X w'' (0 + m)) :
    Calls Try.prog 66 #[.agg #[.int .i64 t.K, .int .i64 t.N, .string t.S, .string t.Z, .int .i64 t.T.K, .int .i64 t.T.N, .slice a1 l1 c1, .slice a2 l2 c2, .slice a3 l3 c3], mdF] w' fun e w'' => e = .returned (.iface τ u) ∧ Below w'.heap.size w' w'' := by
  have hws := hw.size
  obtain ⟨X, hX⟩ : ∃ X, X = (w'.alloc (.cells #[.int .i64 t.K, .int .i64 t.N, .string t.S, .string t.Z, .int .i64 t.T.K, .int .i64 t.T.N, .slice a1 l1 c1, .slice a2 l2 c2, .slice a3 l3 c3] 35)).alloc (.cells #[.int .i64 0] 3) := ⟨_, rfl⟩
  have hXs : X.heap.size = w'.heap.size + 2 := by rw [hX]; simp
  have hXb : Below w'.heap.size w' X := by rw [hX]; exact ((Below.refl _ _).alloc (Nat.le_refl _) _).alloc (by simp) _
  have hXp : X.heap[w'.heap.size + 1]? = some (.cells #[.int .i64 0] 3 (0, 0)) := by rw [hX]; exact heap_new (by simp)
  have hNX : Nx (w'.heap.size + 1) w X 0 := ⟨Kf.of_below (hw.trans (hXb.mono hws)), hXp⟩
  have K := hcall (w'.heap.size + 1) X (by omega) hNX
  have HX : Hid (X = _) := hX
  clear hX hcall
  go_enter Try.func66, Try.ntmps66
  go_wp2_with fail
  rw [← HX.out]
  refine K.mono ?_
  rintro e w2 ⟨rfl, hN⟩
  have hb2 : Below w'.heap.size w' w2 := hXb.trans (hN.kf.below (fun k hk => by omega) (by omega))
  go_wp2_with fail
  go_ret
  exact ⟨rfl, hb2⟩

set_option maxRecDepth 100000 in
set_option maxHeartbeats 1000000 in
theorem fo_any (l : Nat) : SaidFo l := by
  intro D d L B t a1 l1 c1 a2 l2 c2 a3 l3 c3 m w hB hf hm hm6
  obtain ⟨V, hV, hcall⟩ := rb_any l D d L B t a1 l1 c1 a2 l2 c2 a3 l3 c3 m w hB hf hm
  refine ⟨V 0, hV 0, fun w' hw => ?_⟩
  obtain ⟨τ, u, hu⟩ := Fv.iface (hV 0)
  have K : ∀ Y, Below w'.heap.size w' Y → Calls Try.prog 66 #[.agg #[.int .i64 t.K, .int .i64 t.N, .string t.S, .string t.Z, .int .i64 t.T.K, .int .i64 t.T.N, .slice a1 l1 c1, .slice a2 l2 c2, .slice a3 l3 c3], mdF] Y fun e w'' => e = .returned (.iface τ u) ∧ Below Y.heap.size Y w'' := fun Y hY =>
    rebuilt_any t a1 l1 c1 a2 l2 c2 a3 l3 c3 w Y m τ u (hw.trans (hY.mono hw.size)) fun p X hp hX => by
      have := hcall p X 0 (by omega) hX (by omega) (by omega)
      rw [hu] at this
      exact this
  rw [hu]
  obtain ⟨X, hX⟩ : ∃ X, X = w'.alloc (.cells #[.int .i64 t.K, .int .i64 t.N, .string t.S, .string t.Z, .int .i64 t.T.K, .int .i64 t.T.N, .slice a1 l1 c1, .slice a2 l2 c2, .slice a3 l3 c3] 35) := ⟨_, rfl⟩
  have hXb : Below w'.heap.size w' X := by rw [hX]; exact (Below.refl _ _).alloc (Nat.le_refl _) _
  have KX := K X hXb
  have HX : Hid (X = _) := hX
  clear hX hcall hV hu K
  go_enter Try.func57, Try.ntmps57
  go_wp2_with fail
  rw [← HX.out]
  refine KX.mono ?_
  rintro e w2 ⟨rfl, hb⟩
  have hb2 : Below w'.heap.size w' w2 := hXb.trans (hb.mono hXb.size)
  go_wp2_with fail
  go_ret
  exact ⟨rfl, hb2⟩

end Go.Proofs.Ytbdmdgghhefmcaa

/-
  What the program's 'shapeOf' comes to.
-/
namespace Go.Proofs.Ytbdmdgghhefmcaa
open Go.RowKit Go.PlainAid
set_option linter.unusedVariables false
set_option linter.unusedSimpArgs false

set_option maxHeartbeats 1000000 in
theorem shapeOf_any (k : Int) (w : World) : Calls Try.prog 70 #[.int .i64 k] w fun e w' => e = .returned (.tuple #[.agg #[.int .i64 (shN k), .int .i64 (shL k), .int .i64 (shM k), .bool (shT k), .int .i64 (shS k), .int .i64 (shP k)], .bool (kOk k)]) ∧ Below w.heap.size w w' := by
  by_cases h1 : k = 1
  · subst h1; go_enter Try.func70, Try.ntmps70; go_wp2; refine bodyPost_ret (v := .tuple #[.agg #[.int .i64 0, .int .i64 (-1000000), .int .i64 1000000, .bool false, .int .i64 0, .int .i64 0], .bool true]) (by simp [results, Try.results70, go_sem]) rfl ⟨rfl, ?_⟩; exact (Below.refl _ _).alloc (Nat.le_refl _) _
  by_cases h2 : k = 2
  · subst h2; go_enter Try.func70, Try.ntmps70; go_wp2; refine bodyPost_ret (v := .tuple #[.agg #[.int .i64 0, .int .i64 (0), .int .i64 1, .bool false, .int .i64 0, .int .i64 0], .bool true]) (by simp [results, Try.results70, go_sem]) rfl ⟨rfl, ?_⟩; exact (Below.refl _ _).alloc (Nat.le_refl _) _
  by_cases h3 : k = 3
  · subst h3; go_enter Try.func70, Try.ntmps70; go_wp2; refine bodyPost_ret (v := .tuple #[.agg #[.int .i64 1, .int .i64 (0), .int .i64 0, .bool false, .int .i64 2, .int .i64 0], .bool true]) (by simp [results, Try.results70, go_sem]) rfl ⟨rfl, ?_⟩; exact (Below.refl _ _).alloc (Nat.le_refl _) _
  by_cases h4 : k = 4
  · subst h4; go_enter Try.func70, Try.ntmps70; go_wp2; refine bodyPost_ret (v := .tuple #[.agg #[.int .i64 1, .int .i64 (0), .int .i64 0, .bool true, .int .i64 0, .int .i64 1], .bool true]) (by simp [results, Try.results70, go_sem]) rfl ⟨rfl, ?_⟩; exact (Below.refl _ _).alloc (Nat.le_refl _) _
  by_cases h5 : k = 5
  · subst h5; go_enter Try.func70, Try.ntmps70; go_wp2; refine bodyPost_ret (v := .tuple #[.agg #[.int .i64 0, .int .i64 (0), .int .i64 0, .bool false, .int .i64 0, .int .i64 2], .bool true]) (by simp [results, Try.results70, go_sem]) rfl ⟨rfl, ?_⟩; exact (Below.refl _ _).alloc (Nat.le_refl _) _
  by_cases h6 : k = 6
  · subst h6; go_enter Try.func70, Try.ntmps70; go_wp2; refine bodyPost_ret (v := .tuple #[.agg #[.int .i64 1, .int .i64 (0), .int .i64 2, .bool false, .int .i64 0, .int .i64 2], .bool true]) (by simp [results, Try.results70, go_sem]) rfl ⟨rfl, ?_⟩; exact (Below.refl _ _).alloc (Nat.le_refl _) _
  by_cases h7 : k = 7
  · subst h7; go_enter Try.func70, Try.ntmps70; go_wp2; refine bodyPost_ret (v := .tuple #[.agg #[.int .i64 1, .int .i64 (0), .int .i64 2, .bool true, .int .i64 0, .int .i64 2], .bool true]) (by simp [results, Try.results70, go_sem]) rfl ⟨rfl, ?_⟩; exact (Below.refl _ _).alloc (Nat.le_refl _) _
  by_cases h8 : k = 8
  · subst h8; go_enter Try.func70, Try.ntmps70; go_wp2; refine bodyPost_ret (v := .tuple #[.agg #[.int .i64 0, .int .i64 (0), .int .i64 0, .bool false, .int .i64 0, .int .i64 3], .bool true]) (by simp [results, Try.results70, go_sem]) rfl ⟨rfl, ?_⟩; exact (Below.refl _ _).alloc (Nat.le_refl _) _
  by_cases h9 : k = 9
  · subst h9; go_enter Try.func70, Try.ntmps70; go_wp2; refine bodyPost_ret (v := .tuple #[.agg #[.int .i64 0, .int .i64 (0), .int .i64 0, .bool false, .int .i64 0, .int .i64 2], .bool true]) (by simp [results, Try.results70, go_sem]) rfl ⟨rfl, ?_⟩; exact (Below.refl _ _).alloc (Nat.le_refl _) _
  by_cases h10 : k = 10
  · subst h10; go_enter Try.func70, Try.ntmps70; go_wp2; refine bodyPost_ret (v := .tuple #[.agg #[.int .i64 0, .int .i64 (0), .int .i64 0, .bool false, .int .i64 0, .int .i64 1], .bool true]) (by simp [results, Try.results70, go_sem]) rfl ⟨rfl, ?_⟩; exact (Below.refl _ _).alloc (Nat.le_refl _) _
  by_cases h11 : k = 11
  · subst h11; go_enter Try.func70, Try.ntmps70; go_wp2; refine bodyPost_ret (v := .tuple #[.agg #[.int .i64 0, .int .i64 (0), .int .i64 0, .bool false, .int .i64 0, .int .i64 1], .bool true]) (by simp [results, Try.results70, go_sem]) rfl ⟨rfl, ?_⟩; exact (Below.refl _ _).alloc (Nat.le_refl _) _
  by_cases h12 : k = 12
  · subst h12; go_enter Try.func70, Try.ntmps70; go_wp2; refine bodyPost_ret (v := .tuple #[.agg #[.int .i64 0, .int .i64 (0), .int .i64 0, .bool true, .int .i64 0, .int .i64 0], .bool true]) (by simp [results, Try.results70, go_sem]) rfl ⟨rfl, ?_⟩; exact (Below.refl _ _).alloc (Nat.le_refl _) _
  by_cases h13 : k = 13
  · subst h13; go_enter Try.func70, Try.ntmps70; go_wp2; refine bodyPost_ret (v := .tuple #[.agg #[.int .i64 0, .int .i64 (0), .int .i64 0, .bool false, .int .i64 0, .int .i64 2], .bool true]) (by simp [results, Try.results70, go_sem]) rfl ⟨rfl, ?_⟩; exact (Below.refl _ _).alloc (Nat.le_refl _) _
  by_cases h14 : k = 14
  · subst h14; go_enter Try.func70, Try.ntmps70; go_wp2; refine bodyPost_ret (v := .tuple #[.agg #[.int .i64 2, .int .i64 (0), .int .i64 0, .bool false, .int .i64 0, .int .i64 3], .bool true]) (by simp [results, Try.results70, go_sem]) rfl ⟨rfl, ?_⟩; exact (Below.refl _ _).alloc (Nat.le_refl _) _
  by_cases h15 : k = 15
  · subst h15; go_enter Try.func70, Try.ntmps70; go_wp2; refine bodyPost_ret (v := .tuple #[.agg #[.int .i64 0, .int .i64 (1), .int .i64 5, .bool false, .int .i64 0, .int .i64 2], .bool true]) (by simp [results, Try.results70, go_sem]) rfl ⟨rfl, ?_⟩; exact (Below.refl _ _).alloc (Nat.le_refl _) _
  by_cases h16 : k = 16
  · subst h16; go_enter Try.func70, Try.ntmps70; go_wp2; refine bodyPost_ret (v := .tuple #[.agg #[.int .i64 0, .int .i64 (0), .int .i64 0, .bool true, .int .i64 0, .int .i64 1], .bool true]) (by simp [results, Try.results70, go_sem]) rfl ⟨rfl, ?_⟩; exact (Below.refl _ _).alloc (Nat.le_refl _) _
  by_cases h17 : k = 17
  · subst h17; go_enter Try.func70, Try.ntmps70; go_wp2; refine bodyPost_ret (v := .tuple #[.agg #[.int .i64 1, .int .i64 (0), .int .i64 0, .bool false, .int .i64 0, .int .i64 2], .bool true]) (by simp [results, Try.results70, go_sem]) rfl ⟨rfl, ?_⟩; exact (Below.refl _ _).alloc (Nat.le_refl _) _
  have e1 : shN k = 0 := by unfold shN; simp [h3, h4, h6, h7, h17, h14]
  have e2 : shL k = 0 := by unfold shL; simp [h1, h15]
  have e3 : shM k = 0 := by unfold shM; simp [h1, h2, h6, h7, h15]
  have e4 : shT k = false := by unfold shT; simp [h4, h7, h12, h16]
  have e5 : shS k = 0 := by unfold shS; simp [h3]
  have e6 : shP k = 0 := by unfold shP; simp [h4, h10, h11, h16, h5, h6, h7, h9, h13, h15, h17, h8, h14]
  have e7 : kOk k = false := by unfold kOk; simp; omega
  rw [e1, e2, e3, e4, e5, e6, e7]
  have b1 : (k == 1) = false := beq_eq_false_iff_ne.2 h1
  have b2 : (k == 2) = false := beq_eq_false_iff_ne.2 h2
  have b3 : (k == 3) = false := beq_eq_false_iff_ne.2 h3
  have b4 : (k == 4) = false := beq_eq_false_iff_ne.2 h4
  have b5 : (k == 5) = false := beq_eq_false_iff_ne.2 h5
  have b6 : (k == 6) = false := beq_eq_false_iff_ne.2 h6
  have b7 : (k == 7) = false := beq_eq_false_iff_ne.2 h7
  have b8 : (k == 8) = false := beq_eq_false_iff_ne.2 h8
  have b9 : (k == 9) = false := beq_eq_false_iff_ne.2 h9
  have b10 : (k == 10) = false := beq_eq_false_iff_ne.2 h10
  have b11 : (k == 11) = false := beq_eq_false_iff_ne.2 h11
  have b12 : (k == 12) = false := beq_eq_false_iff_ne.2 h12
  have b13 : (k == 13) = false := beq_eq_false_iff_ne.2 h13
  have b14 : (k == 14) = false := beq_eq_false_iff_ne.2 h14
  have b15 : (k == 15) = false := beq_eq_false_iff_ne.2 h15
  have b16 : (k == 16) = false := beq_eq_false_iff_ne.2 h16
  have b17 : (k == 17) = false := beq_eq_false_iff_ne.2 h17
  clear e1 e2 e3 e4 e5 e6 e7 h1 h2 h3 h4 h5 h6 h7 h8 h9 h10 h11 h12 h13 h14 h15 h16 h17
  go_enter Try.func70, Try.ntmps70; go_wp2; refine bodyPost_ret (v := .tuple #[.agg #[.int .i64 0, .int .i64 0, .int .i64 0, .bool false, .int .i64 0, .int .i64 0], .bool false]) (by simp [results, Try.results70, go_sem]) rfl ⟨rfl, ?_⟩; exact (Below.refl _ _).alloc (Nat.le_refl _) _

end Go.Proofs.Ytbdmdgghhefmcaa
