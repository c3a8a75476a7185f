/-
  Free names in the model: 'l2Binds'.
-/
import Derived.Test.YtgmbiabmeeemdaaLf0
namespace Go.Proofs.Ytgmbiabmeeemdaa
open Go.RowKit
set_option linter.unusedVariables false
set_option linter.unusedSimpArgs false

/-- A slice literal of names: a block of its own. -/
def LitE (w w' : World) (e : Ending) (N : List (List UInt8)) : Prop := ∃ g, e = .returned (.slice (some ⟨g, 0, none⟩) N.length N.length) ∧ Below w.heap.size w w' ∧ w.heap.size ≤ g ∧ w'.heap[g]? = some (.cells (N.map tk).toArray 9 (0, 0))

theorem lit_0 (w : World) (o : Obj) : LitE w ((w.alloc o).alloc (.cells #[] 9)) (.returned (.slice (some ⟨w.heap.size + 1, 0, none⟩) 0 0)) [] :=
  ⟨_, rfl, ((Below.refl _ _).alloc (Nat.le_refl _) _).alloc (by simp) _, by omega, heap_new (by simp)⟩
theorem lit_1 (w : World) (o : Obj) (s : ByteArray) : LitE w ((w.alloc o).alloc (.cells #[.string s] 9)) (.returned (.slice (some ⟨w.heap.size + 1, 0, none⟩) 1 1)) [bs s] :=
  ⟨_, rfl, ((Below.refl _ _).alloc (Nat.le_refl _) _).alloc (by simp) _, by omega, by rw [heap_new (by simp)]; simp [tk_bs]⟩
theorem lit_2 (w : World) (o : Obj) (s z : ByteArray) : LitE w ((w.alloc o).alloc (.cells #[.string s, .string z] 9)) (.returned (.slice (some ⟨w.heap.size + 1, 0, none⟩) 2 2)) [bs s, bs z] :=
  ⟨_, rfl, ((Below.refl _ _).alloc (Nat.le_refl _) _).alloc (by simp) _, by omega, by rw [heap_new (by simp)]; simp [tk_bs]⟩

set_option maxRecDepth 100000 in
set_option maxHeartbeats 1000000 in
theorem l2Binds_any (t : Tm) (a1 : Option Addr) (l1 c1 : Nat) (a2 : Option Addr) (l2 c2 : Nat) (a3 : Option Addr) (l3 c3 : Nat) (i : Nat) (hi : i ≤ 1000) (w : World) :
    Calls Try.prog 45 #[.agg #[.int .i64 t.K, .int .i64 t.N, .string t.S, .string t.Z, .int .i64 t.T.K, .int .i64 t.T.N, .slice a1 l1 c1, .slice a2 l2 c2, .slice a3 l3 c3], .int .i64 i] w fun e w' => LitE w w' e (bindsW t.K (bs t.S) (bs t.Z) i) := by
  by_cases h4 : t.K = 4
  · have HN : Hid (bindsW t.K (bs t.S) (bs t.Z) i = [bs t.S]) := by show _ = _; simp [bindsW, h4]
    rw [HN.out]
    go_enter Try.func45, Try.ntmps45
    go_wp2_with fail
    go_ret
    exact lit_1 _ _ _
  by_cases h7 : t.K = 7
  · have HN : Hid (bindsW t.K (bs t.S) (bs t.Z) i = [bs t.S]) := by show _ = _; simp [bindsW, h7]
    rw [HN.out]
    go_enter Try.func45, Try.ntmps45
    go_wp2_with fail
    go_ret
    exact lit_1 _ _ _
  by_cases h6 : t.K = 6
  · by_cases hi1 : i = 1
    · have HN : Hid (bindsW t.K (bs t.S) (bs t.Z) i = [bs t.S]) := by show _ = _; simp [bindsW, h6, hi1]
      have bi : ((i : Int) == 1) = true := by simp [hi1]
      rw [HN.out]
      clear hi1
      go_enter Try.func45, Try.ntmps45
      go_wp2_with fail
      go_ret
      exact lit_1 _ _ _
    · have HN : Hid (bindsW t.K (bs t.S) (bs t.Z) i = []) := by show _ = _; simp [bindsW, h6, hi1]
      have bi : ((i : Int) == 1) = false := by rw [beq_eq_false_iff_ne]; omega
      rw [HN.out]
      clear hi1
      go_enter Try.func45, Try.ntmps45
      go_wp2_with fail
      go_ret
      exact lit_0 _ _
  by_cases h17 : t.K = 17
  · by_cases hi1 : i = 1
    · have HN : Hid (bindsW t.K (bs t.S) (bs t.Z) i = [bs t.S]) := by show _ = _; simp [bindsW, h17, hi1]
      have bi : ((i : Int) == 1) = true := by simp [hi1]
      rw [HN.out]
      clear hi1
      go_enter Try.func45, Try.ntmps45
      go_wp2_with fail
      go_ret
      exact lit_1 _ _ _
    · have HN : Hid (bindsW t.K (bs t.S) (bs t.Z) i = []) := by show _ = _; simp [bindsW, h17, hi1]
      have bi : ((i : Int) == 1) = false := by rw [beq_eq_false_iff_ne]; omega
      rw [HN.out]
      clear hi1
      go_enter Try.func45, Try.ntmps45
      go_wp2_with fail
      go_ret
      exact lit_0 _ _
  by_cases h14 : t.K = 14
  · by_cases hi2 : i = 2
    · have HN : Hid (bindsW t.K (bs t.S) (bs t.Z) i = [bs t.S, bs t.Z]) := by show _ = _; simp [bindsW, h14, hi2]
      have bi : ((i : Int) == 2) = true := by simp [hi2]
      rw [HN.out]
      clear hi2
      go_enter Try.func45, Try.ntmps45
      go_wp2_with fail
      go_ret
      exact lit_2 _ _ _ _
    · have HN : Hid (bindsW t.K (bs t.S) (bs t.Z) i = []) := by show _ = _; simp [bindsW, h14, hi2]
      have bi : ((i : Int) == 2) = false := by rw [beq_eq_false_iff_ne]; omega
      rw [HN.out]
      clear hi2
      go_enter Try.func45, Try.ntmps45
      go_wp2_with fail
      go_ret
      exact lit_0 _ _
  have HN : Hid (bindsW t.K (bs t.S) (bs t.Z) i = []) := by show _ = _; simp [bindsW, h4, h7, h6, h17, h14]
  have b4 : (t.K == 4) = false := by simp [h4]
  have b7 : (t.K == 7) = false := by simp [h7]
  have b6 : (t.K == 6) = false := by simp [h6]
  have b17 : (t.K == 17) = false := by simp [h17]
  have b14 : (t.K == 14) = false := by simp [h14]
  clear h4 h7 h6 h17 h14
  rw [HN.out]
  go_enter Try.func45, Try.ntmps45
  go_wp2_with fail
  go_ret
  exact lit_0 _ _

end Go.Proofs.Ytgmbiabmeeemdaa
