/-
  What the model's 'InsText' comes to: the same as the program's.
-/
import Derived.Test.YtmkebjgeheohhaaDoorInT
import Derived.Test.YtmkebjgeheohhaaDoorL9
import Derived.Test.YtmkebjgeheohhaaDoorRb
namespace Go.Proofs.YtmkebjgeheohhaaDoor
open Go.RowKit
set_option linter.unusedVariables false
set_option linter.unusedSimpArgs false

theorem six_text (a b c d e f : Int) : Lib.join ([a, b, c, d, e, f].map Lib.itoa) [32] = (((((Lib.itoa a ++ [32] ++ Lib.itoa b) ++ [32] ++ Lib.itoa c) ++ [32] ++ Lib.itoa d) ++ [32] ++ Lib.itoa e) ++ [32] ++ Lib.itoa f) := by
  simp [Lib.join_cons, Lib.joinTail]

theorem join_next (P : List Int) (x : Int) (h : P ≠ []) : Lib.join ((P ++ [x]).map Lib.itoa) [32] = Lib.join (P.map Lib.itoa) [32] ++ [32] ++ Lib.itoa x := by
  rw [List.map_append, join_app _ _ (by simpa using h), List.append_assoc]
  congr 1
  simp [Lib.joinTail]

/-- The text so far: so many of the list are told. -/
def insJ (i : Insn) (j : Nat) : List UInt8 := Lib.join (([i.Op, i.D, i.X, i.Y, i.N, i.To] ++ i.L.take j).map Lib.itoa) [32]
theorem insJ_next (i : Insn) (j : Nat) (h : j < i.L.length) : insJ i (j + 1) = insJ i j ++ [32] ++ Lib.itoa i.L[j] := by
  rw [insJ, List.take_succ_eq_append_getElem h, ← List.append_assoc, join_next _ _ (by simp)]; rfl
theorem insJ_len (i : Insn) (j : Nat) (h : okI i) (hl : i.L.length ≤ 1048576) : (insJ i j).length ≤ 24000000 := by
  refine Nat.le_trans (digits_len _ fun x hx => h x ?_) ?_
  · rcases List.mem_append.1 hx with h | h
    · exact List.mem_append.2 (Or.inl h)
    · exact List.mem_append.2 (Or.inr (List.mem_of_mem_take h))
  · rw [List.length_append, List.length_take]
    simp
    omega

set_option maxRecDepth 100000 in
set_option maxHeartbeats 1000000 in
theorem sInsText_any (L B : Nat) (i : Insn) (ao : Option Addr) (len cap : Nat) (w : World) (hB : B ≤ w.heap.size) (hs : Is L B w ao len i.L) (hl : len ≤ 1048576) (hok : okI i) :
    Calls Tryd.prog 7 #[vI i ao len cap] w fun e w' => e = .returned (.string ⟨(insT i).toArray⟩) ∧ Below w.heap.size w w' := by
  obtain ⟨X, hX⟩ : ∃ X, X = w.alloc (.cells #[.int .i64 i.Op, .int .i64 i.D, .int .i64 i.X, .int .i64 i.Y, .int .i64 i.N, .slice ao len cap, .int .i64 i.To] 27) := ⟨_, rfl⟩
  have hXb : Below w.heap.size w X := by rw [hX]; exact (Below.refl _ _).alloc (Nat.le_refl _) _
  have hXz : w.heap.size < X.heap.size := by rw [hX]; simp
  have hX1 : X.heap[w.heap.size]? = some (.cells #[.int .i64 i.Op, .int .i64 i.D, .int .i64 i.X, .int .i64 i.Y, .int .i64 i.N, .slice ao len cap, .int .i64 i.To] 27 (0, 0)) := by rw [hX]; exact heap_new rfl
  obtain ⟨a0, a1, a2, a3, a4, a5, a6⟩ := cells7 hX1
  have HX : Hid (X = _) := hX
  clear hX
  go_enter Tryd.func7, Tryd.ntmps7
  go_wp2_with fail
  have q0 : in64 i.Op := hok _ (by simp [allI])
  have q1 : in64 i.D := hok _ (by simp [allI])
  have q2 : in64 i.X := hok _ (by simp [allI])
  have q3 : in64 i.Y := hok _ (by simp [allI])
  have q4 : in64 i.N := hok _ (by simp [allI])
  have q5 : in64 i.To := hok _ (by simp [allI])
  obtain ⟨l0, l1, l2, l3, l4, l5, l6, l7, l8, l9⟩ : (¬ 9223372036854775807 < (Lib.itoa i.Op).length + 1) ∧ (¬ 9223372036854775807 < (Lib.itoa i.Op).length + 1 + (Lib.itoa i.D).length) ∧ (¬ 9223372036854775807 < (Lib.itoa i.Op).length + 1 + (Lib.itoa i.D).length + 1) ∧ (¬ 9223372036854775807 < (Lib.itoa i.Op).length + 1 + (Lib.itoa i.D).length + 1 + (Lib.itoa i.X).length) ∧ (¬ 9223372036854775807 < (Lib.itoa i.Op).length + 1 + (Lib.itoa i.D).length + 1 + (Lib.itoa i.X).length + 1) ∧ (¬ 9223372036854775807 < (Lib.itoa i.Op).length + 1 + (Lib.itoa i.D).length + 1 + (Lib.itoa i.X).length + 1 + (Lib.itoa i.Y).length) ∧ (¬ 9223372036854775807 < (Lib.itoa i.Op).length + 1 + (Lib.itoa i.D).length + 1 + (Lib.itoa i.X).length + 1 + (Lib.itoa i.Y).length + 1) ∧ (¬ 9223372036854775807 < (Lib.itoa i.Op).length + 1 + (Lib.itoa i.D).length + 1 + (Lib.itoa i.X).length + 1 + (Lib.itoa i.Y).length + 1 + (Lib.itoa i.N).length) ∧ (¬ 9223372036854775807 < (Lib.itoa i.Op).length + 1 + (Lib.itoa i.D).length + 1 + (Lib.itoa i.X).length + 1 + (Lib.itoa i.Y).length + 1 + (Lib.itoa i.N).length + 1) ∧ (¬ 9223372036854775807 < (Lib.itoa i.Op).length + 1 + (Lib.itoa i.D).length + 1 + (Lib.itoa i.X).length + 1 + (Lib.itoa i.Y).length + 1 + (Lib.itoa i.N).length + 1 + (Lib.itoa i.To).length) := by
    have b0 := Lib.itoa_length_le i.Op q0.1 q0.2
    have b1 := Lib.itoa_length_le i.D q1.1 q1.2
    have b2 := Lib.itoa_length_le i.X q2.1 q2.2
    have b3 := Lib.itoa_length_le i.Y q3.1 q3.2
    have b4 := Lib.itoa_length_le i.N q4.1 q4.2
    have b5 := Lib.itoa_length_le i.To q5.1 q5.2
    refine ⟨?_, ?_, ?_, ?_, ?_, ?_, ?_, ?_, ?_, ?_⟩ <;> omega
  have HK : Hid (∀ x : Int, in64 x → ∀ w' : World, Below X.heap.size X w' → Calls Tryd.prog 19 #[.int .i64 x] w' fun e w'' => e = .returned (.string ⟨(Lib.itoa x).toArray⟩) ∧ Below X.heap.size X w'') := fun x hx w' hC =>
    (l9_any x hx.1 hx.2 w').mono fun e w'' ⟨h1, h2⟩ => ⟨h1, hC.trans (h2.mono hC.size)⟩
  rw [← HX.out]
  refine wp_region_below (by kernel_rfl) (by kernel_rfl) ?_
  repeat (first
    | go_big_quiet_skip
    | (go_big_quiet_want; unfold Oper.quiet; apply Exists.intro; refine ⟨fun w' hC => ?_, ?_⟩; (have g0 := (bcell hC hXz 0).trans a0; have g1 := (bcell hC hXz 1).trans a1; have g2 := (bcell hC hXz 2).trans a2; have g3 := (bcell hC hXz 3).trans a3; have g4 := (bcell hC hXz 4).trans a4; have g5 := (bcell hC hXz 5).trans a5; have g6 := (bcell hC hXz 6).trans a6; unfold Oper.quietAt; go_simp; first | exact rfl | exact ⟨rfl, rfl⟩ | (go_at_call 19; exact HK.out _ (by first | exact q0 | exact q1 | exact q2 | exact q3 | exact q4 | exact q5) _ hC)); go_big_quiet_on; simp only [Act.put, List.setIfInBounds_toArray, List.set_cons_zero, List.set_cons_succ]))
  refine wpQuiet_nil ?_
  intro w1 hb1
  have hz1 := hb1.size
  have hbw1 : Below w.heap.size w w1 := hXb.trans (hb1.mono (by omega))
  have c5 := (bcell hb1 hXz 5).trans a5
  have HS : Hid (Value.string ((⟨(Lib.itoa i.Op).toArray⟩ : ByteArray) ++ ⟨#[32]⟩ ++ ⟨(Lib.itoa i.D).toArray⟩ ++ ⟨#[32]⟩ ++ ⟨(Lib.itoa i.X).toArray⟩ ++ ⟨#[32]⟩ ++ ⟨(Lib.itoa i.Y).toArray⟩ ++ ⟨#[32]⟩ ++ ⟨(Lib.itoa i.N).toArray⟩ ++ ⟨#[32]⟩ ++ ⟨(Lib.itoa i.To).toArray⟩) = .string ⟨(insJ i 0).toArray⟩) := by
    show _ = _
    rw [insJ, List.take_zero, List.append_nil, six_text, ← str_add, ← str_add, ← str_add, ← str_add, ← str_add, ← str_add, ← str_add, ← str_add, ← str_add, ← str_add]
  rw [HS.out]
  have HL : Hid (len = i.L.length) := hs.1
  have HO : Hid (okI i) := hok
  have hs1 := hs.below hbw1 hB
  clear l0 l1 l2 l3 l4 l5 l6 l7 l8 l9 q0 q1 q2 q3 q4 q5 a0 a1 a2 a3 a4 a5 a6 hX1 hok HS
  have hle0 := insJ_len i 0 HO.out (by have := HL.out; omega)
  go_wp2_with fail
  go_loopw [3, 4] (fun v i' wr => ∃ (j : Nat) (z : List UInt8), j ≤ len ∧ i' = .int .i64 j ∧ v = .string ⟨z.toArray⟩ ∧ Hid (z = insJ i j) ∧ z.length ≤ 24000000 ∧ Below w1.heap.size w1 wr) (fun _ i' _ => len - (intOf i').toNat)
  case atStart => exact ⟨0, _, by omega, rfl, rfl, rfl, hle0, Below.refl _ _⟩
  case round =>
    obtain ⟨j, z, hj, rfl, rfl, HZ, hzl, hbr⟩ := hrel
    have hszr := hbr.size
    have d5 := (bcell hbr (by omega) 5).trans c5
    by_cases hlt : j < len
    · have hlt' : j < i.L.length := by have := HL.out; omega
      obtain ⟨b, o, rfl, _, hbB, e0⟩ := hs1.2.2 j hlt'
      have f0 := (bcell hbr (by omega) _).trans e0
      have HM : Hid (in64 i.L[j]) := HO.out _ (by simp [allI])
      have HNX : Hid (z ++ [32] ++ Lib.itoa i.L[j] = insJ i (j + 1)) := by show _ = _; rw [HZ.out]; exact (insJ_next i j hlt').symm
      have hle2 := insJ_len i (j + 1) HO.out (by have := HL.out; omega)
      have hx21 := Lib.itoa_length_le i.L[j] HM.out.1 HM.out.2
      generalize i.L[j] = x at *
      clear e0
      go_wp2_with fail
      refine (l9_any x HM.out.1 HM.out.2 _).mono ?_
      rintro e w2 ⟨rfl, hb2⟩
      have hbr2 := hbr.trans (hb2.mono hszr)
      go_wp2_with fail
      go_roundw
      case rel => exact ⟨j + 1, _, by omega, by go_num, by rw [← HNX.out, ← str_add, ← str_add], rfl, hle2, hbr2⟩
      case measure => simp [intOf]; omega
    · have HF : Hid (z = insT i) := by show _ = _; rw [HZ.out, insJ, insT, allI, List.take_of_length_le (by have := HL.out; omega)]
      go_wp2_with fail
      go_ret
      exact ⟨by rw [← HF.out]; rfl, hbw1.trans (hbr.mono (by omega))⟩

end Go.Proofs.YtmkebjgeheohhaaDoor
