/-
  What the program's 'termNodesWithin', 'NodesOf', 'TermOk' come to.
-/
import Derived.Test.YtgckmnchlkgakaaLmaTw
namespace Go.Proofs.Ytgckmnchlkgakaa
open Go.RowKit Go.PlainAid
set_option linter.unusedVariables false
set_option linter.unusedSimpArgs false

def SaidNM (l : Nat) : Prop := ∀ (D d L B : Nat) (t : Tm) (a1 : Option Addr) (l1 c1 : Nat) (a2 : Option Addr) (l2 c2 : Nat) (a3 : Option Addr) (l3 c3 : Nat) (most : Nat) (w : World), B ≤ w.heap.size → Fm L B w D d t a1 l1 a2 l2 a3 l3 → most ≤ 150 →
    Calls Try.prog 69 #[.agg #[.int .i64 t.K, .int .i64 t.N, .string t.S, .string t.Z, .int .i64 t.T.K, .int .i64 t.T.N, .slice a1 l1 c1, .slice a2 l2 c2, .slice a3 l3 c3], .int .i64 l, .int .i64 most] w fun e w' =>
      e = .returned (.tuple #[.int .i64 ((lid most (nodesM l t)).getD 0), .bool (lid most (nodesM l t)).isSome]) ∧ Below w.heap.size w w'

theorem lid_zero (l : Nat) (t : Tm) : lid 0 (nodesM l t) = none := by
  cases h : nodesM l t with
  | none => rfl
  | some m => have := nodesM_pos l t m h; simp [lid]; omega
theorem lid_no {most : Nat} {o : Option Nat} (h : ∀ m, o = some m → most < m) : lid most o = none := by
  cases o with
  | none => rfl
  | some m => have := h m rfl; simp [lid]; omega
theorem lid_yes {most m : Nat} {o : Option Nat} (h : o = some m) (hm : m ≤ most) : lid most o = some m := by subst h; simp [lid, hm]

set_option maxHeartbeats 400000 in
theorem nm_zero : SaidNM 0 := by
  intro D d L B t a1 l1 c1 a2 l2 c2 a3 l3 c3 most w hB hf hm
  go_enter Try.func69, Try.ntmps69
  go_wp2_with fail
  go_ret2
  exact ⟨rfl, (Below.refl _ _).alloc (Nat.le_refl _) _⟩

set_option maxHeartbeats 800000 in
theorem nm_succ (l : Nat) (hl24 : l < 24) (IH : SaidNM l) : SaidNM (l + 1) := by
  intro D d L B t a1 l1 c1 a2 l2 c2 a3 l3 c3 most w hB hf hm
  have hl := hf.m.len.2
  have HL : Hid (l3 = t.A.length) := hf.m.len.1
  have hbel : Below w.heap.size w (w.alloc (.cells #[.int .i64 t.K, .int .i64 t.N, .string t.S, .string t.Z, .int .i64 t.T.K, .int .i64 t.T.N, .slice a1 l1 c1, .slice a2 l2 c2, .slice a3 l3 c3] 36)) := (Below.refl _ _).alloc (Nat.le_refl _) _
  have hfa := Fm.below hbel hB hf
  have hl0 : (((l : Int) + 1) == 0) = false := by simp; omega
  by_cases hm0 : most = 0
  · subst hm0
    have HO : Hid (lid 0 (nodesM (l + 1) t) = none) := lid_zero _ _
    go_enter Try.func69, Try.ntmps69
    go_wp2_with fail
    go_ret2
    rw [HO.out]
    exact ⟨rfl, hbel⟩
  have hmb : ((most : Int) == 0) = false := by rw [beq_eq_false_iff_ne]; omega
  cases hok : nodeM t with
  | false =>
    have HO : Hid (lid most (nodesM (l + 1) t) = none) := by show _ = _; simp only [nodesM]; rw [hok]; rfl
    have HK : Hid (nodeM t = false) := hok
    clear hok
    go_enter Try.func69, Try.ntmps69
    go_wp2_with fail
    refine (termNodeOk_any D d L B t _ _ _ _ _ _ _ _ _ _ (by simp; omega) hfa).mono ?_
    rintro e w1 ⟨rfl, hb1⟩
    rw [HK.out]
    go_wp2_with fail
    go_ret2
    rw [HO.out]
    exact ⟨rfl, hbel.trans (hb1.mono (by simp))⟩
  | true =>
    have HO : Hid (nodesM (l + 1) t = (nodesG (nodesM l) t.A).map (1 + ·)) := by show _ = _; simp only [nodesM]; rw [hok]; rfl
    have hlen3 := nodeM_len hok
    have HK : Hid (nodeM t = true) := hok
    clear hok
    go_enter Try.func69, Try.ntmps69
    go_wp2_with fail
    refine (termNodeOk_any D d L B t _ _ _ _ _ _ _ _ _ _ (by simp; omega) hfa).mono ?_
    rintro e w1 ⟨rfl, hb1⟩
    rw [HK.out]
    have hbelw : Below w.heap.size w w1 := hbel.trans (hb1.mono (by simp))
    have hsz1 := hb1.size
    have f8 := (Nine.box ((hb1.block w.heap.size (by simp)).trans (heap_new rfl))).c8
    simp only [World.size_alloc, Nat.zero_add] at hsz1 f8
    clear hbel hfa
    go_wp2_with fail
    go_loopw [8, 27] (fun v i wr => ∃ j m : Nat, j ≤ l3 ∧ i = .int .i64 j ∧ Hid (nodesG (nodesM l) (t.A.take j) = some m) ∧ v = .int .i64 (1 + m) ∧ 1 + m ≤ most ∧ Below w1.heap.size w1 wr) (fun _ i _ => l3 - (intOf i).toNat)
    case atStart => exact ⟨0, 0, by omega, rfl, rfl, rfl, by omega, Below.refl _ _⟩
    case round =>
      obtain ⟨j, m, hj, rfl, HM, rfl, hmm, hbr⟩ := hrel
      have hszr := hbr.size
      by_cases hlt : j < l3
      · have hlt' : j < t.A.length := by have := HL.out; omega
        obtain ⟨b, o, rfl, _, hbB, b1, m1, d1, b2, m2, d2, b3, m3, d3, h9, hf1⟩ := hf.m.get j hlt'
        have hbw : Below w.heap.size w wr := hbelw.trans (hbr.mono (by omega))
        obtain ⟨e0, e1, e2, e3, e4, e5, e6, e7, e8⟩ := h9.below hbw (by omega)
        have hba : Below w.heap.size w (wr.alloc (.cells #[.int .i64 t.A[j].K, .int .i64 t.A[j].N, .string t.A[j].S, .string t.A[j].Z, .int .i64 t.A[j].T.K, .int .i64 t.A[j].T.N, .slice b1 m1 d1, .slice b2 m2 d2, .slice b3 m3 d3] 36)) := hbw.alloc (by omega) _
        have hf2 := Fm.below hba hB hf1
        have HF0 := nodesG_take (nodesM l) t.A j hlt' m HM.out
        obtain ⟨mo, hmo⟩ : ∃ mo : Nat, mo = most - (1 + m) := ⟨_, rfl⟩
        have hmo2 : (most : Int) - (1 + m) = mo := by omega
        have HMO : Hid (mo = most - (1 + m)) := hmo
        have hmo150 : mo ≤ 150 := by omega
        clear hmo
        cases hf : lid mo (nodesM l t.A[j]) with
        | none =>
          have HN : Hid (lid most (nodesM (l + 1) t) = none) := by
            show _ = _
            rw [HO.out]
            cases hq : nodesM l t.A[j] with
            | none => rw [nodesG_none _ _ j hlt' hq]; rfl
            | some a =>
              have ha : mo < a := by
                rw [hq] at hf
                simp only [lid] at hf
                split at hf
                · cases hf
                · omega
              refine lid_no fun m' hm' => ?_
              cases hs : nodesG (nodesM l) t.A with
              | none => rw [hs] at hm'; cases hm'
              | some s =>
                rw [hs] at hm'
                simp only [Option.map_some, Option.some.injEq] at hm'
                have := nodesG_part _ _ j hlt' m a s HM.out hq hs
                have := HMO.out
                omega
          have HF : Hid (lid mo (nodesM l t.A[j]) = none) := hf
          clear hf HF0
          go_wp2_with fail
          refine (IH D (d - 1) L B t.A[j] _ _ _ _ _ _ _ _ _ mo _ (by simp; omega) hf2 hmo150).mono ?_
          rintro e w2 ⟨rfl, hb2⟩
          rw [HF.out]
          simp only [Option.getD_none, Option.isSome_none]
          go_wp2_with fail
          go_ret2
          rw [HN.out]
          exact ⟨rfl, hba.trans (hb2.mono (by simp; omega))⟩
        | some a =>
          have ha : nodesM l t.A[j] = some a ∧ a ≤ mo := by
            cases hq : nodesM l t.A[j] with
            | none => rw [hq] at hf; cases hf
            | some a' =>
              rw [hq] at hf
              simp only [lid] at hf
              split at hf
              · simp only [Option.some.injEq] at hf; subst hf; exact ⟨rfl, by assumption⟩
              · cases hf
          rw [ha.1] at HF0
          have HF2 : Hid (nodesG (nodesM l) (t.A.take (j + 1)) = some (m + a)) := HF0
          have HF : Hid (lid mo (nodesM l t.A[j]) = some a) := hf
          have hamo : a ≤ mo := ha.2
          have hle : 1 + m + a ≤ most := by have := HMO.out; omega
          clear hf HF0 ha
          go_wp2_with fail
          refine (IH D (d - 1) L B t.A[j] _ _ _ _ _ _ _ _ _ mo _ (by simp; omega) hf2 hmo150).mono ?_
          rintro e w2 ⟨rfl, hb2⟩
          rw [HF.out]
          have hbr2 : Below w1.heap.size w1 w2 := (hbr.alloc (by omega) _).trans (hb2.mono (by simp; omega))
          simp only [Option.getD_some, Option.isSome_some]
          go_wp2_with fail
          go_roundw
          case rel => exact ⟨j + 1, m + a, by omega, by go_num, HF2, by go_num, by omega, hbr2⟩
          case measure => simp [intOf]; omega
      · have HK2 : Hid (lid most (nodesM (l + 1) t) = some (1 + m)) := by
          have h1 := HL.out
          have h2 := HM.out
          rw [List.take_of_length_le (by omega)] at h2
          exact lid_yes (by rw [HO.out, h2]; rfl) hmm
        go_wp2_with fail
        go_ret2
        rw [HK2.out]
        exact ⟨rfl, hbelw.trans (hbr.mono (by omega))⟩

theorem nm_any : ∀ l, l ≤ 24 → SaidNM l := by
  intro l
  induction l with
  | zero => intro _; exact nm_zero
  | succ l ih => intro h; exact nm_succ l (by omega) (ih (by omega))

set_option maxHeartbeats 400000 in
theorem nodesOf_any (D d L B : Nat) (t : Tm) (a1 : Option Addr) (l1 c1 : Nat) (a2 : Option Addr) (l2 c2 : Nat) (a3 : Option Addr) (l3 c3 : Nat) (w : World) (hB : B ≤ w.heap.size) (hf : Fm L B w D d t a1 l1 a2 l2 a3 l3) :
    Calls Try.prog 60 #[.agg #[.int .i64 t.K, .int .i64 t.N, .string t.S, .string t.Z, .int .i64 t.T.K, .int .i64 t.T.N, .slice a1 l1 c1, .slice a2 l2 c2, .slice a3 l3 c3]] w fun e w' => e = .returned (.int .i64 (nodesTm t)) ∧ Below w.heap.size w w' := by
  have hbel : Below w.heap.size w (w.alloc (.cells #[.int .i64 t.K, .int .i64 t.N, .string t.S, .string t.Z, .int .i64 t.T.K, .int .i64 t.T.N, .slice a1 l1 c1, .slice a2 l2 c2, .slice a3 l3 c3] 36)) := (Below.refl _ _).alloc (Nat.le_refl _) _
  have hf1 := Fm.below hbel hB hf
  cases hq : lid 150 (nodesM 24 t) with
  | none =>
    have HN : Hid (nodesTm t = 0) := by show _ = _; simp [nodesTm, hq]
    have HF : Hid (lid 150 (nodesM 24 t) = none) := hq
    clear hq
    go_enter Try.func60, Try.ntmps60
    go_wp2_with fail
    refine (nm_any 24 (by omega) D d L B t _ _ _ _ _ _ _ _ _ 150 _ (by simp; omega) hf1 (by omega)).mono ?_
    rintro e w2 ⟨rfl, hb2⟩
    rw [HF.out]
    simp only [Option.getD_none, Option.isSome_none]
    go_wp2_with fail
    go_ret
    rw [HN.out]
    exact ⟨rfl, hbel.trans (hb2.mono (by simp))⟩
  | some m =>
    have HN : Hid (nodesTm t = m) := by show _ = _; simp [nodesTm, hq]
    have HF : Hid (lid 150 (nodesM 24 t) = some m) := hq
    clear hq
    go_enter Try.func60, Try.ntmps60
    go_wp2_with fail
    refine (nm_any 24 (by omega) D d L B t _ _ _ _ _ _ _ _ _ 150 _ (by simp; omega) hf1 (by omega)).mono ?_
    rintro e w2 ⟨rfl, hb2⟩
    rw [HF.out]
    simp only [Option.getD_some, Option.isSome_some]
    go_wp2_with fail
    go_ret
    rw [HN.out]
    exact ⟨rfl, hbel.trans (hb2.mono (by simp))⟩

theorem okM_pos (t : Tm) : okM t = decide (0 < (nodesTm t : Int)) := by
  unfold okM nodesTm
  cases hq : nodesM 24 t with
  | none => rfl
  | some m =>
    have := nodesM_pos 24 t m hq
    simp only [lid]
    split
    · simp; omega
    · rfl

set_option maxHeartbeats 400000 in
theorem termOk_any (D d L B : Nat) (t : Tm) (a1 : Option Addr) (l1 c1 : Nat) (a2 : Option Addr) (l2 c2 : Nat) (a3 : Option Addr) (l3 c3 : Nat) (w : World) (hB : B ≤ w.heap.size) (hf : Fm L B w D d t a1 l1 a2 l2 a3 l3) :
    Calls Try.prog 34 #[.agg #[.int .i64 t.K, .int .i64 t.N, .string t.S, .string t.Z, .int .i64 t.T.K, .int .i64 t.T.N, .slice a1 l1 c1, .slice a2 l2 c2, .slice a3 l3 c3]] w fun e w' => e = .returned (.bool (okM t)) ∧ Below w.heap.size w w' := by
  have hbel : Below w.heap.size w (w.alloc (.cells #[.int .i64 t.K, .int .i64 t.N, .string t.S, .string t.Z, .int .i64 t.T.K, .int .i64 t.T.N, .slice a1 l1 c1, .slice a2 l2 c2, .slice a3 l3 c3] 36)) := (Below.refl _ _).alloc (Nat.le_refl _) _
  have hf1 := Fm.below hbel hB hf
  have HP : Hid (okM t = decide (0 < (nodesTm t : Int))) := okM_pos t
  go_enter Try.func34, Try.ntmps34
  go_wp2_with fail
  refine (nodesOf_any D d L B t _ _ _ _ _ _ _ _ _ _ (by simp; omega) hf1).mono ?_
  rintro e w2 ⟨rfl, hb2⟩
  go_wp2_with fail
  go_ret
  exact ⟨ret_bool (by rw [HP.out]; try simp), hbel.trans (hb2.mono (by simp))⟩

end Go.Proofs.Ytgckmnchlkgakaa
