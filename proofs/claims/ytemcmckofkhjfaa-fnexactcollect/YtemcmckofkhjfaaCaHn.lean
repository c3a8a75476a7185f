/-
  'markWordS', 'heldWordS' and those of a heap; 'HeapNew' of both sides.
-/
import Derived.Test.YtemcmckofkhjfaaCaWoS
namespace Go.Proofs.Ytemcmckofkhjfaa
open Go.RowKit
set_option linter.unusedVariables false
set_option linter.unusedSimpArgs false

/-- The marks. -/
def upsW (k : Int) (n : Nat) : List Wrd := (List.range n).map fun i : Nat => ⟨k + 2 * (i : Int), k + 2 * (i : Int) + 1⟩
theorem upsW_len (k : Int) (n : Nat) : (upsW k n).length = n := by simp [upsW]
theorem upsW_get (k : Int) (n j : Nat) (h : j < (upsW k n).length) : (upsW k n)[j] = ⟨k + 2 * (j : Int), k + 2 * (j : Int) + 1⟩ := by simp [upsW]
theorem upsW_next (k : Int) (j : Nat) (P : List Wrd) (h : j < P.length) : (upsW k j ++ P.drop j).set j ⟨k + 2 * (j : Int), k + 2 * (j : Int) + 1⟩ = upsW k (j + 1) ++ P.drop (j + 1) := by
  have e : upsW k (j + 1) = upsW k j ++ [⟨k + 2 * (j : Int), k + 2 * (j : Int) + 1⟩] := by simp [upsW, List.range_succ]
  rw [e, List.set_append_right _ _ (by rw [upsW_len]; exact Nat.le_refl _), upsW_len, Nat.sub_self, List.append_assoc]
  congr 1
  rw [List.drop_eq_getElem_cons h]
  rfl

set_option maxRecDepth 100000 in
set_option maxHeartbeats 1000000 in
theorem markWordS_any {base : Nat} (v : Value) (P : List Wrd) (k : Int) (w : World) (h : Wors base w v P) (h0 : 0 ≤ k) (hl : k + 2 * P.length ≤ 100000000) :
    Calls Try.prog 24 #[v, .int .i64 k] w fun e w' => e = .returned (.int .i64 (k + 2 * P.length)) ∧ Kn v w w' ∧ Wors base w' v (upsW k P.length) := by
  obtain ⟨ao, cap, rfl, _⟩ := wors_form h
  have HP : Hid (Wors base w (.slice ao P.length cap) P) := h
  obtain ⟨n, hn⟩ : ∃ n, P.length = n := ⟨_, rfl⟩
  have HN : Hid (P.length = n) := hn
  rw [hn] at HP hl ⊢
  clear hn h
  go_enter Try.func24, Try.ntmps24
  go_wp2_with fail
  go_loopw [1, 5] (fun kk i wr => ∃ j : Nat, j ≤ n ∧ i = .int .i64 j ∧ kk = .int .i64 (k + 2 * j) ∧ Kn (.slice ao n cap) w wr ∧ Wors base wr (.slice ao n cap) (upsW k j ++ P.drop j)) (fun _ i _ => n - (intOf i).toNat)
  case atStart => exact ⟨0, by omega, rfl, by simp, Kn.refl _ _, by simpa [upsW] using HP.out⟩
  case round =>
    obtain ⟨j, hj, rfl, rfl, hko, hT⟩ := hrel
    by_cases hlt : j < n
    · have hlt' : j < P.length := by have := HN.out; omega
      have hjl : j < (upsW k j ++ P.drop j).length := by rw [List.length_append, upsW_len, List.length_drop]; omega
      obtain ⟨g, cp, e, hg, hgw, hc, _⟩ := wors_at hT j hjl
      injection e with e1 e2 e3
      subst e1
      subst e3
      have fz := wors_cells hT
      obtain ⟨p1, p2⟩ := wors_put hT j hjl ⟨k + 2 * (j : Int), k + 2 * (j : Int) + 1⟩ _ rfl
      rw [upsW_next k j P hlt'] at p1
      have p4 := hko.trans p2
      rw [Nat.zero_add] at hc
      obtain ⟨c0, c1⟩ := hc
      generalize (upsW k j ++ P.drop j)[j] = y at c0 c1
      clear hT e2 hko p2
      go_wp2_with fail
      go_roundw
      case rel => exact ⟨j + 1, by omega, by go_num, by go_num, p4, p1⟩
      case measure => simp [intOf]; omega
    · have hj2 : j = n := by omega
      subst hj2
      have HE : Hid (upsW k j ++ P.drop j = upsW k j) := by show _ = _; rw [← HN.out]; simp
      rw [HE.out] at hT
      go_wp2_with fail
      go_ret
      exact ⟨rfl, hko, hT⟩

set_option maxRecDepth 100000 in
set_option maxHeartbeats 1000000 in
theorem heldWordS_any {base : Nat} (v : Value) (n : Nat) (k : Int) (w : World) (h : Wors base w v (upsW k n)) (h0 : 0 ≤ k) (hl : k + 2 * n ≤ 100000000) :
    Calls Try.prog 27 #[v, .int .i64 k] w fun e w' => e = .returned (.int .i64 (k + 2 * n)) ∧ Below w.heap.size w w' := by
  obtain ⟨ao, cap, rfl, _⟩ := wors_form h
  have HP : Hid (Wors base w (.slice ao (upsW k n).length cap) (upsW k n)) := h
  clear h
  rw [upsW_len] at HP ⊢
  go_enter Try.func27, Try.ntmps27
  go_wp2_with fail
  go_loopw [1, 5] (fun kk i wr => ∃ j : Nat, j ≤ n ∧ i = .int .i64 j ∧ kk = .int .i64 (k + 2 * j) ∧ Below w.heap.size w wr) (fun _ i _ => n - (intOf i).toNat)
  case atStart => exact ⟨0, by omega, rfl, by simp, Below.refl _ _⟩
  case round =>
    obtain ⟨j, hj, rfl, rfl, hbr⟩ := hrel
    by_cases hlt : j < n
    · obtain ⟨g, cp, e, hg, hgw, hc, _⟩ := wors_at (wors_bel HP.out hbr) j (by rw [upsW_len]; exact hlt)
      injection e with e1 e2 e3
      subst e1
      subst e3
      rw [Nat.zero_add, upsW_get] at hc
      obtain ⟨c0, c1⟩ := hc
      dsimp only at c0 c1
      clear e2
      go_wp2_with fail
      go_roundw
      case rel => exact ⟨j + 1, by omega, by go_num, by go_num, hbr⟩
      case measure => simp [intOf]; omega
    · obtain rfl : j = n := by omega
      go_wp2_with fail
      go_ret
      exact ⟨rfl, hbr⟩

theorem Kn.alloc_below {v : Value} {w w' : World} {o : Obj} (h : Kn v (w.alloc o) w') (B : Nat) (hB : B ≤ w.heap.size) (hv : ∀ k, v.ownBlock = some k → B ≤ k) : Below B w w' :=
  ((Below.refl B w).alloc hB o).trans (h.below hv)

set_option maxHeartbeats 1000000 in
/-- 'markHeap': the row bears its marks, and of what lay there nothing else has changed. -/
theorem markHeap_any {base : Nat} (s : Int) (ao : Option Addr) (len cap : Nat) (P : List Wrd) (k : Int) (w : World) (h : Wors base w (.slice ao len cap) P) (hb : base ≤ w.heap.size) (hlen : len = P.length) (h0 : 0 ≤ k) (hl : k + 2 * len ≤ 100000000) :
    Calls Try.prog 11 #[vH s ao len cap, .int .i64 k] w fun e w' => e = .returned (.int .i64 (k + 2 * len)) ∧ Below base w w' ∧ (∀ q, q < w.heap.size → (Value.slice ao len cap).ownBlock ≠ some q → w'.heap[q]? = w.heap[q]?) ∧ w.heap.size ≤ w'.heap.size ∧ Wors base w' (.slice ao len cap) (upsW k len) := by
  subst hlen
  have hXb : Below w.heap.size w (w.alloc (.cells #[.int .i64 s, .slice ao P.length cap] 24)) := (Below.refl _ _).alloc (Nat.le_refl _) _
  have hO : ∀ g, (Value.slice ao P.length cap).ownBlock = some g → base ≤ g ∧ g < w.heap.size := fun g hg => wors_own h hg
  have K := markWordS_any _ P k _ (wors_bel h hXb) h0 hl
  obtain ⟨n, hn⟩ : ∃ n, P.length = n := ⟨_, rfl⟩
  rw [hn] at K hl hXb hO ⊢
  clear h hn
  go_enter Try.func11, Try.ntmps11
  go_wp2_with fail
  refine K.mono ?_
  rintro e w1 ⟨rfl, hk1, hN1⟩
  clear K
  go_wp2_with fail
  go_ret
  have hz := hk1.size
  rw [World.size_alloc] at hz
  have hoth : ∀ q, q < w.heap.size → (Value.slice ao n cap).ownBlock ≠ some q → w1.heap[q]? = w.heap[q]? := fun q hq hne => (hk1.block q hne).trans (hXb.block q hq)
  refine ⟨rfl, ⟨hk1.os.trans hXb.os, hk1.tape.trans hXb.tape, hk1.output.trans hXb.output, by omega, fun q hq => ?_⟩, hoth, by omega, hN1⟩
  exact hoth q (by omega) (fun e => by have := (hO q e).1; omega)

set_option maxHeartbeats 1000000 in
theorem heldHeap_any {base : Nat} (s : Int) (ao : Option Addr) (len cap : Nat) (k : Int) (w : World) (h : Wors base w (.slice ao len cap) (upsW k len)) (h0 : 0 ≤ k) (hl : k + 2 * len ≤ 100000000) :
    Calls Try.prog 12 #[vH s ao len cap, .int .i64 k] w fun e w' => e = .returned (.int .i64 (k + 2 * len)) ∧ Below w.heap.size w w' := by
  have hXb : Below w.heap.size w (w.alloc (.cells #[.int .i64 s, .slice ao len cap] 24)) := (Below.refl _ _).alloc (Nat.le_refl _) _
  have K := heldWordS_any _ len k _ (wors_bel h hXb) h0 hl
  clear h
  go_enter Try.func12, Try.ntmps12
  go_wp2_with fail
  refine K.mono ?_
  rintro e w1 ⟨rfl, hk1⟩
  clear K
  go_wp2_with fail
  go_ret
  exact ⟨rfl, hXb.trans (hk1.mono (by simp))⟩

end Go.Proofs.Ytemcmckofkhjfaa
