/-
  Rows of bytes of one's own: made, marked, and whether they still bear their marks.
-/
import Derived.Test.YtlogpkebacmbiaaYb2
namespace Go.Proofs.Ytlogpkebacmbiaa
open Go.RowKit
set_option linter.unusedVariables false
set_option linter.unusedSimpArgs false

/-- Nothing has changed but this row. -/
structure Kn (v : Value) (w w' : World) : Prop where
  os : w'.os = w.os
  tape : w'.tape = w.tape
  output : w'.output = w.output
  size : w'.heap.size = w.heap.size
  block : ∀ k, v.ownBlock ≠ some k → w'.heap[k]? = w.heap[k]?

theorem Kn.refl (v : Value) (w : World) : Kn v w w := ⟨rfl, rfl, rfl, rfl, fun _ _ => rfl⟩
theorem Kn.trans {v : Value} {w w' w'' : World} (h : Kn v w w') (k : Kn v w' w'') : Kn v w w'' :=
  ⟨k.os.trans h.os, k.tape.trans h.tape, k.output.trans h.output, k.size.trans h.size, fun i hi => (k.block i hi).trans (h.block i hi)⟩
theorem Kn.below {v : Value} {w w' : World} {B : Nat} (h : Kn v w w') (hv : ∀ k, v.ownBlock = some k → B ≤ k) : Below B w w' :=
  ⟨h.os, h.tape, h.output, Nat.le_of_eq h.size.symm, fun i hi => h.block i (fun e => by have := hv i e; omega)⟩

def upb (k : Int) (n : Nat) : List Int := (List.range n).map fun i : Nat => (k + (i : Int)) % 256
theorem upb_len (k : Int) (n : Nat) : (upb k n).length = n := by simp [upb]
theorem upb_get (k : Int) (n j : Nat) (h : j < (upb k n).length) : (upb k n)[j] = (k + j) % 256 := by simp [upb]
theorem upb_next (k : Int) (j : Nat) (P : List Int) (h : j < P.length) : (upb k j ++ P.drop j).set j ((k + j) % 256) = upb k (j + 1) ++ P.drop (j + 1) := by
  have e : upb k (j + 1) = upb k j ++ [(k + j) % 256] := by simp [upb, List.range_succ]
  rw [e, List.set_append_right _ _ (by rw [upb_len]; exact Nat.le_refl _), upb_len, Nat.sub_self, List.append_assoc]
  congr 1
  rw [List.drop_eq_getElem_cons h]
  rfl

theorem byts_put {base : Nat} {w : World} {g n cap : Nat} {P : List Int} (h : Byts base w (.slice (some ⟨g, 0, none⟩) n cap) P) (j : Nat) (hj : j < P.length) (x : Int) :
    Byts base (w.setCell ⟨g, j, none⟩ (ib x)) (.slice (some ⟨g, 0, none⟩) n cap) (P.set j x) ∧ Kn (.slice (some ⟨g, 0, none⟩) n cap) w (w.setCell ⟨g, j, none⟩ (ib x)) ∧ w.frozen? ⟨g, j, none⟩ = false := by
  rcases h.2 with ⟨e, hn⟩ | ⟨g', cap', cur, e, hg, hh, h1, h2, h3, h4⟩
  · cases e
  · injection e with e1 e2 e3
    injection e1 with e1
    injection e1 with e1
    subst e1
    subst e3
    refine ⟨⟨by simp, Or.inr ⟨g, _, cur.setIfInBounds j (ib x), by rw [e2]; simp, hg, row_set hh j (ib x), by simpa using h1, h2, by simpa using h3, ?_⟩⟩, ⟨rfl, rfl, rfl, by rw [World.size_setCell], fun k hk => row_other _ _ _ (fun e => hk (by rw [e]; rfl))⟩, row_free hh j⟩
    simp only [List.length_set, Array.toList_setIfInBounds]
    rw [List.take_set, h4, List.map_set]

set_option maxRecDepth 100000 in
set_option maxHeartbeats 1000000 in
theorem markByteS_any {base : Nat} (v : Value) (P : List Int) (k : Int) (w : World) (h : Byts base w v P) (h0 : 0 ≤ k) (hl : k + P.length ≤ 10000000) :
    Calls Try.prog 10 #[v, .int .i64 k] w fun e w' => e = .returned (.int .i64 (k + P.length)) ∧ Kn v w w' ∧ Byts base w' v (upb k P.length) := by
  obtain ⟨ao, cap, rfl⟩ := byts_form h
  have HP : Hid (Byts base w (.slice ao P.length cap) P) := h
  obtain ⟨n, hn⟩ : ∃ n, P.length = n := ⟨_, rfl⟩
  have HN : Hid (P.length = n) := hn
  rw [hn] at HP hl ⊢
  clear hn h
  go_enter Try.func10, Try.ntmps10
  go_wp2_with fail
  go_loopw [1, 5] (fun kk i wr => ∃ j : Nat, j ≤ n ∧ i = .int .i64 j ∧ kk = .int .i64 (k + j) ∧ Kn (.slice ao n cap) w wr ∧ Byts base wr (.slice ao n cap) (upb k j ++ P.drop j)) (fun _ i _ => n - (intOf i).toNat)
  case atStart => exact ⟨0, by omega, rfl, by simp, Kn.refl _ _, by simpa [upb] using HP.out⟩
  case round =>
    obtain ⟨j, hj, rfl, rfl, hko, hT⟩ := hrel
    by_cases hlt : j < n
    · have hlt' : j < P.length := by have := HN.out; omega
      have hjl : j < (upb k j ++ P.drop j).length := by rw [List.length_append, upb_len, List.length_drop]; omega
      obtain ⟨g, cp, e, hg, hgw, hc⟩ := byts_at hT j hjl
      injection e with e1 e2 e3
      subst e1
      subst e3
      obtain ⟨p1, p2, p3⟩ := byts_put hT j hjl ((k + j) % 256)
      rw [upb_next k j P hlt'] at p1
      have p4 := hko.trans p2
      rw [Nat.zero_add] at hc
      unfold ib at hc p1 p4
      generalize (upb k j ++ P.drop j)[j] = y at hc
      clear hT e2 hko p2
      go_wp2_with fail
      go_roundw
      case rel => exact ⟨j + 1, by omega, by go_num, by go_num, p4, p1⟩
      case measure => simp [intOf]; omega
    · have hj2 : j = n := by omega
      subst hj2
      have HE : Hid (upb k j ++ P.drop j = upb k j) := by show _ = _; rw [← HN.out]; simp
      rw [HE.out] at hT
      go_wp2_with fail
      go_ret
      exact ⟨rfl, hko, hT⟩

set_option maxRecDepth 100000 in
set_option maxHeartbeats 1000000 in
theorem heldByteS_any {base : Nat} (v : Value) (n : Nat) (k : Int) (w : World) (h : Byts base w v (upb k n)) (h0 : 0 ≤ k) (hl : k + n ≤ 10000000) :
    Calls Try.prog 11 #[v, .int .i64 k] w fun e w' => e = .returned (.int .i64 (k + n)) ∧ Below w.heap.size w w' := by
  obtain ⟨ao, cap, rfl⟩ := byts_form h
  have HP : Hid (Byts base w (.slice ao (upb k n).length cap) (upb k n)) := h
  clear h
  rw [upb_len] at HP ⊢
  go_enter Try.func11, Try.ntmps11
  go_wp2_with fail
  go_loopw [1, 5] (fun kk i wr => ∃ j : Nat, j ≤ n ∧ i = .int .i64 j ∧ kk = .int .i64 (k + j) ∧ Below w.heap.size w wr) (fun _ i _ => n - (intOf i).toNat)
  case atStart => exact ⟨0, by omega, rfl, by simp, Below.refl _ _⟩
  case round =>
    obtain ⟨j, hj, rfl, rfl, hbr⟩ := hrel
    by_cases hlt : j < n
    · obtain ⟨g, cp, e, hg, hgw, hc⟩ := byts_at (byts_bel HP.out hbr) j (by rw [upb_len]; exact hlt)
      injection e with e1 e2 e3
      subst e1
      subst e3
      rw [Nat.zero_add, upb_get] at hc
      unfold ib at hc
      clear e2
      go_wp2_with fail
      go_roundw
      case rel => exact ⟨j + 1, by omega, by go_num, by go_num, hbr⟩
      case measure => simp [intOf]; omega
    · obtain rfl : j = n := by omega
      go_wp2_with fail
      go_ret
      exact ⟨rfl, hbr⟩

set_option maxHeartbeats 400000 in
/-- 'toByteS', its row one's own. -/
theorem toByteS_own (L B : Nat) (ao : Option Addr) (len cap : Nat) (l : List Int) (w : World) (hB : B ≤ w.heap.size) (hs : Bs L B w ao len l) (hl : len ≤ 1048576) :
    Calls Try.prog 7 #[.slice ao len cap] w fun e w' => ∃ g, e = .returned (.slice (some ⟨g, 0, none⟩) len len) ∧ Below w.heap.size w w' ∧ Byts w.heap.size w' (.slice (some ⟨g, 0, none⟩) len len) l := by
  have HL : Hid (len = l.length) := hs.1
  obtain ⟨i0, hi, hz0, hz1, hz2⟩ := info_parts Try.infoU8
  have hmk : ∃ C : Array Value, C.size = len * 1 ∧ ∀ w : World, (Instr.makeSlice 22 (.int .i64 (len : Int)) (.int .i64 (len : Int))).run Try.prog w = .ok (.slice (some ⟨w.heap.size, 0, none⟩) len len) (w.alloc (.cells C 5)) := by
    refine ⟨madeCells (Value.cells (.int .u8 0)) (len * 1), ?_, fun w => ?_⟩
    · exact size_madeCells _ _
    · have := run_make (P := Try.prog) (w := w) 22 5 i0 _ Try.underlying22 hi hz0 .i64 .i64 (len : Int) (len : Int) (by omega) (by omega) (by rw [hz2]; omega) (by omega)
      rw [hz1] at this
      simpa using this
  obtain ⟨C, hC, hmk⟩ := hmk
  go_enter Try.func7, Try.ntmps7
  go_wp2_with fail
  go_loopw [4] (fun i wr => ∃ k : Nat, k ≤ len ∧ i = .int .i64 k ∧ ToR 1 5 (EB l) w wr len k) (fun i _ => len - (intOf i).toNat)
  case atStart => exact ⟨0, by omega, rfl, ⟨(Below.refl _ _).alloc (Nat.le_refl _) _, ⟨C, heap_alloc_new _ _, hC⟩, fun i hi => by omega⟩⟩
  case round =>
    obtain ⟨k, hk, rfl, hR⟩ := hrel
    by_cases hlt : k < len
    · have hlt' : k < l.length := by have := HL.out; omega
      have hbel := hR.bel
      have hsz := hbel.size
      obtain ⟨b, o, rfl, _, hbB, c0⟩ := hs.2.2 k hlt'
      have e0 := (bcell hbel (by omega) _).trans c0
      have hN := hR.next hlt (Below.refl _ _) [.int .u8 l[k]] rfl (EB_stays l _) (fun W' h1 _ _ hi => by have := h1 0 (by simp); simpa using this)
      obtain ⟨⟨u, f0⟩, r0⟩ := hR.cell (Below.refl _ _) hlt 0 (by omega)
      rw [Nat.add_zero] at f0 r0
      rw [Nat.mul_one] at hN f0 r0
      simp only [setL] at hN
      clear hR
      go_wp2_with fail
      go_roundw
      case rel => exact ⟨k + 1, by omega, by go_num, hN⟩
      case measure => simp [intOf]; omega
    · go_wp2_with fail
      go_ret
      refine ⟨_, rfl, hR.bel, ?_⟩
      have hln := HL.out
      obtain ⟨cs, hr, hcs⟩ := hR.row
      refine ⟨by simp, Or.inr ⟨w.heap.size, len, cs, by rw [hln], Nat.le_refl _, hr, by omega, by unfold maxLen; omega, by omega, ?_⟩⟩
      apply List.ext_getElem?
      intro j
      by_cases hj : j < l.length
      · rw [List.getElem?_take_of_lt (by omega), Array.getElem?_toList, ← row_cell hr]
        have := hR.els j (by omega) hj
        rw [Nat.mul_one] at this
        rw [this]
        simp [hj, ib]
      · rw [List.getElem?_take_eq_none (by omega), List.getElem?_eq_none (by rw [List.length_map]; omega)]

end Go.Proofs.Ytlogpkebacmbiaa
