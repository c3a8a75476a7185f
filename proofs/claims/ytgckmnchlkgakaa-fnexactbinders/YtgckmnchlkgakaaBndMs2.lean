/-
  Rows of names: marked; and whether they still bear their marks.
-/
import Derived.Test.YtgckmnchlkgakaaBndMs
import Derived.Test.YtgckmnchlkgakaaBndOb
import Derived.Test.YtgckmnchlkgakaaBndTr
import Derived.Deep.QuietTactic
import Derived.BigQuiet
import Derived.Test.YtgckmnchlkgakaaBndNw
import Derived.Deep.RegionWith
namespace Go.Proofs.Ytgckmnchlkgakaa
open Go.RowKit
set_option linter.unusedVariables false
set_option linter.unusedSimpArgs false

def marks (k n : Nat) : List (List UInt8) := (List.range n).map fun i => mt (k + i)
theorem marks_len (k n : Nat) : (marks k n).length = n := by simp [marks]
theorem marks_get (k n j : Nat) (h : j < (marks k n).length) : (marks k n)[j] = mt (k + j) := by simp [marks]

theorem marks_next (k j : Nat) (P : List (List UInt8)) (h : j < P.length) : (marks k j ++ P.drop j).set j (mt (k + j)) = marks k (j + 1) ++ P.drop (j + 1) := by
  have e : marks k (j + 1) = marks k j ++ [mt (k + j)] := by simp [marks, List.range_succ]
  rw [e, List.set_append_right _ _ (by rw [marks_len]; exact Nat.le_refl _), marks_len, Nat.sub_self, List.append_assoc]
  congr 1
  rw [List.drop_eq_getElem_cons h]
  rfl

theorem toks_put {base : Nat} {w : World} {g n cap : Nat} {P : List (List UInt8)} (h : Toks base w (.slice (some ⟨g, 0, none⟩) n cap) P) (j : Nat) (hj : j < P.length) (x : List UInt8) :
    Toks base (w.setCell ⟨g, j, none⟩ (tk x)) (.slice (some ⟨g, 0, none⟩) n cap) (P.set j x) ∧ Ko (.slice (some ⟨g, 0, none⟩) n cap) w (.slice (some ⟨g, 0, none⟩) n cap) (w.setCell ⟨g, j, none⟩ (tk x)) ∧ w.frozen? ⟨g, j, none⟩ = false := by
  rcases h.2 with ⟨e, hn⟩ | ⟨g', cap', cur, e, hg, hh, h1, h2, h3, h4⟩
  · cases e
  · injection e with e1 e2 e3
    injection e1 with e1
    injection e1 with e1
    subst e1
    subst e3
    refine ⟨⟨by simp, Or.inr ⟨g, _, cur.setIfInBounds j (tk x), by rw [e2]; simp, hg, row_set hh j (tk x), by simpa using h1, h2, by simpa using h3, ?_⟩⟩, ⟨rfl, rfl, rfl, by rw [World.size_setCell]; exact Nat.le_refl _, fun k _ hk => row_other _ _ _ (fun e => hk (by rw [e]; rfl)), fun k hk => Or.inl hk⟩, row_free hh j⟩
    simp only [List.length_set, Array.toList_setIfInBounds]
    rw [List.take_set, h4, List.map_set]

set_option maxRecDepth 100000 in
set_option maxHeartbeats 1000000 in
theorem markStringS_any {base : Nat} (v : Value) (P : List (List UInt8)) (k : Nat) (w : World) (h : Toks base w v P) (hb : base ≤ w.heap.size) (hl : k + P.length ≤ 100000) :
    Calls Try.prog 15 #[v, .int .i64 k] w fun e w' => e = .returned (.int .i64 ((k + P.length : Nat) : Int)) ∧ Ko v w v w' ∧ Toks base w' v (marks k P.length) := by
  obtain ⟨ao, cap, rfl⟩ := toks_form h
  have HP : Hid (Toks base w (.slice ao P.length cap) P) := h
  go_enter Try.func15, Try.ntmps15
  go_wp2_with fail
  go_loopw [1, 5] (fun kk i wr => ∃ j : Nat, j ≤ P.length ∧ i = .int .i64 j ∧ kk = .int .i64 ((k + j : Nat) : Int) ∧ Ko (.slice ao P.length cap) w (.slice ao P.length cap) wr ∧ Toks base wr (.slice ao P.length cap) (marks k j ++ P.drop j)) (fun _ i _ => P.length - (intOf i).toNat)
  case atStart => exact ⟨0, by omega, rfl, rfl, Ko.of_below (Below.refl _ _), by simpa [marks] using HP.out⟩
  case round =>
    obtain ⟨j, hj, rfl, rfl, hko, hT⟩ := hrel
    by_cases hlt : j < P.length
    · have hjl : j < (marks k j ++ P.drop j).length := by rw [List.length_append, marks_len, List.length_drop]; omega
      obtain ⟨g, cp, e, hg, hgw, hc⟩ := toks_at hT j hjl
      injection e with e1 e2 e3
      subst e1
      subst e3
      have HTj : Hid (Toks base wr (.slice (some ⟨g, 0, none⟩) P.length cap) (marks k j ++ P.drop j)) := hT
      have HS : Hid (∀ W : World, Below wr.heap.size wr W → Toks base (W.setCell ⟨g, j, none⟩ (tk (mt (k + j)))) (.slice (some ⟨g, 0, none⟩) P.length cap) (marks k (j + 1) ++ P.drop (j + 1)) ∧ Ko (.slice (some ⟨g, 0, none⟩) P.length cap) w (.slice (some ⟨g, 0, none⟩) P.length cap) (W.setCell ⟨g, j, none⟩ (tk (mt (k + j)))) ∧ W.frozen? ⟨g, j, none⟩ = false) := fun W hW => by
        obtain ⟨p1, p2, p3⟩ := toks_put (toks_bel HTj.out hW) j hjl (mt (k + j))
        rw [marks_next k j P hlt] at p1
        exact ⟨p1, (hko.trans (Ko.of_below hW)).trans p2, p3⟩
      rw [Nat.zero_add] at hc
      obtain ⟨z, hz⟩ : ∃ z : ByteArray, tk (mt (k + j)) = .string z := ⟨_, rfl⟩
      have HZ : Hid (tk (mt (k + j)) = .string z) := hz
      obtain ⟨y, hy⟩ : ∃ y : Value, tk (marks k j ++ P.drop j)[j] = y := ⟨_, rfl⟩
      rw [hy] at hc
      clear hT e2 hz hy hko
      go_wp2_with fail
      refine (markText_any (k + j) (by omega) _).mono ?_
      rintro e w2 ⟨rfl, hb2⟩
      obtain ⟨p1, p2, p3⟩ := HS.out w2 hb2
      have hc2 := (bcell hb2 hgw j).trans hc
      rw [HZ.out] at p1 p2 ⊢
      go_wp2_with fail
      go_roundw
      case rel => exact ⟨j + 1, by omega, by go_num, by go_num, p2, p1⟩
      case measure => simp [intOf]; omega
    · have HE : Hid (marks k j ++ P.drop j = marks k P.length) := by
        show _ = _
        have : j = P.length := by omega
        rw [this]; simp
      have hj2 : j = P.length := by omega
      have HJ : Hid (j = P.length) := hj2
      clear hj2
      go_wp2_with fail
      go_ret
      exact ⟨ret_int (by rw [HJ.out]), hko, by rw [← HE.out]; exact hT⟩

set_option maxRecDepth 100000 in
set_option maxHeartbeats 1000000 in
theorem heldStringS_any {base : Nat} (v : Value) (n k : Nat) (w : World) (h : Toks base w v (marks k n)) (hl : k + n ≤ 100000) :
    Calls Try.prog 16 #[v, .int .i64 k] w fun e w' => e = .returned (.int .i64 ((k + n : Nat) : Int)) ∧ Below w.heap.size w w' := by
  obtain ⟨ao, cap, rfl⟩ := toks_form h
  have HP : Hid (Toks base w (.slice ao (marks k n).length cap) (marks k n)) := h
  clear h
  rw [marks_len] at HP ⊢
  go_enter Try.func16, Try.ntmps16
  go_wp2_with fail
  go_loopw [1, 5] (fun kk i wr => ∃ j : Nat, j ≤ n ∧ i = .int .i64 j ∧ kk = .int .i64 ((k + j : Nat) : Int) ∧ Below w.heap.size w wr) (fun _ i _ => n - (intOf i).toNat)
  case atStart => exact ⟨0, by omega, rfl, rfl, Below.refl _ _⟩
  case round =>
    obtain ⟨j, hj, rfl, rfl, hbr⟩ := hrel
    by_cases hlt : j < n
    · obtain ⟨g, cp, e, hg, hgw, hc⟩ := toks_at (toks_bel HP.out hbr) j (by rw [marks_len]; exact hlt)
      injection e with e1 e2 e3
      subst e1
      subst e3
      rw [Nat.zero_add, marks_get] at hc
      obtain ⟨z, hz⟩ : ∃ z : ByteArray, tk (mt (k + j)) = .string z := ⟨_, rfl⟩
      have HZ : Hid (tk (mt (k + j)) = .string z) := hz
      rw [hz] at hc
      clear hz e2
      have HK : Hid (∀ w' : World, Below wr.heap.size wr w' → Calls Try.prog 44 #[.int .i64 ((k + j : Nat) : Int)] w' fun e w'' => e = .returned (.string z) ∧ Below wr.heap.size wr w'') := fun w' hC =>
        (markText_any (k + j) (by omega) w').mono fun e w'' ⟨h1, h2⟩ => ⟨by rw [h1, HZ.out], hC.trans (h2.mono hC.size)⟩
      have hzb : (z.toList != z.toList) = false := by simp
      go_wp2_with fail
      refine wp_region_below (by kernel_rfl) (by kernel_rfl) ?_
      repeat (first
        | go_big_quiet_skip
        | (go_big_quiet_want; unfold Oper.quiet; apply Exists.intro; refine ⟨fun w' hC => ?_, ?_⟩; (have g0 := (bcell hC hgw j).trans hc; unfold Oper.quietAt; go_simp; first | exact rfl | exact ⟨rfl, rfl⟩ | (go_at_call 44; exact HK.out _ hC)); go_big_quiet_on; simp only [Act.put, List.setIfInBounds_toArray, List.set_cons_zero, List.set_cons_succ]))
      refine wpQuiet_nil ?_
      intro w3 hb3
      have hbr3 := hbr.trans (hb3.mono hbr.size)
      go_wp2_with fail
      go_roundw
      case rel => exact ⟨j + 1, by omega, by go_num, by go_num, hbr3⟩
      case measure => simp [intOf]; omega
    · have HJ : Hid (j = n) := by show _ = _; omega
      go_wp2_with fail
      go_ret
      exact ⟨ret_int (by rw [HJ.out]), hbr⟩

end Go.Proofs.Ytgckmnchlkgakaa
