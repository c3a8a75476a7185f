/-
  What the program's 'TyText' comes to.
-/
import Derived.Test.YtfjbgbnhjejchaaDoorTt
import Derived.Test.YtfjbgbnhjejchaaDoorJn
import Derived.Test.YtfjbgbnhjejchaaDoorSp0
namespace Go.Proofs.YtfjbgbnhjejchaaDoor
open Go.RowKit
set_option linter.unusedVariables false
set_option linter.unusedSimpArgs false

theorem tk_data (l : List UInt8) : (⟨l.toArray⟩ : ByteArray).data.toList = l := by simp

/-- A slice of tokens, read cell by cell. -/
theorem toks_cells {base : Nat} {w : World} {v : Value} {P : List (List UInt8)} (h : Toks base w v P) (hne : P ≠ []) : ∃ g cap, v = .slice (some ⟨g, 0, none⟩) P.length cap ∧ g < w.heap.size ∧ P.length ≤ cap ∧ ∀ (j : Nat) x, (P.map fun l => (⟨l.toArray⟩ : ByteArray))[j]? = some x → w.cell? ⟨g, 0 + j, none⟩ = some (.string x) := by
  rcases h.2 with ⟨rfl, hn⟩ | ⟨g, cap, cur, rfl, hg, hh, r⟩
  · exact (hne (List.length_eq_zero_iff.1 hn)).elim
  · refine ⟨g, cap, rfl, (Array.getElem?_eq_some_iff.1 hh).1, ?_, ?_⟩
    · exact r.1
    · intro j x hx
      rw [List.getElem?_map] at hx
      cases hp : P[j]? with
      | none => rw [hp] at hx; cases hx
      | some l =>
        rw [hp] at hx
        have hx : (⟨l.toArray⟩ : ByteArray) = x := by simpa using hx
        have e : (List.map tk P)[j]? = some (tk l) := by rw [List.getElem?_map, hp]; rfl
        rw [← r.2.2.2, List.getElem?_take] at e
        split at e
        · rw [Nat.zero_add, row_cell hh, ← Array.getElem?_toList, e, ← hx]; rfl
        · cases e

set_option maxHeartbeats 400000 in
theorem tyText_any (d L B : Nat) (k n : Int) (ao : Option Addr) (len cap : Nat) (ts : List Tr) (w : World) (hB : B ≤ w.heap.size) (hs : Hs L B w d ao len ts) :
    Calls Tryd.prog 8 #[.agg #[.int .i64 k, .int .i64 n, .slice ao len cap]] w fun e w' => e = .returned (.string ⟨(txT ⟨k, n, ts⟩).toArray⟩) ∧ Below w.heap.size w w' := by
  have hXb : Below w.heap.size w (w.alloc (.cells #[.int .i64 k, .int .i64 n, .slice ao len cap] 29)) := (Below.refl _ _).alloc (Nat.le_refl _) _
  have hX1 : (w.alloc (.cells #[.int .i64 k, .int .i64 n, .slice ao len cap] 29)).heap[w.heap.size]? = some (.cells #[.int .i64 k, .int .i64 n, .slice ao len cap] 29 (0, 0)) := heap_new rfl
  have hs1 := hs.below hXb hB
  have hXs : (w.alloc (.cells #[.int .i64 k, .int .i64 n, .slice ao len cap] 29)).heap.size = w.heap.size + 1 := by simp
  cases hf : okT ⟨k, n, ts⟩ with
  | false =>
    have HT : Hid (txT ⟨k, n, ts⟩ = []) := by show _ = _; simp [txT, hf]
    have HF : Hid (okT ⟨k, n, ts⟩ = false) := hf
    clear hf
    go_enter Tryd.func8, Tryd.ntmps8
    go_wp2_with fail
    refine (tyOk_any d L B _ _ _ _ _ ts _ (by simp; omega) hs1).mono ?_
    rintro e w1 ⟨rfl, hb1⟩
    rw [HF.out]
    go_wp2_with fail
    go_ret
    exact ⟨by rw [HT.out]; rfl, hXb.trans (hb1.mono (by simp))⟩
  | true =>
    obtain ⟨m, hm, hm6⟩ := okT_le hf
    have HT : Hid (txT ⟨k, n, ts⟩ = Lib.join (toksW 6 ⟨k, n, ts⟩) [32]) := by show _ = _; rw [toks_join _ _ _ hm]; simp [txT, hf]
    have HF : Hid (okT ⟨k, n, ts⟩ = true) := hf
    have HM : Hid (nodesW 6 ⟨k, n, ts⟩ = some m) := hm
    have HLN : Hid ((Lib.join (toksW 6 ⟨k, n, ts⟩) [32]).length ≤ 180) := by show _ ≤ _; rw [toks_join _ _ _ hm]; have := textW_len _ _ _ hm; omega
    have HLT : Hid ((toksW 6 ⟨k, n, ts⟩).length = m) := toks_len _ _ _ hm
    have HNE : Hid (toksW 6 ⟨k, n, ts⟩ ≠ []) := by intro e; have := nodesW_pos _ _ _ hm; have := HLT.out; rw [e] at this; simp at this; omega
    clear hf hm
    go_enter Tryd.func8, Tryd.ntmps8
    go_wp2_with fail
    refine (tyOk_any d L B _ _ _ _ _ ts _ (by simp; omega) hs1).mono ?_
    rintro e w1 ⟨rfl, hb1⟩
    rw [HF.out]
    have hz1 := hb1.size
    rw [hXs] at hz1
    have hbw1 : Below w.heap.size w w1 := hXb.trans (hb1.mono (by simp))
    obtain ⟨x0, x1, x2⟩ := box_cells ((hb1.block w.heap.size (by simp)).trans hX1)
    have hst : Toks w1.heap.size w1 (.slice none 0 0) [] := ⟨rfl, Or.inl ⟨rfl, rfl⟩⟩
    go_wp2_with fail
    refine (tt_any 6 d L B w1.heap.size _ [] _ _ _ _ _ ts m w1 (by omega) (Nat.le_refl _) (hs.below hbw1 hB) HM.out hst (by simp; omega)).mono ?_
    rintro e w2 ⟨v2, rfl, hb2, hT2⟩
    rw [List.nil_append] at hT2
    obtain ⟨g, cap2, rfl, hg, hc2, hcell⟩ := toks_cells hT2 HNE.out
    have HC : Hid (∀ (j : Nat) x, _ → _) := hcell
    clear hT2 hcell hst
    have HJ : Hid (((toksW 6 ⟨k, n, ts⟩).map (fun l => (⟨l.toArray⟩ : ByteArray))).map (fun x => x.data.toList) = toksW 6 ⟨k, n, ts⟩) := by show _ = _; rw [List.map_map]; exact List.map_id _
    have hj := Tryd.strings_Join g 0 cap2 ((toksW 6 ⟨k, n, ts⟩).map fun l => (⟨l.toArray⟩ : ByteArray)) ⟨#[32]⟩ w2 HC.out hg (by rw [List.length_map, HLT.out]; omega) (by rw [List.length_map]; exact hc2) (by rw [HJ.out]; exact Nat.le_trans HLN.out (by omega))
    rw [HJ.out, List.length_map] at hj
    go_wp2_with fail
    refine hj.mono ?_
    rintro e w3 ⟨rfl, hb3⟩
    clear hj
    go_wp2_with fail
    go_ret
    exact ⟨by rw [HT.out]; rfl, (hbw1.trans (hb2.mono (by omega))).trans (hb3.mono (by have := hb2.size; omega))⟩

end Go.Proofs.YtfjbgbnhjejchaaDoor
