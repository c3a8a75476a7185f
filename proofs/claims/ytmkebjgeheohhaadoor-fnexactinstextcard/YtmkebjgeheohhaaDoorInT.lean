/-
  What the program's 'InsText' comes to: the digits of all numbers of an instruction, a blank between any two.
-/
import Derived.Test.YtmkebjgeheohhaaDoorInS
import Derived.Test.YtmkebjgeheohhaaDoorCc
import Derived.Test.YtmkebjgeheohhaaDoorTk
import Derived.Test.YtmkebjgeheohhaaDoorIo20
import Derived.Test.YtmkebjgeheohhaaDoorJn
namespace Go.Proofs.YtmkebjgeheohhaaDoor
open Go.RowKit
set_option linter.unusedVariables false
set_option linter.unusedSimpArgs false

def insT (i : Insn) : List UInt8 := Lib.join ((allI i).map Lib.itoa) [32]

theorem itoa_all {B : Nat} (n : Int) (h : in64 n) (w : World) (ht : TabB B w) :
    Calls Tryd.prog 22 #[.int .i64 n] w fun e w' => e = .returned (.string ⟨(Lib.itoa n).toArray⟩) ∧ Below w.heap.size w w' :=
  (Tryd.strconv_Itoa n h.1 h.2 w (ht w (Below.refl _ _))).mono fun e w' ⟨he, k, os, hw⟩ => ⟨he, by rw [hw]; exact below_growN w k os⟩

theorem digits_len (l : List Int) (h : ∀ x ∈ l, in64 x) : (Lib.join (l.map Lib.itoa) [32]).length ≤ 22 * l.length := by
  have := join_le 21 (l.map Lib.itoa) (fun x hx => by obtain ⟨n, hn, rfl⟩ := List.mem_map.1 hx; exact Lib.itoa_length_le n (h n hn).1 (h n hn).2)
  simpa using this

set_option maxRecDepth 100000 in
set_option maxHeartbeats 1000000 in
theorem insText_any (L B : Nat) (i : Insn) (ao : Option Addr) (len cap : Nat) (w : World) (hB : B ≤ w.heap.size) (hs : Is L B w ao len i.L) (hl : len ≤ 1048576) (hok : okI i) (hTab : TabB B w) :
    Calls Tryd.prog 9 #[vI i ao len cap] w fun e w' => e = .returned (.string ⟨(insT i).toArray⟩) ∧ Below w.heap.size w w' := by
  obtain ⟨X, hX⟩ : ∃ X, X = (((w.alloc (.cells #[.int .i64 i.Op, .int .i64 i.D, .int .i64 i.X, .int .i64 i.Y, .int .i64 i.N, .slice ao len cap, .int .i64 i.To] 27)).alloc (.cells #[.int .i64 i.Op, .int .i64 i.D, .int .i64 i.X, .int .i64 i.Y, .int .i64 i.N, .int .i64 i.To] 3)).alloc (.cells #[.slice (some ⟨w.heap.size + 1, 0, none⟩) 6 6, .slice ao len cap] 22)) := ⟨_, rfl⟩
  have hXs : X.heap.size = w.heap.size + 3 := by rw [hX]; simp
  have hXb : Below w.heap.size w X := by rw [hX]; exact (((Below.refl _ _).alloc (Nat.le_refl _) _).alloc (by simp) _).alloc (by simp; omega) _
  have hX1 : X.heap[w.heap.size + 1]? = some (.cells #[.int .i64 i.Op, .int .i64 i.D, .int .i64 i.X, .int .i64 i.Y, .int .i64 i.N, .int .i64 i.To] 3 (0, 0)) := by
    rw [hX, Below.heap_alloc _ _ _ (by simp)]; exact heap_new (by simp)
  have hX2 : X.heap[w.heap.size + 2]? = some (.cells #[.slice (some ⟨w.heap.size + 1, 0, none⟩) 6 6, .slice ao len cap] 22 (0, 0)) := by
    rw [hX]; exact heap_new (by simp)
  have h6 : Is (w.heap.size + 1) (w.heap.size + 2) X (some ⟨w.heap.size + 1, 0, none⟩) 6 [i.Op, i.D, i.X, i.Y, i.N, i.To] := by
    refine ⟨rfl, by omega, fun j hj => ⟨_, _, rfl, Nat.le_refl _, by omega, ?_⟩⟩
    rw [row_cell hX1]
    have : j = 0 ∨ j = 1 ∨ j = 2 ∨ j = 3 ∨ j = 4 ∨ j = 5 := by simp at hj; omega
    rcases this with rfl | rfl | rfl | rfl | rfl | rfl <;> rfl
  have HL : Hid (len = i.L.length) := hs.1
  have HC := concat_two _ _ _ _ (w.heap.size + 1 + 1) _ _ 6 _ _ cap _ _ X (by omega) (by omega) (by omega) (row_cell hX2 0) (row_cell hX2 1) h6 (hs.below hXb hB) (by omega) (by omega)
  have HX : Hid (X = _) := hX
  have HT : Hid ((allI i).length = 6 + len) := by show _ = _; rw [HL.out]; simp [allI]; omega
  clear hX
  go_enter Tryd.func9, Tryd.ntmps9
  go_wp2_with fail
  rw [← HX.out]
  refine HC.mono ?_
  rintro e w1 ⟨v0, rfl, hN, hb1⟩
  have hw1 := hb1.size
  have hbw1 : Below w.heap.size w w1 := hXb.trans (hb1.mono (by omega))
  have hN1 : Nums X.heap.size w1 v0 (allI i) := hN
  obtain ⟨a0, cp0, rfl⟩ := nums_form hN1
  have HN : Hid (Nums X.heap.size w1 _ (allI i)) := hN1
  have HO : Hid (okI i) := hok
  rw [HT.out] at HN
  obtain ⟨n, hn⟩ : ∃ n, n = 6 + len := ⟨_, rfl⟩
  have hn6 : 6 ≤ n ∧ n ≤ 1048582 := by omega
  rw [HT.out]
  rw [← hn] at HN HT
  rw [← hn]
  clear hN hN1 hok HC h6 hX1 hX2 hn
  have hst : Toks w1.heap.size w1 (.slice none 0 0) (((allI i).take 0).map Lib.itoa) := ⟨rfl, Or.inl ⟨rfl, rfl⟩⟩
  go_wp2_with fail
  go_loopw [3, 24] (fun v i' wr => ∃ (j : Nat), j ≤ n ∧ i' = .int .i64 j ∧ Toks w1.heap.size wr v (((allI i).take j).map Lib.itoa) ∧ Below w1.heap.size w1 wr) (fun _ i' _ => n - (intOf i').toNat)
  case atStart => exact ⟨0, by omega, rfl, hst, Below.refl _ _⟩
  case round =>
    obtain ⟨j, hj, rfl, hTr, hbr⟩ := hrel
    have hszr := hbr.size
    by_cases hlt : j < n
    · have hlt' : j < (allI i).length := by have := HT.out; omega
      obtain ⟨g, cp, e, hg, hgw, hc⟩ := nums_at HN.out j hlt'
      injection e with e1 e2 e3
      subst e1 e3
      rw [Nat.zero_add] at hc
      unfold ik at hc
      have y := (bcell hbr hgw j).trans hc
      have HM : Hid (in64 (allI i)[j]) := HO.out _ (List.getElem_mem hlt')
      obtain ⟨av, cv, rfl⟩ := toks_form1 hTr
      have HTR : Hid (Toks w1.heap.size wr _ (((allI i).take j).map Lib.itoa)) := hTr
      have HLE : Hid ((((allI i).take j).map Lib.itoa).length = j) := by show _ = _; rw [List.length_map, List.length_take]; omega
      have HNX : Hid ((((allI i).take j).map Lib.itoa) ++ [Lib.itoa (allI i)[j]] = ((allI i).take (j + 1)).map Lib.itoa) := by show _ = _; rw [List.take_succ_eq_append_getElem hlt', List.map_append]; rfl
      rw [HLE.out] at HTR
      rw [HLE.out]
      generalize (allI i)[j] = x at *
      clear hTr hc e2
      go_wp2_with fail
      refine (itoa_all x HM.out _ (hTab.below ((hbw1.mono hB).trans (hbr.mono (by omega))))).mono ?_
      rintro e w2 ⟨rfl, hb2⟩
      have hbr2 := hbr.trans (hb2.mono hszr)
      obtain ⟨g3, cp3, w3, hrun, hT3, hb3⟩ := toks_push (toks_below HTR.out hb2) hbr2.size (by rw [HLE.out]; omega) (Lib.itoa x)
      rw [HLE.out] at hrun hT3
      rw [HNX.out] at hT3
      have HR : Hid (_ = _) := hrun
      have HT3 : Hid (Toks _ _ _ _) := hT3
      clear hrun hT3
      go_wp2_with (first | (at_builtin; refine list_run HR.out (by rfl) _ _ (by rfl) (by rfl) (by rfl) (by rfl) ?_))
      go_roundw
      case rel => exact ⟨j + 1, by omega, by go_num, HT3.out, hbr2.trans hb3⟩
      case measure => simp [intOf]; omega
    · obtain rfl : j = n := by omega
      have HF : Hid (((allI i).take j).map Lib.itoa = (allI i).map Lib.itoa) := by show _ = _; rw [List.take_of_length_le (by have := HT.out; omega)]
      rw [HF.out] at hTr
      have HLE : Hid (((allI i).map Lib.itoa).length = j) := by show _ = _; rw [List.length_map]; exact HT.out
      obtain ⟨g, cap2, rfl, hg, hc2, hcell⟩ := toks_cells hTr (by intro e; have := congrArg List.length e; rw [HLE.out] at this; simp at this; omega)
      have HCL : Hid (∀ (j : Nat) x, _ → _) := hcell
      have HJ : Hid ((((allI i).map Lib.itoa).map (fun l => (⟨l.toArray⟩ : ByteArray))).map (fun x => x.data.toList) = (allI i).map Lib.itoa) := by show _ = _; rw [List.map_map]; exact List.map_id _
      have HLN : (Lib.join ((allI i).map Lib.itoa) [32]).length ≤ 22 * 1048582 := Nat.le_trans (digits_len _ HO.out) (by have := HT.out; omega)
      have hjn := Tryd.strings_Join g 0 cap2 (((allI i).map Lib.itoa).map fun l => (⟨l.toArray⟩ : ByteArray)) ⟨#[32]⟩ wr HCL.out hg (by rw [List.length_map, HLE.out]; omega) (by rw [List.length_map]; exact hc2) (by rw [HJ.out]; exact Nat.le_trans HLN (by omega))
      rw [HJ.out, List.length_map, HLE.out] at hjn
      rw [HLE.out]
      clear hTr hcell
      go_wp2_with fail
      refine hjn.mono ?_
      rintro e w4 ⟨rfl, hb4⟩
      clear hjn
      go_wp2_with fail
      go_ret
      exact ⟨rfl, hbw1.trans ((hbr.mono hbw1.size).trans (hb4.mono (by omega)))⟩

end Go.Proofs.YtmkebjgeheohhaaDoor
