/-
  The model's 'l12Roots' and 'Reached'.
-/
import Derived.Test.YtaljpbgggembmaaDoorShxSh3
import Derived.Test.YtaljpbgggembmaaDoorShxRe10
namespace Go.Proofs.YtaljpbgggembmaaDoor
open Go.RowKit
set_option linter.unusedVariables false
set_option linter.unusedSimpArgs false

theorem all_take_all {p : Wrd → Bool} {l : List Wrd} {k : Nat} (h : l.length ≤ k) : (l.take k).all p = l.all p := by rw [List.take_of_length_le h]
theorem all_take_no {p : Wrd → Bool} {l : List Wrd} {k : Nat} (hk : k < l.length) (h : p l[k] = false) : l.all p = false := by
  rw [List.all_eq_false]
  exact ⟨l[k], List.getElem_mem hk, by simp [h]⟩
theorem all_take_next {p : Wrd → Bool} {l : List Wrd} {k : Nat} (hk : k < l.length) (h : (l.take k).all p = true) (h2 : p l[k] = true) : (l.take (k + 1)).all p = true := by
  rw [List.take_succ_eq_append_getElem hk, List.all_append, h]
  simp [h2]

set_option maxRecDepth 100000 in
set_option maxHeartbeats 2000000 in
theorem l12Roots_any (L B Lr Br : Nat) (s : Int) (ao : Option Addr) (len cap : Nat) (l : List Wrd) (ar : Option Addr) (nr cr : Nat) (roots : List Wrd) (w : World) (hB : B ≤ w.heap.size) (hBr : Br ≤ w.heap.size) (hs : Ws L B w ao len l) (hr : Ws Lr Br w ar nr roots) (hl : len ≤ 1048576) (hnr : nr ≤ 1048576) :
    Calls Tryd.prog 11 #[vH s ao len cap, .slice ar nr cr] w fun e w' => e = .returned (.bool (rokB s l roots)) ∧ Below w.heap.size w w' := by
  have HL : Hid (len = l.length) := hs.1
  have HNR : Hid (nr = roots.length) := hr.1
  have HR : Hid (rokB s l roots = (okH s l && roots.all (rgt (heads l)))) := rfl
  obtain ⟨ans, hans⟩ : ∃ b, rokB s l roots = b := ⟨_, rfl⟩
  rw [hans] at HR ⊢
  clear hans
  obtain ⟨X, hX⟩ : ∃ X, X = w.alloc (.cells #[.int .i64 s, .slice ao len cap] 31) := ⟨_, rfl⟩
  have hXs : X.heap.size = w.heap.size + 1 := by rw [hX]; simp
  have hXb : Below w.heap.size w X := by rw [hX]; exact (Below.refl _ _).alloc (Nat.le_refl _) _
  have x0 : X.heap[w.heap.size]? = some (.cells #[.int .i64 s, .slice ao len cap] 31 (0, 0)) := by rw [hX]; exact heap_new rfl
  have K := sHeapOk_any L B s ao len cap l X (by omega) (hs.below hXb hB) hl
  have HX : Hid (X = _) := hX
  have hx0 : w.heap.size < X.heap.size := by omega
  obtain ⟨f0, f1⟩ := cells2 x0
  clear hX hXs
  obtain ⟨q, hq⟩ : ∃ q, okH s l = q := ⟨_, rfl⟩
  rw [hq] at K HR
  clear hq
  cases q with
  | false =>
    have HE : Hid (ans = false) := HR.out
    go_enter Tryd.func11, Tryd.ntmps11
    go_wp2_with fail
    rw [← HX.out]
    refine K.mono ?_
    rintro e w1 ⟨rfl, hb1⟩
    have hbw : Below w.heap.size w w1 := hXb.trans (hb1.mono (by omega))
    clear K
    go_wp2_with fail
    go_ret
    exact ⟨ret_bool (by rw [HE.out]), hbw⟩
  | true =>
    have HE : Hid (ans = roots.all (rgt (heads l))) := HR.out
    go_enter Tryd.func11, Tryd.ntmps11
    go_wp2_with fail
    rw [← HX.out]
    refine K.mono ?_
    rintro e w1 ⟨rfl, hb1⟩
    have hz1 := hb1.size
    have hbw : Below w.heap.size w w1 := hXb.trans (hb1.mono (by omega))
    have y0 := (hb1.block _ hx0).trans x0
    have K2 := l12Heads_any L B ao len cap l w1 (by omega) (hs.below hbw hB) hl
    generalize decide (endO l = l.length) = whole at K2
    clear K f0 f1
    obtain ⟨f0, f1⟩ := cells2 y0
    go_wp2_with fail
    refine K2.mono ?_
    rintro e w2 ⟨rfl, hb2, hR⟩
    clear K2 f0 f1
    have hz2 := hb2.size
    have hbw2 : Below w.heap.size w w2 := hbw.trans (hb2.mono (by omega))
    have hRl := hR.lt
    go_wp2_with fail
    go_loopw [7] (fun i wr => ∃ (k : Nat), i = .int .i64 k ∧ k ≤ nr ∧ Hid ((roots.take k).all (rgt (heads l)) = true) ∧ Below w2.heap.size w2 wr) (fun i _ => nr - (intOf i).toNat)
    case atStart => exact ⟨0, rfl, by omega, (by show _ = _; simp), Below.refl _ _⟩
    case round =>
      obtain ⟨k, rfl, hk, HB, hbr⟩ := hrel
      have hszr := hbr.size
      have hbwr : Below w.heap.size w wr := hbw2.trans (hbr.mono (by omega))
      by_cases hlt : k < nr
      · have hlt' : k < roots.length := by have := HNR.out; omega
        obtain ⟨bl, o, rfl, _, hbB, htw⟩ := hr.2.2 k hlt'
        obtain ⟨e0, e1⟩ := htw.block (hbwr.block bl (by omega))
        have hRr := hR.bel hbr hR.lt
        have K := l12Word_any w1.heap.size len len (heads l) roots[k] wr hRr (by rw [heads_len]; exact HL.out) hl
        clear htw
        cases hqq : rgt (heads l) roots[k] with
        | true =>
          have HN : Hid ((roots.take (k + 1)).all (rgt (heads l)) = true) := all_take_next hlt' HB.out hqq
          rw [hqq] at K
          generalize roots[k] = x at *
          clear hqq
          go_wp2_with fail
          refine K.mono ?_
          rintro e w3 ⟨rfl, hb3⟩
          clear K
          go_wp2_with fail
          go_roundw
          case rel => exact ⟨k + 1, by go_num, by omega, HN, hbr.trans (hb3.mono (by omega))⟩
          case measure => simp [intOf]; omega
        | false =>
          have HF : Hid (ans = false) := by show _ = _; rw [HE.out]; exact all_take_no hlt' hqq
          rw [hqq] at K
          generalize roots[k] = x at *
          clear hqq
          go_wp2_with fail
          refine K.mono ?_
          rintro e w3 ⟨rfl, hb3⟩
          clear K
          have hbw3 : Below w.heap.size w w3 := hbwr.trans (hb3.mono (by omega))
          go_wp2_with fail
          go_ret
          exact ⟨ret_bool (by rw [HF.out]), hbw3⟩
      · obtain rfl : k = nr := by omega
        have HF : Hid (ans = true) := by show _ = _; rw [HE.out, ← all_take_all (k := k) (by have := HNR.out; omega)]; exact HB.out
        go_wp2_with fail
        go_ret
        exact ⟨ret_bool (by rw [HF.out]), hbwr⟩

end Go.Proofs.YtaljpbgggembmaaDoor
