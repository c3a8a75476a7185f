/-
  The model's 'HeapOk'.
-/
import Derived.Test.YtaljpbgggembmaaDoorShxSh2
namespace Go.Proofs.YtaljpbgggembmaaDoor
open Go.RowKit
set_option linter.unusedVariables false
set_option linter.unusedSimpArgs false

theorem sok_mono {l : List Wrd} {k n : Nat} (h : sok l k = false) (hkn : k ≤ n) : sok l n = false := by
  induction n with
  | zero => rw [show k = 0 by omega] at h; exact h
  | succ n ih =>
    by_cases e : k = n + 1
    · rw [← e]; exact h
    · rw [sok_succ, ih (by omega)]; rfl

set_option maxRecDepth 100000 in
set_option maxHeartbeats 2000000 in
theorem sHeapOk_any (L B : Nat) (s : Int) (ao : Option Addr) (len cap : Nat) (l : List Wrd) (w : World) (hB : B ≤ w.heap.size) (hs : Ws L B w ao len l) (hl : len ≤ 1048576) :
    Calls Tryd.prog 18 #[vH s ao len cap] w fun e w' => e = .returned (.bool (okH s l)) ∧ Below w.heap.size w w' := by
  have HL : Hid (len = l.length) := hs.1
  have HO : Hid (okH s l = ((sizeB s && decide ((len : Int) ≤ s)) && (decide (endO l = l.length) && fok l))) := by show _ = _; rw [HL.out]; rfl
  obtain ⟨ans, hans⟩ : ∃ a, okH s l = a := ⟨_, rfl⟩
  rw [hans] at HO ⊢
  clear hans
  obtain ⟨X, hX⟩ : ∃ X, X = w.alloc (.cells #[.int .i64 s, .slice ao len cap] 31) := ⟨_, rfl⟩
  have hXs : X.heap.size = w.heap.size + 1 := by rw [hX]; simp
  have hXb : Below w.heap.size w X := by rw [hX]; exact (Below.refl _ _).alloc (Nat.le_refl _) _
  have x0 : X.heap[w.heap.size]? = some (.cells #[.int .i64 s, .slice ao len cap] 31 (0, 0)) := by rw [hX]; exact heap_new rfl
  have HX : Hid (X = _) := hX
  have K1 := l1In_all s 0 5000 X
  rw [show (decide (0 ≤ s) && decide (s ≤ 5000)) = sizeB s from rfl] at K1
  have K2 := l12Heads_any L B ao len cap l X (by omega) (hs.below hXb hB) hl
  obtain ⟨f0, f1⟩ := cells2 x0
  have hx0 : w.heap.size < X.heap.size := by omega
  clear hX hXs
  cases hsz : sizeB s with
  | false =>
    have HE : Hid (ans = false) := by show _ = _; rw [HO.out, hsz]; rfl
    rw [hsz] at K1
    clear hsz K2
    go_enter Tryd.func18, Tryd.ntmps18
    go_wp2_with fail
    rw [← HX.out]
    refine K1.mono ?_
    rintro e w1 ⟨rfl, hw1⟩
    obtain rfl : X = w1 := hw1.symm
    clear K1
    go_wp2_with fail
    go_ret
    exact ⟨ret_bool (by rw [HE.out]), hXb⟩
  | true =>
    rw [hsz] at K1
    by_cases hfit : (len : Int) ≤ s
    · have HE : Hid (ans = (decide (endO l = l.length) && fok l)) := by show _ = _; rw [HO.out, hsz]; simp [hfit]
      clear hsz HO
      go_enter Tryd.func18, Tryd.ntmps18
      go_wp2_with fail
      rw [← HX.out]
      refine K1.mono ?_
      rintro e w1 ⟨rfl, hw1⟩
      obtain rfl : X = w1 := hw1.symm
      clear K1
      go_wp2_with fail
      refine K2.mono ?_
      rintro e w2 ⟨rfl, hb2, hR⟩
      clear K2 f0 f1
      have hz2 := hb2.size
      have hbw2 : Below w.heap.size w w2 := hXb.trans (hb2.mono (by omega))
      have x2 := (hb2.block w.heap.size (by omega)).trans x0
      have HW : Hid (∀ k, (decide (endO l = l.length) && sok l k) = false → k ≤ len → ans = false) := by
        intro k hk hkl
        rw [HE.out]
        by_cases he : endO l = l.length
        · rw [← sok_all he]
          simp only [he, decide_true, Bool.true_and] at hk ⊢
          exact sok_mono hk (by have := HL.out; omega)
        · simp [he]
      have HWT : Hid ((decide (endO l = l.length) && sok l len) = ans) := by
        show _ = _
        rw [HE.out]
        by_cases he : endO l = l.length
        · rw [← sok_all he, HL.out]
        · simp [he]
      have HK : Hid (∀ k, sok l (k + 1) = (sok l k && ((heads l).getD k false || rgt (heads l) (l.getD k ⟨0, 0⟩)))) := sok_succ l
      have h0s : Hid ((decide (endO l = l.length) && sok l 0) = decide (endO l = l.length)) := by show _ = _; simp [sok]
      generalize decide (endO l = l.length) = whole at *
      have hXs2 : X.heap.size < w2.heap.size := hR.lt
      go_wp2_with fail
      go_loopw [4, 5] (fun v i wr => ∃ (k : Nat) (b : Bool), i = .int .i64 k ∧ k ≤ len ∧ v = .bool b ∧ Hid ((whole && sok l k) = b) ∧ Below w2.heap.size w2 wr) (fun _ i _ => len - (intOf i).toNat)
      case atStart => exact ⟨0, whole, rfl, by omega, rfl, h0s, Below.refl _ _⟩
      case round =>
        obtain ⟨k, b, rfl, hk, rfl, HB, hbr⟩ := hrel
        have hszr := hbr.size
        obtain ⟨f0, f1⟩ := cells2 ((hbr.block w.heap.size (by omega)).trans x2)
        have hbwr : Below w.heap.size w wr := hbw2.trans (hbr.mono (by omega))
        by_cases hlt : k < len
        · cases b with
          | false =>
            have HF : Hid (ans = false) := HW.out k HB.out (by omega)
            go_wp2_with fail
            go_ret
            exact ⟨ret_bool (by rw [HF.out]), hbwr⟩
          | true =>
            have hlt' : k < l.length := by have := HL.out; omega
            have hgd : l.getD k ⟨0, 0⟩ = l[k] := by rw [List.getD_eq_getElem?_getD, List.getElem?_eq_getElem hlt']; rfl
            have HN : Hid ((whole && sok l (k + 1)) = ((heads l).getD k false || rgt (heads l) l[k])) := by
              show _ = _
              rw [HK.out k, ← Bool.and_assoc, HB.out, Bool.true_and, hgd]
            obtain ⟨bl, o, rfl, _, hbB, htw⟩ := hs.2.2 k hlt'
            obtain ⟨e0, e1⟩ := htw.block (hbwr.block bl (by omega))
            have hRr := hR.bel hbr hR.lt
            have hg := hRr.get k (by rw [heads_len]; exact hlt')
            have K := l12Word_any X.heap.size len len (heads l) l[k] wr hRr (by rw [heads_len]; exact HL.out) hl
            clear htw hgd
            cases hq : (heads l).getD k false with
            | true =>
              rw [hq] at hg HN
              generalize l[k] = x at *
              have HN2 : Hid ((whole && sok l (k + 1)) = true) := by show _ = _; rw [HN.out]; rfl
              clear K hq
              go_wp2_with fail
              go_roundw
              case rel => exact ⟨k + 1, true, by go_num, by omega, rfl, HN2, hbr⟩
              case measure => simp [intOf]; omega
            | false =>
              rw [hq] at hg HN
              obtain ⟨q, hqq⟩ : ∃ q, rgt (heads l) l[k] = q := ⟨_, rfl⟩
              rw [hqq] at K HN
              generalize l[k] = x at *
              have HN2 : Hid ((whole && sok l (k + 1)) = q) := by show _ = _; rw [HN.out]; rfl
              clear hq hqq
              go_wp2_with fail
              refine K.mono ?_
              rintro e w3 ⟨rfl, hb3⟩
              clear K
              go_wp2_with fail
              go_roundw
              case rel => exact ⟨k + 1, q, by go_num, by omega, rfl, HN2, hbr.trans (hb3.mono (by omega))⟩
              case measure => simp [intOf]; omega
        · obtain rfl : k = len := by omega
          have HF : Hid (b = ans) := by show _ = _; rw [← HB.out]; exact HWT.out
          go_wp2_with fail
          go_ret
          exact ⟨ret_bool (by rw [HF.out]), hbwr⟩
    · have HE : Hid (ans = false) := by show _ = _; rw [HO.out]; simp [hfit]
      clear hsz K2 HO
      go_enter Tryd.func18, Tryd.ntmps18
      go_wp2_with fail
      rw [← HX.out]
      refine K1.mono ?_
      rintro e w1 ⟨rfl, hw1⟩
      obtain rfl : X = w1 := hw1.symm
      clear K1
      go_wp2_with fail
      go_ret
      exact ⟨ret_bool (by rw [HE.out]), hXb⟩

end Go.Proofs.YtaljpbgggembmaaDoor
