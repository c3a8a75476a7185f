/-
  The law FnExactShow's walk: whatever heap and word lie in memory, true.
-/
import Derived.Test.YtaljpbgggembmaaDoorShxWoS
import Derived.Test.YtaljpbgggembmaaDoorShxSm8
import Derived.Test.YtaljpbgggembmaaDoorShxRdW
namespace Go.Proofs.YtaljpbgggembmaaDoor
open Go.RowKit
set_option linter.unusedVariables false
set_option linter.unusedSimpArgs false

/-- What the law has in memory: its two boxes. -/
structure Lw2 (w W : World) (s : Int) (ao : Option Addr) (len cap : Nat) (x : Wrd) : Prop where
  bel : Below w.heap.size w W
  b0 : W.heap[w.heap.size]? = some (.cells #[.int .i64 s, .slice ao len cap] 24 (0, 0))
  b1 : W.heap[w.heap.size + 1]? = some (.cells #[.int .i64 x.K, .int .i64 x.N] 26 (0, 0))
theorem Lw2.lt {w W : World} {s : Int} {ao : Option Addr} {len cap : Nat} {x : Wrd} (h : Lw2 w W s ao len cap x) : w.heap.size + 1 < W.heap.size := (Array.getElem?_eq_some_iff.1 h.b1).1
theorem Lw2.below {w W W' : World} {s : Int} {ao : Option Addr} {len cap : Nat} {x : Wrd} (h : Lw2 w W s ao len cap x) (hb : Below W.heap.size W W') : Lw2 w W' s ao len cap x := by
  have := h.lt
  exact ⟨h.bel.trans (hb.mono h.bel.size), (hb.block _ (by omega)).trans h.b0, (hb.block _ (by omega)).trans h.b1⟩
theorem Lw2.drew {w W : World} {s : Int} {ao : Option Addr} {len cap : Nat} {x : Wrd} (h : Lw2 w W s ao len cap x) : Lw2 w W.drew s ao len cap x := h.below ⟨rfl, rfl, rfl, Nat.le_refl _, fun _ _ => rfl⟩
theorem Lw2.rd {w W : World} {s : Int} {ao : Option Addr} {len cap : Nat} {x : Wrd} (h : Lw2 w W s ao len cap x) : W.cell? ⟨w.heap.size, 0, none⟩ = some (.int .i64 s) ∧ W.cell? ⟨w.heap.size, 1, none⟩ = some (.slice ao len cap) ∧ W.cell? ⟨w.heap.size + 1, 0, none⟩ = some (.int .i64 x.K) ∧ W.cell? ⟨w.heap.size + 1, 1, none⟩ = some (.int .i64 x.N) := by
  obtain ⟨a0, a1⟩ := cells2 h.b0
  obtain ⟨a2, a3⟩ := cells2 h.b1
  exact ⟨a0, a1, a2, a3⟩

set_option maxRecDepth 100000 in
set_option maxHeartbeats 4000000 in
theorem law_show (B : Nat) (s : Int) (ao : Option Addr) (len cap : Nat) (l : List Wrd) (x : Wrd) (w : World) (hB : B ≤ w.heap.size) (hs : Ws 0 B w ao len l) (hin : in64 s) (hok : ∀ x ∈ l, okW x) (hx : okW x) (hT : TabB w.heap.size w) :
    Calls Tryd.prog 3 #[vH s ao len cap, vW x] w fun e w' => e = .returned (.bool true) ∧ Below w.heap.size w w' := by
  obtain ⟨X, hX⟩ : ∃ X, X = (w.alloc (.cells #[.int .i64 s, .slice ao len cap] 24)).alloc (.cells #[.int .i64 x.K, .int .i64 x.N] 26) := ⟨_, rfl⟩
  have hXb : Below w.heap.size w X := by rw [hX]; exact ((Below.refl _ _).alloc (Nat.le_refl _) _).alloc (by simp) _
  have hLX : Lw2 w X s ao len cap x := ⟨hXb, by rw [hX, Below.heap_alloc _ _ _ (by simp)]; exact heap_new rfl, by rw [hX]; exact heap_new (by simp)⟩
  have HX : Hid (X = _) := hX
  have hlm := hs.2.1
  have HL : Hid (len = l.length) := hs.1
  clear hX
  by_cases hc : (len : Int) ≤ 1048576
  · have hcn : len ≤ 1048576 := by omega
    have HWS : Hid (∀ W, Below w.heap.size w W → Ws 0 B W ao len l) := fun W hb => hs.keep (fun k _ hk => hb.block k (by omega)) (Nat.le_refl _) (Nat.le_refl _)
    have HTB : Hid (∀ W, Below w.heap.size w W → TabB w.heap.size W) := fun W hb => hT.below hb
    clear hs hT
    go_enter Tryd.func3, Tryd.ntmps3
    go_wp2_with fail
    rw [← HX.out]
    refine (szHeap_any _ _ _ _ _ _ hlm (by omega) (by omega)).mono ?_
    rintro e w1 ⟨rfl, hb1⟩
    rw [szN_pos hc]
    have hL1 := (hLX.below hb1).drew
    have hRd1 := hL1.rd
    have KT := toHeap_any 0 B s ao len cap l w1.drew (Nat.le_trans hB hL1.bel.size) (HWS.out _ hL1.bel) hcn
    clear hLX hXb hb1
    go_wp2_with fail
    go_region_held3 (fun w' => w'.cell? ⟨w.heap.size, 0, none⟩ = some (.int .i64 s) ∧ w'.cell? ⟨w.heap.size, 1, none⟩ = some (.slice ao len cap) ∧ w'.cell? ⟨w.heap.size + 1, 0, none⟩ = some (.int .i64 x.K) ∧ w'.cell? ⟨w.heap.size + 1, 1, none⟩ = some (.int .i64 x.N))
      (first | with_reducible exact hRd4 | with_reducible exact hRd3 | with_reducible exact hRd2 | with_reducible exact hRd1)
      (first
        | (go_at_call 5; refine KS.mono ?_; rintro e w4 ⟨rfl, hb4⟩; have hL4 := hL3.below hb4; have hRd4 := hL4.rd)
        | (go_at_call 7; refine KW.mono ?_; rintro e w3 ⟨rfl, hb3⟩; have hL3 := hL2.below hb3; have hRd3 := hL3.rd; have KS := sShow_any s (some ⟨g2, 0, none⟩) len len l x w3 ((wors_is6 HL.out hcn (wors_bel hs2 hb3)).keep (fun _ _ _ => rfl) (Nat.zero_le _) (Nat.le_refl _)) hcn; unfold vW at KS)
        | (go_at_call 6; refine KT.mono ?_; rintro e w2 ⟨g2, rfl, hb2, hs2⟩; have hL2 := hL1.below hb2; have hRd2 := hL2.rd; have KW := toWord_any x w2; unfold vW at KW))
    all_goals
      clear KS KW KT hRd1 hRd2 hRd3 hs2 hL1 hL2 hL3 hb2 hb3 hb4
      obtain ⟨a0, a1, a2, a3⟩ := hRd4
      have HSH : Hid (∀ W g, Below w.heap.size w W → Ws 0 W.heap.size W (some ⟨g, 0, none⟩) len l → Calls Tryd.prog 8 #[vH s (some ⟨g, 0, none⟩) len len, vW x] W fun e w' => e = .returned (.string ⟨(shT s l x).toArray⟩) ∧ Below W.heap.size W w') := fun W g hb hw => show_any s _ len len l x W hw hcn (Nat.le_refl _) (HTB.out W hb) hb.size
      generalize shT s l x = st at *
      have KT := toHeap_any 0 B s ao len cap l w4 (Nat.le_trans hB hL4.bel.size) (HWS.out _ hL4.bel) hcn
      go_wp2_with fail
      refine KT.mono ?_
      rintro e w5 ⟨g5, rfl, hb5, hs5⟩
      clear KT a0 a1 a2 a3
      have hL5 := hL4.below hb5
      have hA5 : Below w5.heap.size w5 (w5.alloc (.cells #[.int .i64 s, .slice (some ⟨g5, 0, none⟩) len len] 31)) := (Below.refl _ _).alloc (Nat.le_refl _) _
      obtain ⟨Z, hZ⟩ : ∃ Z, Z = (w5.alloc (.cells #[.int .i64 s, .slice (some ⟨g5, 0, none⟩) len len] 31)) := ⟨_, rfl⟩
      rw [← hZ] at hA5
      have z0 : Z.heap[w5.heap.size]? = some (.cells #[.int .i64 s, .slice (some ⟨g5, 0, none⟩) len len] 31 (0, 0)) := by rw [hZ]; exact heap_new rfl
      have hLZ := hL5.below hA5
      have hsZ : Ws 0 w5.heap.size Z (some ⟨g5, 0, none⟩) len l := ((wors_is6 HL.out hcn hs5).keep (fun _ _ _ => rfl) (Nat.zero_le _) (Nat.le_refl _)).below hA5 (Nat.le_refl _)
      have HZ : Hid (Z = _) := hZ
      have hZlt : w5.heap.size < Z.heap.size := (Array.getElem?_eq_some_iff.1 z0).1
      have hw5 : w.heap.size ≤ w5.heap.size := hL5.bel.size
      generalize hD : w5.heap.size = D at *
      have HD : Hid (w5.heap.size = D) := hD
      clear hD hZ hs5 hL5 hb5 hL4 hA5
      have HLd : Hid (∀ W, Below Z.heap.size Z W → W.cell? ⟨D, 0, none⟩ = some (.int .i64 s) ∧ W.cell? ⟨D, 1, none⟩ = some (.slice (some ⟨g5, 0, none⟩) len len)) := fun W hb => cells2 ((hb.block _ hZlt).trans z0)
      have hZd : Below Z.heap.size Z Z.drew := (Below.refl _ _).drew
      have hRd1 : Z.drew.cell? ⟨D, 0, none⟩ = some (.int .i64 s) ∧ Z.drew.cell? ⟨D, 1, none⟩ = some (.slice (some ⟨g5, 0, none⟩) len len) ∧ Z.drew.cell? ⟨w.heap.size + 1, 0, none⟩ = some (.int .i64 x.K) ∧ Z.drew.cell? ⟨w.heap.size + 1, 1, none⟩ = some (.int .i64 x.N) := ⟨(HLd.out _ hZd).1, (HLd.out _ hZd).2, hLZ.drew.rd.2.2.1, hLZ.drew.rd.2.2.2⟩
      have KW := toWord_any x Z.drew
      unfold vW at KW
      go_wp2_with fail
      rw [← HZ.out, HD.out]
      go_region_held3 (fun w' => w'.cell? ⟨D, 0, none⟩ = some (.int .i64 s) ∧ w'.cell? ⟨D, 1, none⟩ = some (.slice (some ⟨g5, 0, none⟩) len len) ∧ w'.cell? ⟨w.heap.size + 1, 0, none⟩ = some (.int .i64 x.K) ∧ w'.cell? ⟨w.heap.size + 1, 1, none⟩ = some (.int .i64 x.N))
        (first | with_reducible exact hRd7 | with_reducible exact hRd6 | with_reducible exact hRd1)
        (first
          | (go_at_call 8; refine KS.mono ?_; rintro e w7 ⟨rfl, hb7⟩; have hZ7 : Below Z.heap.size Z w7 := hZ6.trans (hb7.mono hZ6.size); have hL7 := hLZ.below hZ7; have hRd7 := And.intro (HLd.out w7 hZ7).1 (And.intro (HLd.out w7 hZ7).2 (And.intro hL7.rd.2.2.1 hL7.rd.2.2.2)))
          | (go_at_call 7; refine KW.mono ?_; rintro e w6 ⟨rfl, hb6⟩; have hZ6 : Below Z.heap.size Z w6 := hZd.trans (hb6.mono hZd.size); have hL6 := hLZ.below hZ6; have hRd6 := And.intro (HLd.out w6 hZ6).1 (And.intro (HLd.out w6 hZ6).2 (And.intro hL6.rd.2.2.1 hL6.rd.2.2.2)); have KS := HSH.out w6 g5 hL6.bel ((hsZ.keep (fun k _ hk => hZ6.block k (Nat.lt_trans hk hZlt)) (Nat.le_refl _) (Nat.le_refl _)).keep (fun _ _ _ => rfl) (Nat.le_refl _) (Nat.le_trans (Nat.le_of_lt hZlt) hZ6.size)); unfold vW at KS))
      all_goals
        clear KS KW hRd1 hRd6 hRd7 hL6 hb6 hb7 hZ6
        have hZ7d : Below Z.heap.size Z w7.drew := hZ7.drew
        have hL7d := hL7.drew
        have hRd1 : w7.drew.cell? ⟨D, 0, none⟩ = some (.int .i64 s) ∧ w7.drew.cell? ⟨D, 1, none⟩ = some (.slice (some ⟨g5, 0, none⟩) len len) ∧ w7.drew.cell? ⟨w.heap.size, 0, none⟩ = some (.int .i64 s) ∧ w7.drew.cell? ⟨w.heap.size, 1, none⟩ = some (.slice ao len cap) := ⟨(HLd.out _ hZ7d).1, (HLd.out _ hZ7d).2, hL7d.rd.1, hL7d.rd.2.1⟩
        have KT := toHeap_any 0 B s ao len cap l w7.drew (Nat.le_trans hB hL7d.bel.size) (HWS.out _ hL7d.bel) hcn
        have hs7 : Ws 0 D w7.drew (some ⟨g5, 0, none⟩) len l := hsZ.keep (fun k _ hk => hZ7d.block k (Nat.lt_trans hk hZlt)) (Nat.le_refl _) (Nat.le_refl _)
        go_wp2_with fail
        go_region_held3 (fun w' => w'.cell? ⟨D, 0, none⟩ = some (.int .i64 s) ∧ w'.cell? ⟨D, 1, none⟩ = some (.slice (some ⟨g5, 0, none⟩) len len) ∧ w'.cell? ⟨w.heap.size, 0, none⟩ = some (.int .i64 s) ∧ w'.cell? ⟨w.heap.size, 1, none⟩ = some (.slice ao len cap))
          (first | with_reducible exact hRd9 | with_reducible exact hRd8 | with_reducible exact hRd1)
          (first
            | (go_at_call 9; refine KE.mono ?_; rintro e w9 ⟨rfl, hb9⟩; have hZ9 : Below Z.heap.size Z w9 := hZ8.trans (hb9.mono hZ8.size); have hL9 := hLZ.below hZ9; have hRd9 := And.intro (HLd.out w9 hZ9).1 (And.intro (HLd.out w9 hZ9).2 (And.intro hL9.rd.1 hL9.rd.2.1)))
            | (go_at_call 6; refine KT.mono ?_; rintro e w8 ⟨g8, rfl, hb8, hs8⟩; have hZ8 : Below Z.heap.size Z w8 := hZ7d.trans (hb8.mono hZ7d.size); have hL8 := hLZ.below hZ8; have hRd8 := And.intro (HLd.out w8 hZ8).1 (And.intro (HLd.out w8 hZ8).2 (And.intro hL8.rd.1 hL8.rd.2.1)); have KE := eqHeap_any 0 D _ _ s (some ⟨g5, 0, none⟩) len len (some ⟨g8, 0, none⟩) len len l w8 (Nat.le_trans (Nat.le_of_lt hZlt) hZ8.size) (Nat.le_refl _) (hs7.keep (fun k _ hk => hb8.block k (Nat.lt_of_lt_of_le (Nat.lt_trans hk hZlt) hZ7d.size)) (Nat.le_refl _) (Nat.le_refl _)) (wors_is6 HL.out hcn hs8)))
        all_goals
          have hbF := hL9.bel
          clear KE KT hRd1 hRd8 hRd9 hL8 hL9 hL7 hL7d hs7 hs8
          go_wp2_with fail
          go_ret
          exact ⟨rfl, hbF⟩
  · go_enter Tryd.func3, Tryd.ntmps3
    go_wp2_with fail
    rw [← HX.out]
    refine (szHeap_any _ _ _ _ _ _ hlm (by omega) (by omega)).mono ?_
    rintro e w1 ⟨rfl, hb1⟩
    rw [szN_neg (by omega)]
    have hbF := (hLX.below hb1).bel
    go_wp2_with fail
    go_ret
    exact ⟨rfl, hbF⟩

end Go.Proofs.YtaljpbgggembmaaDoor
