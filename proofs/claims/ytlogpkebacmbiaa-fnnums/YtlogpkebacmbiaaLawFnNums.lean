/-
  The law FnNums: its walk.
-/
import Derived.Test.YtlogpkebacmbiaaYd0
import Derived.Test.YtlogpkebacmbiaaYd1
import Derived.Test.YtlogpkebacmbiaaYg1
namespace Go.Proofs.Ytlogpkebacmbiaa
open Go.RowKit
set_option linter.unusedVariables false
set_option linter.unusedSimpArgs false

theorem big_any (cao : Option Addr) (clen ccap : Nat) (w : World) (hl : clen ≤ 9223372036854775807) :
    Calls Try.prog 14 #[.slice cao clen ccap] w fun e w' => e = .returned (.bool (decide (1048576 < (clen : Int)))) ∧ w' = w := by
  go_enter Try.func14, Try.ntmps14
  go_wp2_with fail
  go_ret
  exact ⟨ret_bool rfl, rfl⟩

set_option maxRecDepth 100000 in
set_option maxHeartbeats 1000000 in
theorem drawPutNum_any (cao : Option Addr) (clen ccap : Nat) (w : World) (hb : Bts w cao clen) (hl : clen ≤ 1048576) :
    Calls Try.prog 15 #[.slice cao clen ccap] w fun e w' => ∃ (a' : Option Addr) (n' c' : Nat) (l : List Int) (n : Int), e = .returned (.tuple #[.slice a' n' c', .int .i64 n]) ∧ Byts w.heap.size w' (.slice a' n' c') l ∧ (∀ x ∈ l, 0 ≤ x ∧ x ≤ 255) ∧ n' ≤ 3 ∧ (-9223372036854775808 ≤ n ∧ n ≤ 9223372036854775807) ∧ Below w.heap.size w w' := by
  go_enter Try.func15, Try.ntmps15
  go_wp2_with fail
  refine (l1New_any cao clen ccap w hb hl).mono ?_
  rintro e w1 ⟨p, rfl, hb1, hp, hC1⟩
  have hz1 := hb1.size
  go_wp2_with fail
  refine (l1Below_any p cao clen ccap 4 _ hC1 (by omega) (by omega)).mono ?_
  rintro e w2 ⟨k, rfl, hk0, hk1, hD2⟩
  obtain ⟨k', rfl⟩ : ∃ k' : Nat, k = (k' : Int) := ⟨k.toNat, by omega⟩
  have hp2 := hD2.cur.lt
  go_wp2_with fail
  refine (l1Bytes_any p cao clen ccap k' w2 hD2.cur (by omega)).mono ?_
  rintro e w3 ⟨a3, c3, l, rfl, hN3, hok3, hD3⟩
  have hD3w := hD2.trans hD3
  go_wp2_with fail
  refine (l1Below_big p cao clen ccap 100000 w3 hD3.cur (by omega) (by omega)).mono ?_
  rintro e w4 ⟨r, rfl, hr0, hr1, hD4⟩
  have hD4w := hD3w.trans hD4
  have hN4 : Byts w2.heap.size w4 (.slice a3 k' c3) l := byts_keep hN3 fun g hg => hD4.grown.block g (byts_own hN3 hg).2 (by have := (byts_own hN3 hg).1; simp; omega)
  go_wp2_with fail
  obtain ⟨X, hX⟩ : ∃ X, X = w4.alloc (.cells (([0, 1, -1, 63, 64, -64, -65, 8192, 1000000000, -1000000000, 1000000001, -9223372036854775808, 9223372036854775807, r] : List Int).map (Value.int .i64)).toArray 3) := ⟨_, rfl⟩
  have hXb : Below w4.heap.size w4 X := by rw [hX]; exact (Below.refl _ _).alloc (Nat.le_refl _) _
  have x1 : X.heap[w4.heap.size]? = some (.cells (([0, 1, -1, 63, 64, -64, -65, 8192, 1000000000, -1000000000, 1000000001, -9223372036854775808, 9223372036854775807, r] : List Int).map (Value.int .i64)).toArray 3 (0, 0)) := by rw [hX]; exact heap_new rfl
  have hp4 := hD4.cur.lt
  refine (l1Int_any p cao clen ccap w4.heap.size 14 14 [0, 1, -1, 63, 64, -64, -65, 8192, 1000000000, -1000000000, 1000000001, -9223372036854775808, 9223372036854775807, r] (w4.alloc (.cells (([0, 1, -1, 63, 64, -64, -65, 8192, 1000000000, -1000000000, 1000000001, -9223372036854775808, 9223372036854775807, r] : List Int).map (Value.int .i64)).toArray 3)) (by rw [← hX]; exact hD4.cur.below hXb) (by rw [← hX]; exact x1) (by omega) rfl (by omega) (by omega)).mono ?_
  rw [← hX]
  rintro e w5 ⟨n, rfl, hn, hD5⟩
  have hN5 : Byts w2.heap.size w5 (.slice a3 k' c3) l := byts_keep (byts_bel hN4 hXb) fun g hg => hD5.grown.block g (byts_own (byts_bel hN4 hXb) hg).2 (by have := (byts_own (byts_bel hN4 hXb) hg).1; simp; omega)
  have hnb : -9223372036854775808 ≤ n ∧ n ≤ 9223372036854775807 := by
    simp only [List.mem_cons, List.not_mem_nil, or_false] at hn
    omega
  have hz2 := hD2.grown.size
  have hD5w : Below w.heap.size w w5 := by
    have a1 : ∀ k, k < w.heap.size → w5.heap[k]? = w.heap[k]? := fun k hk =>
      (hD5.grown.block k (by have := hXb.size; have := hD4w.grown.size; omega) (by simp; omega)).trans ((hXb.block k (by have := hD4w.grown.size; omega)).trans ((hD4w.grown.block k (by omega) (by simp; omega)).trans (hb1.block k hk)))
    exact ⟨hD5.grown.os.trans (hXb.os.trans (hD4w.grown.os.trans hb1.os)), hD5.grown.tape.trans (hXb.tape.trans (hD4w.grown.tape.trans hb1.tape)), hD5.grown.output.trans (hXb.output.trans (hD4w.grown.output.trans hb1.output)), by have := hD5.grown.size; have := hXb.size; have := hD4w.grown.size; omega, a1⟩
  clear hn x1
  go_wp2_with fail
  go_ret2
  exact ⟨_, _, _, _, _, rfl, byts_le hN5 (by omega), hok3, by omega, hnb, hD5w⟩

theorem byts_cap {base : Nat} {w : World} {ao : Option Addr} {n c : Nat} {P : List Int} (h : Byts base w (.slice ao n c) P) : n ≤ c ∧ n = P.length := by
  rcases h.2 with ⟨e, hn⟩ | ⟨g, cap, cur, e, hg, hh, h1, _⟩
  · cases e; exact ⟨Nat.le_refl _, hn.symm⟩
  · cases e; exact ⟨h1, rfl⟩
theorem put_bytes (n : Int) : ∀ x ∈ put n, 0 ≤ x ∧ x ≤ 255 := by
  have : ∀ m, ∀ x ∈ grp m, 0 ≤ x ∧ x ≤ 255 := grp_ind (fun m h x hx => by rw [grp_last h] at hx; rw [List.mem_singleton.1 hx]; omega) (fun m h ih x hx => by
    rw [grp_more h] at hx
    rcases List.mem_cons.1 hx with rfl | hx
    · omega
    · exact ih x hx)
  exact this _

set_option maxRecDepth 100000 in
set_option maxHeartbeats 1000000 in
theorem law_fnNums (cao : Option Addr) (clen ccap : Nat) (w : World) (hb : Bts w cao clen) (hl : clen ≤ 9223372036854775807) :
    Calls Try.prog 5 #[.slice cao clen ccap] w fun e w' => e = .returned (.bool true) ∧ Below w.heap.size w w' := by
  by_cases hbig : 1048576 < (clen : Int)
  · have HBG : Hid (decide (1048576 < (clen : Int)) = true) := by show _ = _; simpa using hbig
    clear hbig
    go_enter Try.func5, Try.ntmps5
    go_wp2_with fail
    refine (big_any _ _ _ _ hl).mono ?_
    rintro e w1 ⟨rfl, hw⟩
    subst hw
    rw [HBG.out]
    go_wp2_with fail
    go_ret
    exact ⟨rfl, Below.refl _ _⟩
  · have HBG : Hid (decide (1048576 < (clen : Int)) = false) := by show _ = _; simpa using hbig
    go_enter Try.func5, Try.ntmps5
    go_wp2_with fail
    refine (big_any _ _ _ _ hl).mono ?_
    rintro e w1 ⟨rfl, hw⟩
    subst hw
    rw [HBG.out]
    go_wp2_with fail
    refine (drawPutNum_any cao clen ccap w1 hb (by omega)).mono ?_
    rintro e w2 ⟨a2, n2, c2, l, n, rfl, hN2, hok, hn2, hn, hb2⟩
    have hz2 := hb2.size
    obtain ⟨_, hl2⟩ := byts_cap hN2
    have HL : Hid (n2 = l.length) := hl2
    clear hl2
    go_wp2_with fail
    refine (putNum_any a2 n2 c2 l n w2 (Nat.le_refl _) (byts_bs hN2 (by have := HL.out; omega)) (by omega) hn.1 hn.2).mono ?_
    rintro e w3 ⟨a3, n3, c3, rfl, hN3, hb3⟩
    obtain ⟨hc3, hl3⟩ := byts_cap hN3
    have hb3w : Below w1.heap.size w1 w3 := hb2.trans (hb3.mono hz2)
    have hpl := put_len n
    have hpp := grp_pos (zig n)
    have hn3 : n3 ≤ 8 ∧ n2 + 1 ≤ n3 := by rw [List.length_append] at hl3; have := HL.out; unfold put at hl3 hpl; omega
    have hok3 : ∀ x ∈ l ++ put n, 0 ≤ x ∧ x ≤ 255 := fun x hx => (List.mem_append.1 hx).elim (hok x) (put_bytes n x)
    have K1 := getNum_any a3 n3 c3 (l ++ put n) n2 w3 (Nat.le_refl _) (byts_bs hN3 (by omega)) hok3 (by omega) hc3 (by omega) (by omega)
    have e1 : getN (grpAt (l ++ put n) (n2 : Int)) (n2 : Int) = (cla n, (n3 : Int), true) := by rw [HL.out, hl3]; exact get_put l n
    rw [e1] at K1
    have K2 : Calls Try.prog 13 #[.slice a3 (n3 - 1) c3, .int .i64 n2] w3 fun e w' => e = .returned (getV (0, 0, false)) ∧ w' = w3 := by
      have hB3 := byts_bs hN3 (by omega)
      have hcut : Bs w2.heap.size w3.heap.size w3 a3 (n3 - 1) ((l ++ put n).take (n3 - 1)) := by
        refine ⟨by rw [List.length_take]; omega, by omega, fun i hi => ?_⟩
        rw [List.length_take] at hi
        obtain ⟨b, o, e, q1, q2, q3⟩ := hB3.2.2 i (by omega)
        exact ⟨b, o, e, q1, q2, by rw [List.getElem_take]; exact q3⟩
      have := getNum_any a3 (n3 - 1) c3 _ n2 w3 (Nat.le_refl _) hcut (fun x hx => hok3 x (List.mem_of_mem_take hx)) (by omega) (by omega) (by omega) (by omega)
      have e2 := get_cut l n
      rw [← List.length_append, ← hl3, ← HL.out] at e2
      rw [e2] at this
      exact this
    have HK1 : Hid (Calls Try.prog 13 #[.slice a3 n3 c3, .int .i64 n2] w3 fun e w' => e = .returned (getV (cla n, (n3 : Int), true)) ∧ w' = w3) := K1
    have HK2 : Hid (Calls Try.prog 13 #[.slice a3 (n3 - 1) c3, .int .i64 n2] w3 fun e w' => e = .returned (getV (0, 0, false)) ∧ w' = w3) := K2
    obtain ⟨hn3, hn3'⟩ := hn3
    clear K1 K2 e1 hl3 hpl hpp hok3 hok hN3 hN2 hb
    rcases (by omega : 1000000000 < n ∨ n < -1000000000 ∨ (-1000000000 ≤ n ∧ n ≤ 1000000000)) with h | h | ⟨h, h'⟩
    · have HC : Hid (cla n = 1000000000) := by show _ = _; unfold cla; rw [if_neg (by omega), if_pos h]
      go_wp2_with fail
      refine HK1.out.mono ?_
      rintro e w4 ⟨rfl, hw⟩
      subst hw
      rw [HC.out]
      unfold getV
      go_wp2_with fail
      refine HK2.out.mono ?_
      rintro e w5 ⟨rfl, hw⟩
      subst hw
      unfold getV
      go_wp2_with fail
      go_ret
      exact ⟨rfl, hb3w⟩
    · have HC : Hid (cla n = -1000000000) := by show _ = _; unfold cla; rw [if_pos h]
      go_wp2_with fail
      refine HK1.out.mono ?_
      rintro e w4 ⟨rfl, hw⟩
      subst hw
      rw [HC.out]
      unfold getV
      go_wp2_with fail
      refine HK2.out.mono ?_
      rintro e w5 ⟨rfl, hw⟩
      subst hw
      unfold getV
      go_wp2_with fail
      go_ret
      exact ⟨rfl, hb3w⟩
    · have HC : Hid (cla n = n) := by show _ = _; unfold cla; rw [if_neg (by omega), if_neg (by omega)]
      go_wp2_with fail
      refine HK1.out.mono ?_
      rintro e w4 ⟨rfl, hw⟩
      subst hw
      rw [HC.out]
      unfold getV
      go_wp2_with fail
      refine HK2.out.mono ?_
      rintro e w5 ⟨rfl, hw⟩
      subst hw
      unfold getV
      go_wp2_with fail
      go_ret
      exact ⟨rfl, hb3w⟩

end Go.Proofs.Ytlogpkebacmbiaa
