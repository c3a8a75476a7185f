/-
  Marking a term that owns its memory: what is answered is no less than what was given, and no block but its own has changed.
-/
import Derived.Test.YtgckmnchlkgakaaBndMs
import Derived.Test.YtgckmnchlkgakaaBndHd
import Derived.Test.YtgckmnchlkgakaaBndOwM
namespace Go.Proofs.Ytgckmnchlkgakaa
open Go.RowKit
set_option linter.unusedVariables false
set_option linter.unusedSimpArgs false

theorem markTextI_any (k : Int) (h0 : 0 ≤ k) (h1 : k ≤ 4611686018427387904) (w : World) : Calls Try.prog 44 #[.int .i64 k] w fun e w' => ∃ s : ByteArray, e = .returned (.string s) ∧ Below w.heap.size w w' := by
  obtain ⟨n, rfl⟩ : ∃ n : Nat, k = n := ⟨k.toNat, by omega⟩
  exact (markText_any n (by omega) w).mono fun e w' ⟨h1, h2⟩ => ⟨_, h1, h2⟩

/-- From wr to W: in block g only six cells from o on, of the others only those in q, have changed. -/
structure St (g o : Nat) (cs : Array Value) (q : List Nat) (wr W : World) : Prop where
  os : W.os = wr.os
  tape : W.tape = wr.tape
  output : W.output = wr.output
  size : wr.heap.size ≤ W.heap.size
  other : ∀ b, b < wr.heap.size → b ≠ g → b ∉ q → W.heap[b]? = wr.heap[b]?
  row : ∃ c : Array Value, W.heap[g]? = some (.cells c 36 (0, 0)) ∧ c.size = cs.size ∧ ∀ i, (i < o ∨ o + 6 ≤ i) → c[i]? = cs[i]?

theorem St.refl {g o : Nat} {cs : Array Value} {wr : World} (h : wr.heap[g]? = some (.cells cs 36 (0, 0))) : St g o cs [] wr wr :=
  ⟨rfl, rfl, rfl, Nat.le_refl _, fun _ _ _ _ => rfl, cs, h, rfl, fun _ _ => rfl⟩
theorem St.set {g o : Nat} {cs : Array Value} {q : List Nat} {wr W : World} (h : St g o cs q wr W) (c : Nat) (hc : c < 6) (x : Value) : St g o cs q wr (W.setCell ⟨g, o + c, none⟩ x) := by
  obtain ⟨cw, h1, h2, h3⟩ := h.row
  refine ⟨h.os, h.tape, h.output, by rw [World.size_setCell]; exact h.size, fun b hb hg hq => by rw [row_other _ _ _ hg]; exact h.other b hb hg hq, _, row_set h1 _ _, by simpa using h2, fun i hi => ?_⟩
  rw [Array.getElem?_setIfInBounds_ne (by omega)]
  exact h3 i hi
theorem St.below {g o : Nat} {cs : Array Value} {q : List Nat} {wr W W' : World} (h : St g o cs q wr W) (hb : Below W.heap.size W W') : St g o cs q wr W' := by
  obtain ⟨cw, h1, h2, h3⟩ := h.row
  exact ⟨hb.os.trans h.os, hb.tape.trans h.tape, hb.output.trans h.output, Nat.le_trans h.size hb.size, fun b hb' hg hq => (hb.block b (Nat.lt_of_lt_of_le hb' h.size)).trans (h.other b hb' hg hq), cw, (hb.block g (Array.getElem?_eq_some_iff.1 h1).1).trans h1, h2, h3⟩
theorem St.chg {g o : Nat} {cs : Array Value} {q p : List Nat} {wr W W' : World} (h : St g o cs q wr W) (hc : Chg p W W') (hg : g ∉ p) : St g o cs (q ++ p) wr W' := by
  obtain ⟨cw, h1, h2, h3⟩ := h.row
  exact ⟨hc.os.trans h.os, hc.tape.trans h.tape, hc.output.trans h.output, Nat.le_trans h.size hc.size, fun b hb' hg' hq => (hc.block b (Nat.lt_of_lt_of_le hb' h.size) (fun e => hq (List.mem_append_right _ e))).trans (h.other b hb' hg' (fun e => hq (List.mem_append_left _ e))), cw, (hc.block g (Array.getElem?_eq_some_iff.1 h1).1 hg).trans h1, h2, h3⟩
theorem St.keep {g o : Nat} {cs : Array Value} {q : List Nat} {wr W : World} (h : St g o cs q wr W) (i : Nat) (hi : i < o ∨ o + 6 ≤ i) : W.cell? ⟨g, i, none⟩ = cs[i]? := by
  obtain ⟨cw, h1, h2, h3⟩ := h.row
  rw [row_cell h1]; exact h3 i hi
theorem St.has {g o : Nat} {cs : Array Value} {q : List Nat} {wr W : World} (h : St g o cs q wr W) (i : Nat) (hi : i < cs.size) : ∃ x, W.cell? ⟨g, i, none⟩ = some x := by
  obtain ⟨cw, h1, h2, h3⟩ := h.row
  rw [row_cell h1]
  exact ⟨cw[i]'(by omega), by simp [h2, hi]⟩
theorem St.free {g o : Nat} {cs : Array Value} {q : List Nat} {wr W : World} (h : St g o cs q wr W) (i : Nat) : W.frozen? ⟨g, i, none⟩ = false := by
  obtain ⟨cw, h1, h2, h3⟩ := h.row
  exact row_free h1 i

/-- The elements from j on are as they were. -/
def RestM (w wr : World) (D d g len j : Nat) (ts : List Tm) (bss : List (List Nat)) : Prop :=
  ∃ cs : Array Value, wr.heap[g]? = some (.cells cs 36 (0, 0)) ∧ len * 9 ≤ cs.size ∧ ∀ i (_ : i < ts.length) (_ : i < bss.length), j ≤ i → ∃ a1 l1 c1 a2 l2 c2 a3 l3 c3, Nine wr g (i * 9) ts[i].K ts[i].N ts[i].S ts[i].Z ts[i].T.K ts[i].T.N (.slice a1 l1 c1) (.slice a2 l2 c2) (.slice a3 l3 c3) ∧ FldO wr D (OwM wr D d) ts[i] a1 l1 a2 l2 a3 l3 bss[i]

def SaidMW (D d : Nat) : Prop := ∀ (ao : Option Addr) (len cap : Nat) (ts : List Tm) (bs : List Nat) (k : Int) (w : World), OwM w D d ao len ts bs → bs.Nodup → (∀ b ∈ bs, b < w.heap.size) → 0 ≤ k → k + 6 * cntMS ts ≤ 4611686018427387904 →
    Calls Try.prog 43 #[.slice ao len cap, .int .i64 k] w fun e w' => ∃ k', e = .returned (.int .i64 k') ∧ k ≤ k' ∧ k' ≤ k + 6 * cntMS ts ∧ Chg bs w w'

set_option maxHeartbeats 400000 in
theorem mw_empty (ao : Option Addr) (cap : Nat) (k : Int) (w : World) :
    Calls Try.prog 43 #[.slice ao 0 cap, .int .i64 k] w fun e w' => ∃ k', e = .returned (.int .i64 k') ∧ k ≤ k' ∧ k' ≤ k + 6 * cntMS [] ∧ Chg [] w w' := by
  go_enter Try.func43, Try.ntmps43
  go_wp2_with fail
  refine wp_loop_rounds 1 ?_; rw [rounds_succ]
  go_wp2_with fail
  go_ret
  exact ⟨_, rfl, by omega, by omega, Chg.refl _ _⟩

theorem mw_zero (D : Nat) : SaidMW D 0 := by
  intro ao len cap ts bs k w ho hnd hin h0 h1
  obtain ⟨rfl, rfl, rfl⟩ := ho
  exact mw_empty ao cap k w

set_option maxRecDepth 100000 in
set_option maxHeartbeats 2000000 in
theorem mw_succ (D d : Nat) (IH : SaidMW D d) : SaidMW D (d + 1) := by
  intro ao len cap ts bs k w ho hnd hin hk0 hk1
  rcases ho with ⟨rfl, rfl, rfl⟩ | ⟨g, cs, bss, rfl, hl, hm, hg, hc, hbl, rfl, hE⟩
  · exact mw_empty ao cap k w
  have HL : Hid (len = ts.length) := hl
  have hgw := hin g (by simp)
  have HI : Hid (∀ b ∈ bss.flatten, b < w.heap.size) := fun b hb => hin b (List.mem_cons_of_mem _ hb)
  have HND : Hid (g :: bss.flatten).Nodup := hnd
  have HB : Hid (bss.length = ts.length) := hbl
  have HC : Hid (cntMS ts = ts.length + subMS ts) := cntMS_eq ts
  have hRow : RestM w w D d g len 0 ts bss := ⟨cs, hg, hc, fun i hi hi' _ => hE i hi hi'⟩
  clear hE hin hnd hg hc hl hbl
  go_enter Try.func43, Try.ntmps43
  go_wp2_with fail
  go_loopw [1, 5] (fun kv i wr => ∃ (j : Nat) (kj : Int), j ≤ len ∧ i = .int .i64 j ∧ kv = .int .i64 kj ∧ k ≤ kj ∧ kj ≤ k + 6 * ((j : Int) + subMS (ts.take j)) ∧ Chg (g :: bss.flatten) w wr ∧ RestM w wr D d g len j ts bss) (fun _ i _ => len - (intOf i).toNat)
  case atStart => exact ⟨0, k, by omega, rfl, rfl, by omega, by simp [subMS], Chg.refl _ _, hRow⟩
  case round =>
    obtain ⟨j, kj, hj, rfl, rfl, hkl, hku, hch, hR⟩ := hrel
    have hszr := hch.size
    by_cases hlt : j < len
    · have hlt' : j < ts.length := by have := HL.out; omega
      have hjb : j < bss.length := by have := HB.out; omega
      obtain ⟨cs', hr, hcs, hEl⟩ := hR
      obtain ⟨a1, l1, c1, a2, l2, c2, a3, l3, c3, h9, p1, p2, p3, hp, _, _, hO1, hO2, hO3⟩ := hEl j hlt' hjb (Nat.le_refl _)
      have hkt : kj + 6 + 2 * cntS ts[j].T.A + 2 * cntS ts[j].Ts + 6 * cntMS ts[j].A ≤ k + 6 * cntMS ts ∧ kj + 6 + 2 * cntS ts[j].T.A + 2 * cntS ts[j].Ts + 6 * cntMS ts[j].A ≤ k + 6 * (((j + 1 : Nat) : Int) + subMS (ts.take (j + 1))) := by
        have q1 := subMS_take ts j hlt'
        have q2 := subMS_take_le ts (j + 1)
        have q3 := HC.out
        have q4 := cntM_eq ts[j]
        unfold ownM at q4
        have q5 : j + 1 ≤ ts.length := hlt'
        constructor <;> omega
      have HKT : Hid (_ ∧ _) := hkt
      have hk6 : kj + 6 ≤ 4611686018427387904 := by have := hkt.1; omega
      have hs0 : St g (j * 9) cs' [] wr wr := St.refl hr
      have hcsz : j * 9 + 9 ≤ cs'.size := by omega
      obtain ⟨n0, n1, n2, n3, n4, n5, n6, n7, n8⟩ := h9
      have f0 := hs0.free
      obtain ⟨A0, hA0⟩ : ∃ A0, A0 = (wr.setCell ⟨g, j * 9, none⟩ (.int .i64 kj)).setCell ⟨g, j * 9 + 1, none⟩ (.int .i64 (kj + 1)) := ⟨_, rfl⟩
      have hsA : St g (j * 9) cs' [] wr A0 := by rw [hA0]; exact (hs0.set 0 (by omega) _).set 1 (by omega) _
      have HA0 : Hid (A0 = _) := hA0
      have hnd := HND.out
      rw [List.nodup_cons] at hnd
      clear hA0 hkt
      have hpn := part_nodup hnd.2 hjb
      rw [hp] at hpn
      have hpin : ∀ b ∈ p1 ++ p2 ++ p3, b ≠ g ∧ b < wr.heap.size := fun b hb => by
        have hbf : b ∈ bss.flatten := mem_part hjb (by rw [hp]; exact hb)
        exact ⟨fun e => hnd.1 (e ▸ hbf), by have := HI.out b hbf; omega⟩
      have hn12 := (List.nodup_append.1 hpn).1
      have hn3 := (List.nodup_append.1 hpn).2.1
      have hd3 := (List.nodup_append.1 hpn).2.2
      have hn1 := (List.nodup_append.1 hn12).1
      have hn2 := (List.nodup_append.1 hn12).2.1
      have hd2 := (List.nodup_append.1 hn12).2.2
      have HP : Hid (_ ∧ _ ∧ _ ∧ _ ∧ _ ∧ _) := ⟨hpin, hn1, hn2, hn3, hd2, hd3⟩
      have HO : Hid (_ ∧ _ ∧ _) := ⟨hO1, hO2, hO3⟩
      have HR6 : Hid (_ ∧ _ ∧ _) := ⟨(row_cell hr _).symm.trans n6, (row_cell hr _).symm.trans n7, (row_cell hr _).symm.trans n8⟩
      clear hpn hpin hn12 hn3 hd3 hn1 hn2 hd2 hO1 hO2 hO3 hnd
      go_wp2_with fail
      rw [← HA0.out]
      refine (markTextI_any _ (by omega) (by omega) _).mono ?_
      rintro e w1 ⟨s1, rfl, hb1⟩
      have hs1 := hsA.below hb1
      obtain ⟨x2, hx2⟩ := hs1.has (j * 9 + 2) (by omega)
      have f1 := hs1.free (j * 9 + 2)
      clear n0 n1 n2 n3 n4 n5 n6 n7 n8 f0
      go_wp2_with fail
      have hsB := hs1.set 2 (by omega) (.string s1)
      refine (markTextI_any _ (by omega) (by omega) _).mono ?_
      rintro e w2 ⟨s2, rfl, hb2⟩
      have hs2 := hsB.below hb2
      obtain ⟨x3, hx3⟩ := hs2.has (j * 9 + 3) (by omega)
      obtain ⟨x4, hx4⟩ := hs2.has (j * 9 + 4) (by omega)
      obtain ⟨x5, hx5⟩ := hs2.has (j * 9 + 5) (by omega)
      have g3 := hs2.free (j * 9 + 3)
      have g4 := hs2.free (j * 9 + 4)
      have g5 := hs2.free (j * 9 + 5)
      have k6 := (hs2.keep (j * 9 + 6) (by omega)).trans HR6.out.1
      clear hx2 f1 hb1
      go_wp2_with fail
      obtain ⟨A2, hA2⟩ : ∃ A2, A2 = ((w2.setCell ⟨g, j * 9 + 3, none⟩ (.string s2)).setCell ⟨g, j * 9 + 4, none⟩ (.int .i64 (kj + 1 + 1 + 1 + 1))).setCell ⟨g, j * 9 + 4 + 1, none⟩ (.int .i64 (kj + 1 + 1 + 1 + 1 + 1)) := ⟨_, rfl⟩
      have hsC : St g (j * 9) cs' [] wr A2 := by rw [hA2]; exact ((hs2.set 3 (by omega) _).set 4 (by omega) _).set 5 (by omega) _
      rw [← hA2]
      clear hA2 hx3 hx4 hx5 g3 g4 g5 k6 hb2
      obtain ⟨hpin, hn1, hn2, hn3, hd2, hd3⟩ := HP.out
      obtain ⟨hO1, hO2, hO3⟩ := HO.out
      have hOA : Ow A2 D a1 l1 ts[j].T.A p1 := hO1.keep fun b hb => hsC.other b (hpin b (by simp [hb])).2 (hpin b (by simp [hb])).1 (by simp)
      refine (mkS_any D _ _ _ _ p1 _ _ hOA hn1 (fun b hb => Nat.lt_of_lt_of_le (hpin b (by simp [hb])).2 hsC.size) (by omega) (by have := HKT.out.1; omega)).mono ?_
      rintro e w3 ⟨rfl, hc3, _⟩
      have hs3 := hsC.chg hc3 (fun e => (hpin g (by simp [e])).1 rfl)
      have hOB : Ow w3 D a2 l2 ts[j].Ts p2 := hO2.keep fun b hb => hs3.other b (hpin b (by simp [hb])).2 (hpin b (by simp [hb])).1 (fun e => hd2 b (by simpa using e) b hb rfl)
      have k7 := (hs3.keep (j * 9 + 7) (by omega)).trans HR6.out.2.1
      have hin2 : ∀ b ∈ p2, b < w3.heap.size := fun b hb => Nat.lt_of_lt_of_le (hpin b (by simp [hb])).2 hs3.size
      clear hpin hn1 hn3 hd2 hd3 hO1 hO2 hO3 hOA hsC hc3
      go_wp2_with fail
      refine (mkS_any D _ _ _ _ p2 _ _ hOB hn2 hin2 (by omega) (by have := HKT.out.1; omega)).mono ?_
      rintro e w4 ⟨rfl, hc4, _⟩
      obtain ⟨hpin, hn1, _, hn3, hd2, hd3⟩ := HP.out
      obtain ⟨hO1, hO2, hO3⟩ := HO.out
      have hs4 := hs3.chg hc4 (fun e => (hpin g (by simp [e])).1 rfl)
      have hOC : OwM w4 D d a3 l3 ts[j].A p3 := hO3.keep fun b hb => hs4.other b (hpin b (by simp [hb])).2 (hpin b (by simp [hb])).1 (fun e => hd3 b (by simpa using e) b hb rfl)
      have k8 := (hs4.keep (j * 9 + 8) (by omega)).trans HR6.out.2.2
      have hin3 : ∀ b ∈ p3, b < w4.heap.size := fun b hb => Nat.lt_of_lt_of_le (hpin b (by simp [hb])).2 hs4.size
      clear hpin hn1 hd2 hd3 hO1 hO2 hO3 hOB hn2 hin2 hs3 hc4 k7
      go_wp2_with fail
      refine (IH _ _ _ _ p3 _ _ hOC hn3 hin3 (by omega) (by have := HKT.out.1; omega)).mono ?_
      rintro e w5 ⟨k5, rfl, hk5a, hk5b, hc5⟩
      obtain ⟨hpin, _, _, _, _, _⟩ := HP.out
      have hs5 := hs4.chg hc5 (fun e => (hpin g (by simp [e])).1 rfl)
      have hsub : ∀ b ∈ [] ++ p1 ++ p2 ++ p3, b ∈ g :: bss.flatten := fun b hb => List.mem_cons_of_mem _ (mem_part hjb (by rw [hp]; simpa using hb))
      have hchn : Chg (g :: bss.flatten) w w5 := hch.trans ⟨hs5.os, hs5.tape, hs5.output, hs5.size, fun b hb hn => hs5.other b hb (fun e => hn (by simp [e])) (fun e => hn (hsub b e))⟩
      have hRn : RestM w w5 D d g len (j + 1) ts bss := by
        obtain ⟨c5, r1, r2, r3⟩ := hs5.row
        refine ⟨c5, r1, by omega, fun i hi hi' hji => ?_⟩
        obtain ⟨b1, m1, d1, b2, m2, d2, b3, m3, d3, h9i, hfi⟩ := hEl i hi hi' (by omega)
        refine ⟨b1, m1, d1, b2, m2, d2, b3, m3, d3, h9i.of_cells (fun c hc => ?_), hfi.keep fun b hb => ?_⟩
        · rw [row_cell r1, row_cell hr]; exact r3 _ (by omega)
        · have hbf := mem_part hi' hb
          have hndd := HND.out
          rw [List.nodup_cons] at hndd
          refine hs5.other b (by have := HI.out b hbf; omega) (fun e => hndd.1 (e ▸ hbf)) (fun e => ?_)
          exact flatten_apart hndd.2 hi' hjb (by omega) hb (by rw [hp]; simpa using e)
      have hkn : k ≤ k5 ∧ k5 ≤ k + 6 * (((j + 1 : Nat) : Int) + subMS (ts.take (j + 1))) := by
        have := HKT.out.2
        constructor <;> omega
      clear hpin hs5 hs4 hOC hn3 hin3 k8 hEl hr hc5
      go_wp2_with fail
      go_roundw
      case rel => exact ⟨j + 1, k5, by omega, by go_num, rfl, hkn.1, hkn.2, hchn, hRn⟩
      case measure => simp [intOf]; omega
    · have HJ : Hid (j = ts.length) := by show _ = _; have := HL.out; omega
      go_wp2_with fail
      go_ret
      refine ⟨_, rfl, hkl, ?_, hch⟩
      have q := HC.out
      have e : ts.take j = ts := List.take_of_length_le (by have := HJ.out; omega)
      rw [e] at hku
      have := HJ.out
      omega

theorem mw_any (D : Nat) : ∀ d, SaidMW D d := by
  intro d
  induction d with
  | zero => exact mw_zero D
  | succ d ih => exact mw_succ D d ih

set_option maxRecDepth 100000 in
set_option maxHeartbeats 1000000 in
theorem markTerm_any (D d : Nat) (t : Tm) (a1 : Option Addr) (l1 c1 : Nat) (a2 : Option Addr) (l2 c2 : Nat) (a3 : Option Addr) (l3 c3 : Nat) (bs : List Nat) (w : World) (hf : FldO w D (OwM w D d) t a1 l1 a2 l2 a3 l3 bs) (hnd : bs.Nodup) (hin : ∀ b ∈ bs, b < w.heap.size) (hc : cntM t ≤ 1048576) :
    Calls Try.prog 14 #[.agg #[.int .i64 t.K, .int .i64 t.N, .string t.S, .string t.Z, .int .i64 t.T.K, .int .i64 t.T.N, .slice a1 l1 c1, .slice a2 l2 c2, .slice a3 l3 c3], .int .i64 1] w fun e w' => ∃ k', e = .returned (.int .i64 k') ∧ 0 ≤ k' ∧ Chg bs w w' := by
  obtain ⟨p1, p2, p3, rfl, _, _, hO1, hO2, hO3⟩ := hf
  have hn12 := (List.nodup_append.1 hnd).1
  have hn3 := (List.nodup_append.1 hnd).2.1
  have hd3 := (List.nodup_append.1 hnd).2.2
  have hn1 := (List.nodup_append.1 hn12).1
  have hn2 := (List.nodup_append.1 hn12).2.1
  have hd2 := (List.nodup_append.1 hn12).2.2
  have hce := cntM_eq t
  unfold ownM at hce
  obtain ⟨X, hX⟩ : ∃ X, X = w.alloc (.cells #[.int .i64 t.K, .int .i64 t.N, .string t.S, .string t.Z, .int .i64 t.T.K, .int .i64 t.T.N, .slice a1 l1 c1, .slice a2 l2 c2, .slice a3 l3 c3] 36) := ⟨_, rfl⟩
  have hXb : Below w.heap.size w X := by rw [hX]; exact (Below.refl _ _).alloc (Nat.le_refl _) _
  have hXs : X.heap.size = w.heap.size + 1 := by rw [hX]; simp
  have hX1 : X.heap[w.heap.size]? = some (.cells #[.int .i64 t.K, .int .i64 t.N, .string t.S, .string t.Z, .int .i64 t.T.K, .int .i64 t.T.N, .slice a1 l1 c1, .slice a2 l2 c2, .slice a3 l3 c3] 36 (0, 0)) := by rw [hX]; exact heap_new rfl
  have HX : Hid (X = _) := hX
  have hnw : w.heap.size ∉ p1 ++ p2 ++ p3 := fun e => by have := hin _ e; omega
  clear hX
  go_enter Try.func14, Try.ntmps14
  go_wp2_with fail
  rw [← HX.out]
  have hin1 : ∀ b ∈ p1, b < X.heap.size := fun b hb => by have := hin b (by simp [hb]); omega
  refine (mk_any D _ _ _ _ _ _ p1 _ _ (hO1.keep fun b hb => hXb.block b (hin b (by simp [hb]))) hn1 hin1 (by omega) (by omega)).mono ?_
  rintro e w1 ⟨rfl, hc1, _⟩
  have hz1 := hc1.size
  have y1 := (hc1.block w.heap.size (by omega) (fun e => hnw (by simp [e]))).trans hX1
  obtain ⟨f0, f1, f2, f3, f4, f5, f6, f7, f8⟩ := Nine.box y1
  have hO2' : Ow w1 D a2 l2 t.Ts p2 := hO2.keep fun b hb => (hc1.block b (by have := hin b (by simp [hb]); omega) (fun e => hd2 b e b hb rfl)).trans (hXb.block b (hin b (by simp [hb])))
  have hin2 : ∀ b ∈ p2, b < w1.heap.size := fun b hb => by have := hin b (by simp [hb]); omega
  go_wp2_with fail
  refine (mkS_any D _ _ _ _ p2 _ _ hO2' hn2 hin2 (by omega) (by omega)).mono ?_
  rintro e w2 ⟨rfl, hc2, _⟩
  have hz2 := hc2.size
  have y2 := (hc2.block w.heap.size (by omega) (fun e => hnw (by simp [e]))).trans y1
  clear f0 f1 f2 f3 f4 f5 f6 f7 f8
  obtain ⟨f0, f1, f2, f3, f4, f5, f6, f7, f8⟩ := Nine.box y2
  have hO3' : OwM w2 D d a3 l3 t.A p3 := hO3.keep fun b hb => (hc2.block b (by have := hin b (by simp [hb]); omega) (fun e => hd3 b (by simp [e]) b hb rfl)).trans ((hc1.block b (by have := hin b (by simp [hb]); omega) (fun e => hd3 b (by simp [e]) b hb rfl)).trans (hXb.block b (hin b (by simp [hb]))))
  have hin3 : ∀ b ∈ p3, b < w2.heap.size := fun b hb => by have := hin b (by simp [hb]); omega
  go_wp2_with fail
  refine (mw_any D d _ _ _ _ p3 _ _ hO3' hn3 hin3 (by omega) (by omega)).mono ?_
  rintro e w3 ⟨k3, rfl, hk3, _, hc3⟩
  go_wp2_with fail
  go_ret
  exact ⟨_, rfl, by omega, (((Below.chg hXb).trans (hc1.mono fun x hx => by simp [hx])).trans (hc2.mono fun x hx => by simp [hx])).trans (hc3.mono fun x hx => by simp [hx])⟩

end Go.Proofs.Ytgckmnchlkgakaa
