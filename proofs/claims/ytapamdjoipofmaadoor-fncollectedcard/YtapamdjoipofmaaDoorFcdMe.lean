/-
  The program's closure within 'objectsFrom' that meets words.
-/
import Derived.Test.YtapamdjoipofmaaDoorFcdZ11
import Derived.Test.YtapamdjoipofmaaDoorFcdZ7
import Derived.Test.YtapamdjoipofmaaDoorFcdZ12
namespace Go.Proofs.YtapamdjoipofmaaDoor
open Go.RowKit
set_option linter.unusedVariables false
set_option linter.unusedSimpArgs false

def metB (len : Nat) (ps : List Nat) : List Bool := (List.range len).map fun i => decide (i ∈ ps)
theorem metB_len (len : Nat) (ps : List Nat) : (metB len ps).length = len := by simp [metB]
theorem metB_get (len : Nat) (ps : List Nat) (i : Nat) (hi : i < len) : (metB len ps).getD i false = decide (i ∈ ps) := by
  rw [List.getD_eq_getElem?_getD, List.getElem?_eq_getElem (by rw [metB_len]; exact hi)]
  simp [metB]
theorem metB_set (len : Nat) (ps : List Nat) (a : Nat) : metB len (ps ++ [a]) = (metB len ps).set a true := by
  apply List.ext_getElem
  · simp [metB]
  · intro i h1 h2
    rw [List.getElem_set]
    simp only [metB, List.getElem_map, List.getElem_range, List.mem_append, List.mem_singleton]
    by_cases e : a = i
    · subst e; simp
    · rw [if_neg e]
      have : ¬ i = a := fun h => e h.symm
      simp [this]
def intsN (ps : List Nat) : List Int := ps.map fun j : Nat => (j : Int)
theorem intsN_len (ps : List Nat) : (intsN ps).length = ps.length := by simp [intsN]

/-- What the iterator keeps: which places are met, and in which order. -/
structure Mst (m : Nat) (W : World) (len : Nat) (ps : List Nat) (v : Value) : Prop where
  b4 : Blk W (m + 1) 39 #[.slice (some ⟨m, 0, none⟩) len len]
  met : BRow W m (metB len ps)
  b5 : Blk W (m + 1 + 1) 47 #[v]
  row : Nums (m + 3) W v (intsN ps)

/-- Nothing has changed but what the iterator keeps. -/
structure Chg (m : Nat) (v v' : Value) (W W' : World) : Prop where
  os : W'.os = W.os
  tape : W'.tape = W.tape
  output : W'.output = W.output
  size : W.heap.size ≤ W'.heap.size
  block : ∀ k, k < W.heap.size → k ≠ m → k ≠ m + 1 + 1 → v.ownBlock ≠ some k → W'.heap[k]? = W.heap[k]?
  new : ∀ k, v'.ownBlock = some k → v.ownBlock = some k ∨ W.heap.size ≤ k
theorem Chg.refl (m : Nat) (v : Value) (W : World) : Chg m v v W W := ⟨rfl, rfl, rfl, Nat.le_refl _, fun _ _ _ _ _ => rfl, fun _ h => Or.inl h⟩
theorem Chg.trans {m : Nat} {v v' v'' : Value} {A B C : World} (h : Chg m v v' A B) (k : Chg m v' v'' B C) : Chg m v v'' A C := by
  refine ⟨k.os.trans h.os, k.tape.trans h.tape, k.output.trans h.output, Nat.le_trans h.size k.size, fun i hi h1 h2 h3 => ?_, fun i hi => ?_⟩
  · refine (k.block i (Nat.lt_of_lt_of_le hi h.size) h1 h2 (fun e => ?_)).trans (h.block i hi h1 h2 h3)
    rcases h.new i e with e | e
    · exact h3 e
    · omega
  · rcases k.new i hi with e | e
    · exact h.new i e
    · exact Or.inr (Nat.le_trans h.size e)
theorem Chg.of_below {m : Nat} {v : Value} {W W' : World} (h : Below W.heap.size W W') : Chg m v v W W' := ⟨h.os, h.tape, h.output, h.size, fun k hk _ _ _ => h.block k hk, fun _ h => Or.inl h⟩
theorem Chg.low {m : Nat} {v v' : Value} {W W' : World} (h : Chg m v v' W W') (hm : m ≤ W.heap.size) (hv : ∀ k, v.ownBlock = some k → m ≤ k) : Below m W W' :=
  ⟨h.os, h.tape, h.output, h.size, fun k hk => h.block k (by omega) (by omega) (by omega) (fun e => by have := hv k e; omega)⟩
theorem Mst.own {m : Nat} {W : World} {len : Nat} {ps : List Nat} {v : Value} (h : Mst m W len ps v) {k : Nat} (hk : v.ownBlock = some k) : m + 3 ≤ k ∧ k < W.heap.size := nums_own h.row hk
theorem Mst.bel {m : Nat} {W W' : World} {len : Nat} {ps : List Nat} {v : Value} (h : Mst m W len ps v) (hb : Below W.heap.size W W') : Mst m W' len ps v :=
  ⟨(hb.block _ h.b4.lt).trans h.b4, (hb.block _ h.met.lt).trans h.met, (hb.block _ h.b5.lt).trans h.b5, nums_bel h.row hb⟩

set_option maxRecDepth 100000 in
set_option maxHeartbeats 2000000 in
theorem meet_any (L B m : Nat) (ao : Option Addr) (n c : Nat) (ws : List Wrd) (l : List Wrd) (ps : List Nat) (v : Value) (w : World) (hB : B ≤ m) (hs : Ws L B w ao n ws) (hn : n ≤ 1048576) (hl : l.length ≤ 1048576) (hw : ∀ x ∈ ws, RW l x) (hP : PL l ps) (hM : Mst m w l.length ps v) :
    Calls Tryd.prog 34 #[.slice ao n c, .pointer (some ⟨m + 1, 0, none⟩), .pointer (some ⟨m + 1 + 1, 0, none⟩)] w fun e w' => (∃ u, e = .returned u) ∧ ∃ v', Mst m w' l.length (meetL ps ws) v' ∧ Chg m v v' w w' := by
  have HN : Hid (n = ws.length) := hs.1
  have hmw := hM.b5.lt
  obtain ⟨len, hlen⟩ : ∃ len, l.length = len := ⟨_, rfl⟩
  have HL : Hid (l.length = len) := hlen
  rw [hlen] at hM hl ⊢
  clear hlen
  go_enter Tryd.func34, Tryd.ntmps34
  go_wp2_with fail
  go_loopw [8] (fun i wr => ∃ (k : Nat) (u : Value), k ≤ n ∧ i = .int .i64 k ∧ Hid (PL l (meetL ps (ws.take k))) ∧ Mst m wr len (meetL ps (ws.take k)) u ∧ Chg m v u w wr) (fun i _ => n - (intOf i).toNat)
  case atStart => exact ⟨0, v, by omega, rfl, hP, hM, Chg.refl _ _ _⟩
  case round =>
    obtain ⟨k, u, hk, rfl, HP, hMr, hC⟩ := hrel
    have hszr := hC.size
    have hlow : Below m w wr := hC.low (by omega) (fun k hk => by have := (hM.own hk).1; omega)
    by_cases hlt : k < n
    · have hlt' : k < ws.length := by have := HN.out; omega
      obtain ⟨b, o, rfl, _, hbB, htw⟩ := hs.2.2 k hlt'
      obtain ⟨e0, e1⟩ := htw.block (hlow.block b (by omega))
      have hbw : b < wr.heap.size := by omega
      have HTK : Hid (meetL ps (ws.take (k + 1)) = meet1 (meetL ps (ws.take k)) ws[k]) := by show _ = _; rw [List.take_succ_eq_append_getElem hlt', meetL_snoc]
      have hx := hw ws[k] (List.getElem_mem _)
      have HPN : Hid (PL l (meet1 (meetL ps (ws.take k)) ws[k])) := HP.out.meet1 hx
      rw [← HTK.out] at HPN
      generalize hqs : meetL ps (ws.take k) = qs at *
      generalize ws[k] = x at *
      clear htw hqs
      have hal : Below wr.heap.size wr (wr.alloc (.cells #[.int .i64 x.K, .int .i64 x.N] 34)) := (Below.refl _ _).alloc (Nat.le_refl _) _
      by_cases hk4 : x.K = 4
      · obtain ⟨a, c', hxa, _, hob⟩ := hx hk4
        have ha : a < len := by have := (ob_some hob).1; have := HL.out; omega
        obtain ⟨xK, xN⟩ := x
        simp only at hk4 hxa
        subst hk4 hxa
        have hg := hMr.met.get a (by rw [metB_len]; exact ha)
        rw [metB_get _ _ _ ha] at hg
        have hgf := hMr.met.free a
        have c4 := row_cell (show wr.heap[m + 1]? = _ from hMr.b4) 0
        have c5 := row_cell (show wr.heap[m + 1 + 1]? = _ from hMr.b5) 0
        have hm0 := hMr.met.lt
        have hm1 := hMr.b4.lt
        have hm2 := hMr.b5.lt
        by_cases hin : a ∈ qs
        · have HE : Hid (meet1 qs ⟨4, (a : Int)⟩ = qs) := by show _ = _; unfold meet1; rw [if_neg (by simp [hin])]
          rw [HE.out] at HTK
          have hdt : decide (a ∈ qs) = true := by simpa using hin
          rw [hdt] at hg
          go_wp2_with fail
          go_roundw
          case rel => exact ⟨k + 1, u, by omega, by go_num, HPN, by rw [HTK.out]; exact hMr.bel hal, hC.trans (Chg.of_below hal)⟩
          case measure => simp [intOf]; omega
        · have HE : Hid (meet1 qs ⟨4, (a : Int)⟩ = qs ++ [a]) := by show _ = _; unfold meet1; rw [if_pos (by simp [hin])]; simp
          have hdt : decide (a ∈ qs) = false := by simpa using hin
          rw [hdt] at hg
          obtain ⟨ua, uc, hu⟩ := nums_form hMr.row
          rw [intsN_len] at hu
          obtain ⟨nq, hnq⟩ : ∃ nq, qs.length = nq := ⟨_, rfl⟩
          have HQ : Hid (qs.length = nq) := hnq
          rw [hnq] at hu
          subst hu
          have hnql : nq ≤ 1048576 := by have := HP.out.len; have := HL.out; have := HQ.out; omega
          obtain ⟨Y, hY⟩ : ∃ Y, Y = ((wr.setCell ⟨m, a, none⟩ (.bool true)).alloc (.cells #[.int .i64 4, .int .i64 (a : Int)] 34)).alloc (.cells #[.int .i64 (a : Int)] 3) := ⟨_, rfl⟩
          have hYs : Y.heap.size = wr.heap.size + 2 := by rw [hY]; simp
          have hYo : ∀ q, q < wr.heap.size → q ≠ m → Y.heap[q]? = wr.heap[q]? := fun q hq hne => by rw [hY, Below.heap_alloc _ _ _ (by simp; omega), Below.heap_alloc _ _ _ (by simpa using hq)]; exact row_other _ _ _ hne
          have hYn : Y.heap[wr.heap.size + 1]? = some (.cells #[.int .i64 (a : Int)] 3 (0, 0)) := by rw [hY]; exact heap_new (by simp)
          have hYm : BRow Y m (metB len (qs ++ [a])) := by
            rw [metB_set]
            have h1 := hMr.met.set a true
            unfold BRow
            rw [hY, Below.heap_alloc _ _ _ (by simp; omega), Below.heap_alloc _ _ _ (by simpa using hm0)]
            exact h1
          have hrowY : Nums (m + 3) Y (.slice ua nq uc) (intsN qs) := nums_keep hMr.row (fun g hg => hYo g (hMr.own hg).2 (by have := (hMr.own hg).1; omega))
          obtain ⟨g, cap2, w2, hrun, hN2, hg2, hat, hglt⟩ := nums_grow hrowY (by omega) [(a : Int)] (by simp) (by rw [intsN_len, HQ.out]; simp; omega) (wr.heap.size + 1) 0 1 (fun j y hj => by
            have h1 := row_cell hYn j
            cases j with
            | zero => simpa [ik] using (by simpa [ik] using hj ▸ h1 : _)
            | succ j => simp at hj)
          simp only [intsN_len, HQ.out, List.length_cons, List.length_nil, Nat.zero_add] at hrun hN2
          have HRU : Hid (_ = _) := hrun
          have hown : ∀ q, (Value.slice ua nq uc).ownBlock = some q → m + 3 ≤ q ∧ q < wr.heap.size := fun q hq => hMr.own hq
          have hw2o : ∀ q, q < wr.heap.size → q ≠ m → (Value.slice ua nq uc).ownBlock ≠ some q → w2.heap[q]? = wr.heap[q]? := fun q hq hne hv => (hg2.block q (by omega) (fun e => hv e.symm)).trans (hYo q hq hne)
          have k5 : w2.heap[m + 1 + 1]? = some (.cells #[.slice ua nq uc] 47 (0, 0)) := (hw2o _ hm2 (by omega) (fun e => by have := (hown _ e).1; omega)).trans hMr.b5
          have k5c := row_cell k5 0
          have k5f := row_free k5 0
          have hgown : ∀ q, (Value.slice (some ⟨g, 0, none⟩) (nq + 1) cap2).ownBlock = some q → q = g := fun q hq => by simpa [Value.ownBlock] using hq.symm
          have hgm : m + 3 ≤ g := by
            rcases hat with h | h
            · exact (hown _ h).1
            · omega
          have FIN : Hid (∀ Z, Z = w2.setCell ⟨m + 1 + 1, 0, none⟩ (.slice (some ⟨g, 0, none⟩) (nq + 1) cap2) → Mst m Z len (qs ++ [a]) (.slice (some ⟨g, 0, none⟩) (nq + 1) cap2) ∧ Chg m (.slice ua nq uc) (.slice (some ⟨g, 0, none⟩) (nq + 1) cap2) wr Z) := by
            rintro Z rfl
            refine ⟨⟨?_, ?_, ?_, ?_⟩, ⟨hg2.os.trans (by rw [hY]; rfl), hg2.tape.trans (by rw [hY]; rfl), hg2.output.trans (by rw [hY]; rfl), ?_, fun q hq h1 h2 h3 => ?_, fun q hq => ?_⟩⟩
            · exact (row_other _ _ _ (by omega)).trans ((hw2o _ hm1 (by omega) (fun e => by have := (hown _ e).1; omega)).trans hMr.b4)
            · exact (row_other _ _ _ (by omega)).trans ((hg2.block m (by omega) (fun e => by have := (hown _ e.symm).1; omega)).trans hYm)
            · have := row_set k5 0 (.slice (some ⟨g, 0, none⟩) (nq + 1) cap2)
              unfold Blk
              rw [this]
              simp
            · have e : intsN (qs ++ [a]) = intsN qs ++ [(a : Int)] := by simp [intsN]
              rw [e]
              exact nums_keep hN2 (fun q hq => row_other _ _ _ (by have := hgown q hq; omega))
            · have := hg2.size
              simp
              omega
            · exact (row_other _ _ _ h2).trans (hw2o q hq h1 h3)
            · have e := hgown q hq
              subst e
              rcases hat with h | h
              · exact Or.inl h
              · exact Or.inr (by omega)
          have HY : Hid (Y = _) := hY
          have hzr0 : m < wr.heap.size := hm0
          clear hrun hN2 hg2 hat hglt hrowY hYm hYn hYo hw2o k5 hown hgown hY hYs
          rw [HY.out] at HRU
          clear HY
          go_wp2_with (first | (at_builtin; refine list_run HRU.out (by rfl) _ _ (by rfl) (by rfl) (by rfl) (by rfl) ?_; clear HRU))
          go_roundw
          case rel =>
            obtain ⟨q1, q2⟩ := FIN.out _ rfl
            exact ⟨k + 1, _, by omega, by go_num, HPN, by rw [HTK.out, HE.out]; exact q1, hC.trans q2⟩
          case measure => simp [intOf]; omega
      · have HE : Hid (meet1 qs x = qs) := by show _ = _; unfold meet1; rw [if_neg (by simp [hk4])]
        rw [HE.out] at HTK
        go_wp2_with fail
        go_roundw
        case rel => exact ⟨k + 1, u, by omega, by go_num, HPN, by rw [HTK.out]; exact hMr.bel hal, hC.trans (Chg.of_below hal)⟩
        case measure => simp [intOf]; omega
    · have HE : Hid (ws.take k = ws) := by show _ = _; exact List.take_of_length_le (by have := HN.out; omega)
      rw [HE.out] at hMr
      go_wp2_with fail
      go_end0
      exact ⟨⟨_, rfl⟩, u, hMr, hC⟩

end Go.Proofs.YtapamdjoipofmaaDoor
