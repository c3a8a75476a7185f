/-
  The model's 'l6Own', 'l6Binders', 'Binders'. (Written by mkbn2.py.)
-/
import Derived.Test.YtgckmnchlkgakaaAluBn20
import Derived.Test.YtgckmnchlkgakaaAluBw
import Derived.Test.YtgckmnchlkgakaaAluLf20
import Derived.Test.YtgckmnchlkgakaaAluLkM
namespace Go.Proofs.Ytgckmnchlkgakaa
open Go.RowKit
set_option linter.unusedVariables false
set_option linter.unusedSimpArgs false

def SaidLb (l : Nat) : Prop := ∀ (D d L B base : Nat) (t : Tm) (a1 : Option Addr) (l1 c1 : Nat) (a2 : Option Addr) (l2 c2 : Nat) (a3 : Option Addr) (l3 c3 : Nat) (vo : Value) (P : List (List UInt8)) (m : Nat) (w : World), B ≤ base → base ≤ w.heap.size → Fm L B w D d t a1 l1 a2 l2 a3 l3 → nodesM l t = some m → Toks base w vo P → P.length + 2 * m ≤ 1000 →
    Calls Try.prog 30 #[.agg #[.int .i64 t.K, .int .i64 t.N, .string t.S, .string t.Z, .int .i64 t.T.K, .int .i64 t.T.N, .slice a1 l1 c1, .slice a2 l2 c2, .slice a3 l3 c3], vo] w fun e w' => ∃ vo', e = .returned vo' ∧ Ko vo w vo' w' ∧ Toks base w' vo' (P ++ bndW t)

/-- The binders of the parts ahead of the j-th. -/
def preB (t : Tm) (j : Nat) : List (List UInt8) := ((preW t j).map ownB).flatten
theorem preB_zero (t : Tm) : preB t 0 = [] := rfl
theorem preB_succ (t : Tm) (j : Nat) (hj : j < t.A.length) : preB t (j + 1) = preB t j ++ bndW t.A[j] := by
  unfold preB bndW; rw [preW_succ t j hj, List.map_append, List.flatten_append]
theorem preB_all (t : Tm) (j : Nat) (hj : t.A.length ≤ j) : bndW t = ownB t ++ preB t j := by
  unfold preB bndW; rw [preW_all t j hj, List.map_cons, List.flatten_cons]
theorem preB_len (t : Tm) (j : Nat) : (preB t j).length ≤ 2 * (preW t j).length := binds_len _

set_option maxRecDepth 100000 in
set_option maxHeartbeats 2000000 in
theorem lb_succ (l : Nat) (IH : SaidLb l) : SaidLb (l + 1) := by
  intro D d L B base t a1 l1 c1 a2 l2 c2 a3 l3 c3 vo P m w hB hb hf hm hT hlen
  obtain ⟨hn, hparts⟩ := nodesM_inv hm
  obtain ⟨hl3, hl3m⟩ := hf.m.len
  have HL : Hid (l3 = t.A.length) := hl3
  have HN : Hid (∀ j (hj : j < t.A.length), ∃ a, nodesM l t.A[j] = some a ∧ (preW t j).length + 1 + a ≤ m) := fun j hj => by
    obtain ⟨a, ha⟩ := hparts j hj
    exact ⟨a, ha, preW_len hm j hj ha⟩
  have hm0 : 0 < m := by have := allW_len _ t m hm; rw [allW_eq, List.length_cons] at this; omega
  obtain ⟨N, hNe⟩ : ∃ N, ownB t = N := ⟨_, rfl⟩
  have hN2 : N.length ≤ 2 := by rw [← hNe]; exact ownB_len t
  have HNE : Hid (ownB t = N) := hNe
  obtain ⟨ao, cap, rfl⟩ := toks_form hT
  obtain ⟨n, hn0⟩ : ∃ n, P.length = n := ⟨_, rfl⟩
  have HPn : Hid (P.length = n) := hn0
  obtain ⟨W, hW⟩ : ∃ W, W = w.alloc (.cells #[.int .i64 t.K, .int .i64 t.N, .string t.S, .string t.Z, .int .i64 t.T.K, .int .i64 t.T.N, .slice a1 l1 c1, .slice a2 l2 c2, .slice a3 l3 c3] 36) := ⟨_, rfl⟩
  have hWs : W.heap.size = w.heap.size + 1 := by rw [hW]; simp
  have hWb : Below w.heap.size w W := by rw [hW]; exact (Below.refl _ _).alloc (Nat.le_refl _) _
  have hW0 : W.heap[w.heap.size]? = some (.cells #[.int .i64 t.K, .int .i64 t.N, .string t.S, .string t.Z, .int .i64 t.T.K, .int .i64 t.T.N, .slice a1 l1 c1, .slice a2 l2 c2, .slice a3 l3 c3] 36 (0, 0)) := by rw [hW]; exact heap_new rfl
  have HW : Hid (W = _) := hW
  have HSZ : Hid (W.heap.size = w.heap.size + 1) := hWs
  have hno : Value.ownBlock (.slice ao n cap) ≠ some w.heap.size := fun e => by have := (toks_own hT (by rw [hn0]; exact e)).2; omega
  have APR : Hid (∀ (w1 : World) (g : Nat), Below W.heap.size W w1 → w1.heap[g]? = some (.cells (N.map tk).toArray 9 (0, 0)) →
      ∃ a' n' c' w2, (Builtin.append_ #[29, 29] 29 #[.slice ao n cap, .slice (some ⟨g, 0, none⟩) N.length N.length]).run Try.prog w1 = .ok (.slice a' n' c') w2 ∧ Ko (.slice ao n cap) W (.slice a' n' c') w2 ∧ Toks base w2 (.slice a' n' c') (P ++ N)) := by
    intro w1 g hb1 hg
    have hT1 : Toks base w1 (.slice ao P.length cap) P := toks_bel hT (hWb.trans (hb1.mono (by omega)))
    have hz := hb1.size
    obtain ⟨v', w2, hrun, hT2, hgr, how⟩ := toks_join hT1 (by omega) N (by omega) (some ⟨g, 0, none⟩) N.length (fun h => ⟨g, rfl, fun j u hu => by
      rw [Nat.zero_add, row_cell hg, List.getElem?_toArray]
      exact hu⟩)
    rw [hn0] at hrun
    obtain ⟨a', c', rfl⟩ := toks_form hT2
    refine ⟨a', _, c', w2, hrun, ⟨hgr.os.trans hb1.os, hgr.tape.trans hb1.tape, hgr.output.trans hb1.output, Nat.le_trans hb1.size hgr.size, fun k hk hne => (hgr.block k (by omega) (fun e => hne (by rw [← hn0]; exact e.symm))).trans (hb1.block k hk), fun k hk => ?_⟩, hT2⟩
    rcases how k hk with e | e
    · exact Or.inl (by rw [← hn0]; exact e)
    · exact Or.inr (by omega)
  have hkW : Ko (.slice ao n cap) w (.slice ao n cap) W := Ko.of_below hWb
  have HKW : Hid (Ko _ _ _ _) := hkW
  have HTO : Hid (∀ k, Value.ownBlock (.slice ao n cap) = some k → base ≤ k) := fun k hk => (toks_own hT (by rw [hn0]; exact hk)).1
  have hltW : w.heap.size < W.heap.size := by omega
  rw [hn0]
  clear hW hparts hl3 hm hWs hT hNe hn0 hkW
  obtain ⟨f0, f1, f2, f3, f4, f5, f6, f7, f8⟩ := Nine.box hW0
  go_enter Try.func30, Try.ntmps30
  go_wp2_with fail
  rw [← HW.out]
  refine (l6Own_any t _ _ _ _ _ _ _ _ _ N HNE.out _).mono ?_
  rintro e w1 ⟨g, rfl, hb1, hgW, hg⟩
  obtain ⟨a', n', c', w2, hrun, hk2, hT2⟩ := APR.out w1 g hb1 hg
  have x2 := (hk2.block w.heap.size hltW hno).trans hW0
  have hno2 : Value.ownBlock (.slice a' n' c') ≠ some w.heap.size := fun e => by
    rcases hk2.own _ e with e | e
    · exact hno e
    · omega
  clear f0 f1 f2 f3 f4 f5 f6 f7 f8 hg
  go_wp2_with (at_builtin; refine list_run hrun (by rfl) _ _ (by rfl) (by rfl) (by rfl) (by rfl) ?_)
  clear hrun
  go_loopw [1, 5] (fun v i wr => ∃ (j : Nat) (aj : Option Addr) (nj cj : Nat), j ≤ l3 ∧ i = .int .i64 j ∧ v = .slice aj nj cj ∧ Toks base wr (.slice aj nj cj) (P ++ N ++ preB t j) ∧ Ko (.slice ao n cap) W (.slice aj nj cj) wr) (fun _ i _ => l3 - (intOf i).toNat)
  case atStart => exact ⟨0, a', n', c', by omega, rfl, rfl, by rw [preB_zero, List.append_nil]; exact hT2, hk2⟩
  case round =>
    obtain ⟨j, aj, nj, cj, hj, rfl, rfl, hTj, hkj⟩ := hrel
    have hzj := hkj.size
    have xj := (hkj.block w.heap.size hltW hno).trans hW0
    obtain ⟨p0, p1, p2, p3, p4, p5, p6, p7, p8⟩ := Nine.box xj
    by_cases hlt : j < l3
    · have hlt' : j < t.A.length := by have := HL.out; omega
      obtain ⟨a, ha, hal⟩ := HN.out j hlt'
      have hbw : Below base w wr := (hWb.mono hb).trans ⟨hkj.os, hkj.tape, hkj.output, hkj.size, fun k hk => hkj.block k (by omega) (fun e => by have := HTO.out k e; omega)⟩
      obtain ⟨b, o, rfl, _, hbB, b1, m1, d1, b2, m2, d2, b3, m3, d3, h9, hf1⟩ := hf.m.get j hlt'
      have h9r := h9.world (hbw.block b (by omega))
      obtain ⟨e0, e1, e2, e3, e4, e5, e6, e7, e8⟩ := h9r
      have hf2 : Fm L B wr D (d - 1) t.A[j] b1 m1 b2 m2 b3 m3 := Fm.keep (fun k _ hk => hbw.block k (by omega)) (Nat.le_refl _) (Nat.le_refl _) hf1
      have HNX : Hid (P ++ N ++ preB t (j + 1) = (P ++ N ++ preB t j) ++ bndW t.A[j]) := by show _ = _; rw [preB_succ t j hlt', List.append_assoc, List.append_assoc, List.append_assoc]
      have hlen2 : (P ++ N ++ preB t j).length + 2 * a ≤ 1000 := by have := preB_len t j; have := HPn.out; rw [List.length_append, List.length_append]; omega
      have HK2 : Hid (Ko _ _ _ _) := hkj
      clear h9 hkj HN hal
      go_wp2_with fail
      refine (IH D (d - 1) L B base t.A[j] _ _ _ _ _ _ _ _ _ _ _ a wr hB (by omega) hf2 ha hTj hlen2).mono ?_
      rintro e w3 ⟨vo', rfl, hk3, hT3⟩
      rw [← HNX.out] at hT3
      obtain ⟨a3', c3', rfl⟩ := toks_form hT3
      obtain ⟨n3, hn3⟩ : ∃ x, (P ++ N ++ preB t (j + 1)).length = x := ⟨_, rfl⟩
      rw [hn3] at hT3 hk3 ⊢
      clear hn3
      have hkn := HK2.out.trans hk3
      clear hk3
      go_wp2_with fail
      go_roundw
      case rel => exact ⟨j + 1, a3', n3, c3', by omega, by go_num, rfl, hT3, hkn⟩
      case measure => simp [intOf]; omega
    · have HK : Hid (P ++ bndW t = P ++ N ++ preB t j) := by show _ = _; rw [preB_all t j (by have := HL.out; omega), HNE.out, List.append_assoc]
      go_wp2_with fail
      go_ret
      exact ⟨_, rfl, HKW.out.trans hkj, by rw [HK.out]; exact hTj⟩

theorem lb_any (l : Nat) : SaidLb l := by
  induction l with
  | zero => intro D d L B base t a1 l1 c1 a2 l2 c2 a3 l3 c3 vo P m w hB hb hf hm; simp [nodesM] at hm
  | succ l ih => exact lb_succ l ih

theorem toks_emp {w : World} {b base : Nat} (h : w.heap[b]? = some (.cells #[] 9 (0, 0))) (hb : base ≤ b) : Toks base w (.slice (some ⟨b, 0, none⟩) 0 0) [] :=
  ⟨by simp, Or.inr ⟨b, 0, #[], by simp, hb, h, by simp, by simp, by simp, by simp⟩⟩

set_option maxRecDepth 100000 in
set_option maxHeartbeats 1000000 in
theorem sBinders_any (D d L B : Nat) (t : Tm) (a1 : Option Addr) (l1 c1 : Nat) (a2 : Option Addr) (l2 c2 : Nat) (a3 : Option Addr) (l3 c3 : Nat) (w : World) (hB : B ≤ w.heap.size) (hf : Fm L B w D d t a1 l1 a2 l2 a3 l3) :
    Calls Try.prog 9 #[.agg #[.int .i64 t.K, .int .i64 t.N, .string t.S, .string t.Z, .int .i64 t.T.K, .int .i64 t.T.N, .slice a1 l1 c1, .slice a2 l2 c2, .slice a3 l3 c3]] w fun e w' => ∃ v, e = .returned v ∧ Below w.heap.size w w' ∧ Toks w.heap.size w' v (bndT t) := by
  obtain ⟨W, hW⟩ : ∃ W, W = w.alloc (.cells #[.int .i64 t.K, .int .i64 t.N, .string t.S, .string t.Z, .int .i64 t.T.K, .int .i64 t.T.N, .slice a1 l1 c1, .slice a2 l2 c2, .slice a3 l3 c3] 36) := ⟨_, rfl⟩
  have hWs : W.heap.size = w.heap.size + 1 := by rw [hW]; simp
  have hWb : Below w.heap.size w W := by rw [hW]; exact (Below.refl _ _).alloc (Nat.le_refl _) _
  have hW0 : W.heap[w.heap.size]? = some (.cells #[.int .i64 t.K, .int .i64 t.N, .string t.S, .string t.Z, .int .i64 t.T.K, .int .i64 t.T.N, .slice a1 l1 c1, .slice a2 l2 c2, .slice a3 l3 c3] 36 (0, 0)) := by rw [hW]; exact heap_new rfl
  have HW : Hid (W = _) := hW
  have HS : Hid (W.heap.size = w.heap.size + 1) := hWs
  have hfW := Fm.below hWb hB hf
  clear hW hWs
  cases hq : okM t
  · have HQ : Hid (okM t = false) := hq
    have HT : Hid (bndT t = []) := by show _ = _; simp [bndT, hq]
    clear hq
    go_enter Try.func9, Try.ntmps9
    go_wp2_with fail
    rw [← HW.out]
    refine (sTermOk_any D d L B t _ _ _ _ _ _ _ _ _ _ (by have := HS.out; omega) hfW).mono ?_
    rintro e w1 ⟨rfl, hb1⟩
    rw [HQ.out]
    have hbw : Below w.heap.size w w1 := hWb.trans (hb1.mono (by have := HS.out; omega))
    have hz1 := hbw.size
    go_wp2_with fail
    go_ret
    exact ⟨_, rfl, hbw.alloc (by omega) _, by rw [HT.out]; exact toks_emp (heap_new rfl) (by omega)⟩
  · have HQ : Hid (okM t = true) := hq
    have HT : Hid (bndT t = [] ++ bndW t) := by show _ = _; simp [bndT, hq]
    obtain ⟨m, hm, hm6⟩ := okM_some hq
    clear hq
    go_enter Try.func9, Try.ntmps9
    go_wp2_with fail
    rw [← HW.out]
    refine (sTermOk_any D d L B t _ _ _ _ _ _ _ _ _ _ (by have := HS.out; omega) hfW).mono ?_
    rintro e w1 ⟨rfl, hb1⟩
    rw [HQ.out]
    have x0 := (hb1.block w.heap.size (by have := HS.out; omega)).trans hW0
    have hbw : Below w.heap.size w w1 := hWb.trans (hb1.mono (by have := HS.out; omega))
    have hz1 : w.heap.size + 1 ≤ w1.heap.size := by have := HS.out; have := hb1.size; omega
    obtain ⟨f0, f1, f2, f3, f4, f5, f6, f7, f8⟩ := Nine.box x0
    have hba : Below w.heap.size w (w1.alloc (.cells #[] 9)) := hbw.alloc (by omega) _
    go_wp2_with fail
    refine (lb_any 24 D d L B w.heap.size t _ _ _ _ _ _ _ _ _ _ [] m _ hB (by simp; omega) (Fm.below hba hB hf) hm (toks_emp (heap_new rfl) (by omega)) (by simp; omega)).mono ?_
    rintro e w2 ⟨v, rfl, hk, hT⟩
    obtain ⟨ao, cp, rfl⟩ := toks_form hT
    have hbw2 : Below w.heap.size w w2 := hba.trans ⟨hk.os, hk.tape, hk.output, hk.size, fun k hk2 => hk.block k (by simp; omega) (fun e => by have e1 : w1.heap.size = k := by { simpa [Value.ownBlock] using e }; omega)⟩
    clear f0 f1 f2 f3 f4 f5 f6 f7 f8
    go_wp2_with fail
    go_ret
    refine ⟨_, rfl, hbw2, ?_⟩
    rw [HT.out]
    exact hT

end Go.Proofs.Ytgckmnchlkgakaa
