/-
  The model's 'l6All', 'l6Lambdas', 'Lambdas'.
-/
import Derived.Test.YtgckmnchlkgakaaNdaZ8
import Derived.Test.YtgckmnchlkgakaaNdaTro
import Derived.Test.YtgckmnchlkgakaaNdaZ10
import Derived.Test.YtgckmnchlkgakaaNdaZ6
import Derived.Deep.RegionHeld3
import Derived.Deep.RegionLaw
import Derived.Sort.AtCall
import Derived.LoopN
import Derived.Test.YtgckmnchlkgakaaNdaLkM
import Derived.Test.YtgckmnchlkgakaaNdaZ13
import Derived.Deep.RegionWith
namespace Go.Proofs.Ytgckmnchlkgakaa
open Go.RowKit
set_option linter.unusedVariables false
set_option linter.unusedSimpArgs false

def SaidLa (l : Nat) : Prop := ∀ (D d d' L B base : Nat) (t : Tm) (a1 : Option Addr) (l1 c1 : Nat) (a2 : Option Addr) (l2 c2 : Nat) (a3 : Option Addr) (l3 c3 : Nat) (vo : Value) (P : List Tm) (m : Nat) (w : World), d' ≤ d → B ≤ base → base ≤ w.heap.size → Fm L B w D d' t a1 l1 a2 l2 a3 l3 → nodesM l t = some m → TRow L B base w D d vo P → P.length + m ≤ 1000 →
    Calls Try.prog 56 #[.agg #[.int .i64 t.K, .int .i64 t.N, .string t.S, .string t.Z, .int .i64 t.T.K, .int .i64 t.T.N, .slice a1 l1 c1, .slice a2 l2 c2, .slice a3 l3 c3], vo] w fun e w' => ∃ vo', e = .returned vo' ∧ Ko vo w vo' w' ∧ TRow L B base w' D d vo' (P ++ allW t)

set_option maxRecDepth 100000 in
set_option maxHeartbeats 2000000 in
theorem la_succ (l : Nat) (IH : SaidLa l) : SaidLa (l + 1) := by
  intro D d d' L B base t a1 l1 c1 a2 l2 c2 a3 l3 c3 vo P m w hd hB hb hf hm hT hlen
  obtain ⟨hn, hparts⟩ := nodesM_inv hm
  obtain ⟨hl3, hl3m⟩ := hf.m.len
  have HL : Hid (l3 = t.A.length) := hl3
  have HN : Hid (∀ j (hj : j < t.A.length), ∃ a, nodesM l t.A[j] = some a ∧ (preW t j).length + 1 + a ≤ m) := fun j hj => by
    obtain ⟨a, ha⟩ := hparts j hj
    exact ⟨a, ha, preW_len hm j hj ha⟩
  have hm0 : 0 < m := by have := allW_len _ t m hm; rw [allW_eq, List.length_cons] at this; omega
  obtain ⟨ao, cap, rfl⟩ := trow_form hT
  obtain ⟨n, hn0⟩ : ∃ n, P.length = n := ⟨_, rfl⟩
  have HPn : Hid (P.length = n) := hn0
  obtain ⟨W, hW⟩ : ∃ W, W = w.alloc (.cells #[.int .i64 t.K, .int .i64 t.N, .string t.S, .string t.Z, .int .i64 t.T.K, .int .i64 t.T.N, .slice a1 l1 c1, .slice a2 l2 c2, .slice a3 l3 c3] 36) := ⟨_, rfl⟩
  have hWs : W.heap.size = w.heap.size + 1 := by rw [hW]; simp
  have hWb : Below w.heap.size w W := by rw [hW]; exact (Below.refl _ _).alloc (Nat.le_refl _) _
  have hW0 : W.heap[w.heap.size]? = some (.cells #[.int .i64 t.K, .int .i64 t.N, .string t.S, .string t.Z, .int .i64 t.T.K, .int .i64 t.T.N, .slice a1 l1 c1, .slice a2 l2 c2, .slice a3 l3 c3] 36 (0, 0)) := by rw [hW]; exact heap_new rfl
  have HW : Hid (W = _) := hW
  have hno : Value.ownBlock (.slice ao n cap) ≠ some w.heap.size := fun e => by have := (trow_own hT (by rw [hn0]; exact e)).2; omega
  obtain ⟨g, cp, w2, hrun, hT2, hk2⟩ := trow_push (trow_bel hT hWb (by omega)) (show base ≤ W.heap.size by omega) hB (by omega) (c1 := c1) (c2 := c2) (c3 := c3) (Fm.below hWb (by omega) (Fm.deeperM hd hf))
  rw [hn0] at hrun hT2 hk2
  rw [hWs] at hrun
  rw [hW] at hrun
  have HR : Hid (_ = _) := hrun
  have hkW : Ko (.slice ao n cap) w (.slice ao n cap) W := Ko.of_below hWb
  have HKW : Hid (Ko _ _ _ _) := hkW
  have HTO : Hid (∀ k, Value.ownBlock (.slice ao n cap) = some k → base ≤ k) := fun k hk => (trow_own hT (by rw [hn0]; exact hk)).1
  have hltW : w.heap.size < W.heap.size := by omega
  have x2 := (hk2.block w.heap.size hltW hno).trans hW0
  rw [hn0]
  clear hW hparts hl3 hm hWs hT hn0 hkW hrun
  obtain ⟨f0, f1, f2, f3, f4, f5, f6, f7, f8⟩ := Nine.box hW0
  go_enter Try.func56, Try.ntmps56
  go_wp2_with (at_builtin; refine list_run HR.out (by rfl) _ _ (by rfl) (by rfl) (by rfl) (by rfl) ?_)
  clear f0 f1 f2 f3 f4 f5 f6 f7 f8
  go_loopw [1, 5] (fun v i wr => ∃ (j : Nat) (aj : Option Addr) (nj cj : Nat), j ≤ l3 ∧ i = .int .i64 j ∧ v = .slice aj nj cj ∧ TRow L B base wr D d (.slice aj nj cj) (P ++ t :: preW t j) ∧ Ko (.slice ao n cap) W (.slice aj nj cj) wr) (fun _ i _ => l3 - (intOf i).toNat)
  case atStart => exact ⟨0, _, _, _, by omega, rfl, rfl, by rw [preW_zero]; exact hT2, hk2⟩
  case round =>
    obtain ⟨j, aj, nj, cj, hj, rfl, rfl, hTj, hkj⟩ := hrel
    have hzj := hkj.size
    have xj := (hkj.block w.heap.size hltW hno).trans hW0
    obtain ⟨p0, p1, p2, p3, p4, p5, p6, p7, p8⟩ := Nine.box xj
    by_cases hlt : j < l3
    · have hlt' : j < t.A.length := by have := HL.out; omega
      obtain ⟨a, ha, hal⟩ := HN.out j hlt'
      have hbw : Below base w wr := (hWb.mono hb).trans ⟨hkj.os, hkj.tape, hkj.output, hkj.size, fun k hk => hkj.block k (by omega) (fun e => by have := HTO.out k e; omega)⟩
      obtain ⟨b, o, rfl, _, hbB, b1, m1, d1, b2, m2, d2, b3, m3, d3, h9, hf1⟩ := hf.m.get j hlt'
      have h9r := h9.world (hbw.block b (by omega))
      obtain ⟨e0, e1, e2, e3, e4, e5, e6, e7, e8⟩ := h9r
      have hf2 : Fm L B wr D (d' - 1) t.A[j] b1 m1 b2 m2 b3 m3 := Fm.keep (fun k _ hk => hbw.block k (by omega)) (Nat.le_refl _) (Nat.le_refl _) hf1
      have HNX : Hid (P ++ t :: preW t (j + 1) = (P ++ t :: preW t j) ++ allW t.A[j]) := by show _ = _; rw [preW_succ t j hlt']; simp
      have hlen2 : (P ++ t :: preW t j).length + a ≤ 1000 := by have := HPn.out; rw [List.length_append, List.length_cons]; omega
      have HK2 : Hid (Ko _ _ _ _) := hkj
      clear h9 hkj HN hal
      go_wp2_with fail
      refine (IH D d (d' - 1) L B base t.A[j] _ _ _ _ _ _ _ _ _ _ _ a wr (by omega) hB (by omega) hf2 ha hTj hlen2).mono ?_
      rintro e w3 ⟨vo', rfl, hk3, hT3⟩
      rw [← HNX.out] at hT3
      obtain ⟨a3', c3', rfl⟩ := trow_form hT3
      obtain ⟨n3, hn3⟩ : ∃ x, (P ++ t :: preW t (j + 1)).length = x := ⟨_, rfl⟩
      rw [hn3] at hT3 hk3 ⊢
      clear hn3
      have hkn := HK2.out.trans hk3
      clear hk3
      go_wp2_with fail
      go_roundw
      case rel => exact ⟨j + 1, a3', n3, c3', by omega, by go_num, rfl, hT3, hkn⟩
      case measure => simp [intOf]; omega
    · have HK : Hid (P ++ allW t = P ++ t :: preW t j) := by show _ = _; rw [preW_all t j (by have := HL.out; omega)]
      go_wp2_with fail
      go_ret
      exact ⟨_, rfl, HKW.out.trans hkj, by rw [HK.out]; exact hTj⟩

theorem la_any (l : Nat) : SaidLa l := by
  induction l with
  | zero => intro D d d' L B base t a1 l1 c1 a2 l2 c2 a3 l3 c3 vo P m w hd hB hb hf hm; simp [nodesM] at hm
  | succ l ih => exact la_succ l ih

end Go.Proofs.Ytgckmnchlkgakaa

/-
  What the model's 'l1Copy' comes to: the same tree in new memory.
-/
namespace Go.Proofs.Ytgckmnchlkgakaa
open Go.RowKit
set_option linter.unusedVariables false
set_option linter.unusedSimpArgs false

/-- One element more appended to it: what the run of 'append' gives, w1 being the world behind the call that made the element. -/
theorem ap_run {base : Nat} {wr w1 : World} {d : Nat} {v : Value} {k : Nat} {ts : List Tr} (h : ApRel base wr d v k ts) (hk : k < ts.length) (hk2 : ts.length ≤ 1048576) (hb : Below wr.heap.size wr w1) (hbase : base ≤ wr.heap.size) {ao1 : Option Addr} {len1 cap1 : Nat}
    (ho : OwR wr.heap.size w1.heap.size w1 d ao1 len1 ts[k].A) :
    ∃ g cap w2, (Builtin.append_ #[31, 31] 31 #[v, .slice (some ⟨w1.heap.size, 0, none⟩) 1 1]).run Try.prog (w1.alloc (.cells #[.int .i64 ts[k].K, .int .i64 ts[k].N, .slice ao1 len1 cap1] 33)) = .ok (.slice (some ⟨g, 0, none⟩) (k + 1) cap) w2 ∧
      ApRel base w2 d (.slice (some ⟨g, 0, none⟩) (k + 1) cap) (k + 1) ts ∧ Below base wr w2 := by
  obtain ⟨i0, hi, hz0, hz1, hz2⟩ := info_parts Try.infoTy3
  have hX : Below wr.heap.size wr (w1.alloc (.cells #[.int .i64 ts[k].K, .int .i64 ts[k].N, .slice ao1 len1 cap1] 33)) := hb.alloc hb.size _
  have h1 := ap_below h hX
  obtain ⟨xs, hown, _⟩ := h1.own
  obtain ⟨xs0, hown0, _⟩ := h.own
  have hsz := hb.size
  obtain ⟨g, cap, w2, hrun, hown2, hgrow, hat, hlt⟩ := run_append_lies (P := Try.prog) (w1.alloc (.cells #[.int .i64 ts[k].K, .int .i64 ts[k].N, .slice ao1 len1 cap1] 33)) 31 31 base 33 i0 _ 3 40 Try.underlying31 hi hz0 hz1 hz2 rfl (by omega) v k xs hown
    ⟨w1.heap.size, 0, none⟩ 1 1 [.int .i64 ts[k].K, .int .i64 ts[k].N, .slice ao1 len1 cap1] rfl (World.news_of_block (cs := #[.int .i64 ts[k].K, .int .i64 ts[k].N, .slice ao1 len1 cap1]) (t := 33) (fr := (0, 0)) (heap_alloc_new w1 _)) (by simp [Value.oneCell'])
    (by omega) (by unfold maxLen; omega) (by omega) (by simp; omega) _ rfl
  refine ⟨g, cap, w2, hrun, ?_, ?_⟩
  · have hxx : xs = xs0 := by
      rcases hown.2 with ⟨hv, hn⟩ | ⟨g1, cap1', cur1, hv, _, hh, _, _, _, ht⟩
      · have q1 := hown.1
        have q2 := hown0.1
        rw [hn] at q1 q2
        simp at q1 q2
        rw [q1, q2]
      · rcases hown0.2 with ⟨hv2, _⟩ | ⟨g2, cap2, cur2, hv2, _, hh2, _, _, _, ht2⟩
        · rw [hv] at hv2; cases hv2
        · rw [hv] at hv2
          cases hv2
          rw [hX.block g1 (Array.getElem?_eq_some_iff.1 hh2).1, hh2] at hh
          cases hh
          rw [← ht, ← ht2]
    subst hxx
    exact ap_next h hk hX hbase (ho.keep (fun q _ hq => Below.heap_alloc _ _ _ hq) (Nat.le_refl _) (by simp)) hown0 hown2 hgrow hat
  · exact (hX.mono hbase).grown hgrow (by simp; omega) (fun q hq => (ap_block h1 hq).1)


end Go.Proofs.Ytgckmnchlkgakaa
