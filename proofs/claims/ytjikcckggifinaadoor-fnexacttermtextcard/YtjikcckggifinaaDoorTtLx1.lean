/-
  The model's 'l2Text', kind by kind.
-/
import Derived.Test.YtjikcckggifinaaDoorTtZ35
import Derived.LoopN
namespace Go.Proofs.YtjikcckggifinaaDoor
open Go.RowKit
set_option linter.unusedVariables false
set_option linter.unusedSimpArgs false

set_option maxRecDepth 100000 in
set_option maxHeartbeats 2000000 in
theorem lx_1 (l : Nat) (IH : SaidLX l) (D d L B : Nat) (t : Tm) (a1 : Option Addr) (l1 c1 : Nat) (a2 : Option Addr) (l2 c2 : Nat) (a3 : Option Addr) (l3 c3 : Nat) (m : Nat) (w : World) (hB : B ≤ w.heap.size) (hf : Fm L B w D d t a1 l1 a2 l2 a3 l3) (hm : nodesM (l + 1) t = some m) (hm6 : m ≤ 1000) (hK : t.K = 1) :
    Calls Tryd.prog 13 #[.agg #[.int .i64 t.K, .int .i64 t.N, .string t.S, .string t.Z, .int .i64 t.T.K, .int .i64 t.T.N, .slice a1 l1 c1, .slice a2 l2 c2, .slice a3 l3 c3]] w fun e w' => e = .returned (.string ⟨(Lib.join (toksM (l + 1) t) [32]).toArray⟩) ∧ Below w.heap.size w w' := by
  obtain ⟨hN, _⟩ := nodesM_inv2 hm
  obtain ⟨_, hparts⟩ := nodesM_inv hm
  obtain ⟨hl3, hl3m⟩ := hf.m.len
  have hnm := hN.nm
  rw [hK] at hnm
  have hnm : isNil t.S = true ∧ isNil t.Z = true := by simpa [namesB, shN] using hnm
  have hS := nil_of hnm.1
  have hZ := nil_of hnm.2
  have hTK : t.T.K = 0 := hN.zt (by rw [hK]; rfl)
  have hl2 : l2 = 0 := by
    have h1 := hf.t2.len.1
    have h2 := hN.ts
    rw [hK] at h2
    have h3 : (t.Ts.length : Int) ≤ 0 := h2
    omega
  subst hl2
  rw [hK, hS, hZ, hTK]
  obtain ⟨X, hX⟩ : ∃ X, X = w.alloc (.cells #[.int .i64 1, .int .i64 t.N, .string ⟨#[]⟩, .string ⟨#[]⟩, .int .i64 0, .int .i64 t.T.N, .slice a1 l1 c1, .slice a2 0 c2, .slice a3 l3 c3] 35) := ⟨_, rfl⟩
  have hXs : X.heap.size = w.heap.size + 1 := by rw [hX]; simp
  have hXb : Below w.heap.size w X := by rw [hX]; exact (Below.refl _ _).alloc (Nat.le_refl _) _
  have hX1 : X.heap[w.heap.size]? = some (.cells #[.int .i64 1, .int .i64 t.N, .string ⟨#[]⟩, .string ⟨#[]⟩, .int .i64 0, .int .i64 t.T.N, .slice a1 l1 c1, .slice a2 0 c2, .slice a3 l3 c3] 35 (0, 0)) := by rw [hX]; exact heap_new rfl
  have HX : Hid (X = _) := hX
  have HL : Hid (l3 = t.A.length) := hl3
  have HP : Hid (∀ j (hj : j < t.A.length), ∃ a, nodesM l t.A[j] = some a) := hparts
  have HK : Hid (t.K = 1) := hK
  have HN : Hid (NodeIs t) := hN
  have HM : Hid (nodesM (l + 1) t = some m) := hm
  have hwl : (wordM 1).length = 1 := rfl
  have n1 := hN.n1
  have n2 := hN.n2
  rw [hK] at n1 n2
  have el : shL 1 = -1000000 := rfl
  have em : shM 1 = 1000000 := rfl
  have hn1 : -1000000 ≤ t.N := by omega
  have hn2 : t.N ≤ 1000000 := by omega
  have hil : (Lib.itoa t.N).length ≤ 21 := Lib.itoa_length_le t.N (by omega) (by omega)
  clear n1 n2 el em
  have HS : Hid (t.S = ⟨#[]⟩) := hS
  have HZ : Hid (t.Z = ⟨#[]⟩) := hZ
  clear hS hZ hnm
  clear hTK
  clear hX hl3 hparts hK hN hm
  go_enter Tryd.func13, Tryd.ntmps13
  go_wp2_with fail
  rw [← HX.out]
  refine (lw_1 _).mono ?_
  rintro e w1 ⟨rfl, h1⟩
  have b1 : Below X.heap.size X w1 := h1
  have z1 : w.heap.size < w1.heap.size := by have := b1.size; omega
  obtain ⟨f10, f11, f12, f13, f14, f15, f16, f17, f18⟩ := Nine.box ((b1.block w.heap.size (by omega)).trans hX1)
  go_wp2_with fail
  refine (li_any t.N (by omega) (by omega) _).mono ?_
  rintro e w2 ⟨rfl, h2⟩
  have b2 : Below X.heap.size X w2 := b1.trans (h2.mono b1.size)
  have z2 : w.heap.size < w2.heap.size := by have := b2.size; omega
  obtain ⟨f20, f21, f22, f23, f24, f25, f26, f27, f28⟩ := Nine.box ((b2.block w.heap.size (by omega)).trans hX1)
  go_wp2_with fail
  refine wp_loop_rounds 1 ?_
  rw [rounds_succ]
  go_wp2_with fail
  go_loopw [3, 5] (fun v i wr => ∃ (j : Nat), j ≤ l3 ∧ i = .int .i64 j ∧ v = .string ⟨(Lib.join (toksN l t j) [32]).toArray⟩ ∧ Below X.heap.size X wr) (fun _ i _ => l3 - (intOf i).toNat)
  case atStart => exact ⟨0, by omega, rfl, congrArg Value.string (str_head _ _ (by rw [toksN_zero, HK.out]; simp [headM, wordM, signM, sb, Lib.join_cons, Lib.joinTail])), by first | exact b2 | exact b2.alloc b2.size _⟩
  case round =>
    obtain ⟨j, hj, rfl, rfl, hbr⟩ := hrel
    have hszr := hbr.size
    obtain ⟨g0, g1, g2, g3, g4, g5, g6, g7, g8⟩ := Nine.box ((hbr.block w.heap.size (by omega)).trans hX1)
    have hbw : Below w.heap.size w wr := hXb.trans (hbr.mono (by omega))
    by_cases hlt : j < l3
    · have hlt' : j < t.A.length := by have := HL.out; omega
      obtain ⟨eb, eo, rfl, _, hebB, e1, m1, d1, e2, m2, d2, e3, m3, d3, h9, hfi⟩ := hf.m.get j hlt'
      obtain ⟨n0, n1, n2, n3, n4, n5, n6, n7, n8⟩ := h9.world (hbw.block eb (by omega))
      have hfi2 : Fm L B wr D (d - 1) t.A[j] e1 m1 e2 m2 e3 m3 := Fm.keep (fun q _ hq => hbw.block q (by omega)) (Nat.le_refl _) (Nat.le_refl _) hfi
      obtain ⟨a, ha⟩ := HP.out j hlt'
      have ha6 : a ≤ 1000 := Nat.le_trans (partM_le HM.out j hlt' ha) hm6
      have hx1 := Nat.le_trans (joinN_len HM.out j hlt') (Nat.mul_le_mul_left 2706 hm6)
      have HJ : Hid (Lib.join (toksN l t (j + 1)) [32] = Lib.join (toksN l t j) [32] ++ 32 :: Lib.join (toksM l t.A[j]) [32]) := join_part l t j a hlt' ha
      have HA : Hid (nodesM l t.A[j] = some a) := ha
      clear ha h9 hfi
      go_wp2_with fail
      refine (IH D (d - 1) L B t.A[j] e1 m1 d1 e2 m2 d2 e3 m3 d3 a wr (by omega) hfi2 HA.out ha6).mono ?_
      rintro e w8 ⟨rfl, hb8⟩
      have hbr2 : Below X.heap.size X w8 := hbr.trans (hb8.mono (by omega))
      clear n0 n1 n2 n3 n4 n5 n6 n7 n8
      go_wp2_with fail
      go_roundw
      case rel => exact ⟨j + 1, by omega, by go_num, by rw [HJ.out, ← str_three], hbr2⟩
      case measure => simp [intOf]; omega
    · have HE : Hid (toksN l t j = toksM (l + 1) t) := toksN_all l t j (by have := HL.out; omega)
      go_wp2_with fail
      go_ret
      exact ⟨by rw [← HE.out]; rfl, hbw⟩

set_option maxRecDepth 100000 in
set_option maxHeartbeats 2000000 in
theorem lx_2_0 (l : Nat) (IH : SaidLX l) (D d L B : Nat) (t : Tm) (a1 : Option Addr) (l1 c1 : Nat) (a2 : Option Addr) (l2 c2 : Nat) (a3 : Option Addr) (l3 c3 : Nat) (m : Nat) (w : World) (hB : B ≤ w.heap.size) (hf : Fm L B w D d t a1 l1 a2 l2 a3 l3) (hm : nodesM (l + 1) t = some m) (hm6 : m ≤ 1000) (hK : t.K = 2) (hNc : t.N = 0) :
    Calls Tryd.prog 13 #[.agg #[.int .i64 t.K, .int .i64 t.N, .string t.S, .string t.Z, .int .i64 t.T.K, .int .i64 t.T.N, .slice a1 l1 c1, .slice a2 l2 c2, .slice a3 l3 c3]] w fun e w' => e = .returned (.string ⟨(Lib.join (toksM (l + 1) t) [32]).toArray⟩) ∧ Below w.heap.size w w' := by
  obtain ⟨hN, _⟩ := nodesM_inv2 hm
  obtain ⟨_, hparts⟩ := nodesM_inv hm
  obtain ⟨hl3, hl3m⟩ := hf.m.len
  have hnm := hN.nm
  rw [hK] at hnm
  have hnm : isNil t.S = true ∧ isNil t.Z = true := by simpa [namesB, shN] using hnm
  have hS := nil_of hnm.1
  have hZ := nil_of hnm.2
  have hTK : t.T.K = 0 := hN.zt (by rw [hK]; rfl)
  have hl2 : l2 = 0 := by
    have h1 := hf.t2.len.1
    have h2 := hN.ts
    rw [hK] at h2
    have h3 : (t.Ts.length : Int) ≤ 0 := h2
    omega
  subst hl2
  rw [hK, hNc, hS, hZ, hTK]
  obtain ⟨X, hX⟩ : ∃ X, X = w.alloc (.cells #[.int .i64 2, .int .i64 0, .string ⟨#[]⟩, .string ⟨#[]⟩, .int .i64 0, .int .i64 t.T.N, .slice a1 l1 c1, .slice a2 0 c2, .slice a3 l3 c3] 35) := ⟨_, rfl⟩
  have hXs : X.heap.size = w.heap.size + 1 := by rw [hX]; simp
  have hXb : Below w.heap.size w X := by rw [hX]; exact (Below.refl _ _).alloc (Nat.le_refl _) _
  have hX1 : X.heap[w.heap.size]? = some (.cells #[.int .i64 2, .int .i64 0, .string ⟨#[]⟩, .string ⟨#[]⟩, .int .i64 0, .int .i64 t.T.N, .slice a1 l1 c1, .slice a2 0 c2, .slice a3 l3 c3] 35 (0, 0)) := by rw [hX]; exact heap_new rfl
  have HX : Hid (X = _) := hX
  have HL : Hid (l3 = t.A.length) := hl3
  have HP : Hid (∀ j (hj : j < t.A.length), ∃ a, nodesM l t.A[j] = some a) := hparts
  have HK : Hid (t.K = 2) := hK
  have HN : Hid (NodeIs t) := hN
  have HM : Hid (nodesM (l + 1) t = some m) := hm
  have hwl : (wordM 2).length = 1 := rfl
  have HS : Hid (t.S = ⟨#[]⟩) := hS
  have HZ : Hid (t.Z = ⟨#[]⟩) := hZ
  clear hS hZ hnm
  clear hTK
  have HNC : Hid (t.N = 0) := hNc
  clear hNc
  clear hX hl3 hparts hK hN hm
  go_enter Tryd.func13, Tryd.ntmps13
  go_wp2_with fail
  rw [← HX.out]
  refine (lw_2 _).mono ?_
  rintro e w1 ⟨rfl, h1⟩
  have b1 : Below X.heap.size X w1 := h1
  have z1 : w.heap.size < w1.heap.size := by have := b1.size; omega
  obtain ⟨f10, f11, f12, f13, f14, f15, f16, f17, f18⟩ := Nine.box ((b1.block w.heap.size (by omega)).trans hX1)
  go_wp2_with fail
  refine wp_loop_rounds 1 ?_
  rw [rounds_succ]
  go_wp2_with fail
  go_loopw [3, 5] (fun v i wr => ∃ (j : Nat), j ≤ l3 ∧ i = .int .i64 j ∧ v = .string ⟨(Lib.join (toksN l t j) [32]).toArray⟩ ∧ Below X.heap.size X wr) (fun _ i _ => l3 - (intOf i).toNat)
  case atStart => exact ⟨0, by omega, rfl, congrArg Value.string (str_head _ _ (by rw [toksN_zero, HK.out, HNC.out]; simp [headM, wordM, signM, sb, Lib.join_cons, Lib.joinTail])), by first | exact b1 | exact b1.alloc b1.size _⟩
  case round =>
    obtain ⟨j, hj, rfl, rfl, hbr⟩ := hrel
    have hszr := hbr.size
    obtain ⟨g0, g1, g2, g3, g4, g5, g6, g7, g8⟩ := Nine.box ((hbr.block w.heap.size (by omega)).trans hX1)
    have hbw : Below w.heap.size w wr := hXb.trans (hbr.mono (by omega))
    by_cases hlt : j < l3
    · have hlt' : j < t.A.length := by have := HL.out; omega
      obtain ⟨eb, eo, rfl, _, hebB, e1, m1, d1, e2, m2, d2, e3, m3, d3, h9, hfi⟩ := hf.m.get j hlt'
      obtain ⟨n0, n1, n2, n3, n4, n5, n6, n7, n8⟩ := h9.world (hbw.block eb (by omega))
      have hfi2 : Fm L B wr D (d - 1) t.A[j] e1 m1 e2 m2 e3 m3 := Fm.keep (fun q _ hq => hbw.block q (by omega)) (Nat.le_refl _) (Nat.le_refl _) hfi
      obtain ⟨a, ha⟩ := HP.out j hlt'
      have ha6 : a ≤ 1000 := Nat.le_trans (partM_le HM.out j hlt' ha) hm6
      have hx1 := Nat.le_trans (joinN_len HM.out j hlt') (Nat.mul_le_mul_left 2706 hm6)
      have HJ : Hid (Lib.join (toksN l t (j + 1)) [32] = Lib.join (toksN l t j) [32] ++ 32 :: Lib.join (toksM l t.A[j]) [32]) := join_part l t j a hlt' ha
      have HA : Hid (nodesM l t.A[j] = some a) := ha
      clear ha h9 hfi
      go_wp2_with fail
      refine (IH D (d - 1) L B t.A[j] e1 m1 d1 e2 m2 d2 e3 m3 d3 a wr (by omega) hfi2 HA.out ha6).mono ?_
      rintro e w8 ⟨rfl, hb8⟩
      have hbr2 : Below X.heap.size X w8 := hbr.trans (hb8.mono (by omega))
      clear n0 n1 n2 n3 n4 n5 n6 n7 n8
      go_wp2_with fail
      go_roundw
      case rel => exact ⟨j + 1, by omega, by go_num, by rw [HJ.out, ← str_three], hbr2⟩
      case measure => simp [intOf]; omega
    · have HE : Hid (toksN l t j = toksM (l + 1) t) := toksN_all l t j (by have := HL.out; omega)
      go_wp2_with fail
      go_ret
      exact ⟨by rw [← HE.out]; rfl, hbw⟩

set_option maxRecDepth 100000 in
set_option maxHeartbeats 2000000 in
theorem lx_2_1 (l : Nat) (IH : SaidLX l) (D d L B : Nat) (t : Tm) (a1 : Option Addr) (l1 c1 : Nat) (a2 : Option Addr) (l2 c2 : Nat) (a3 : Option Addr) (l3 c3 : Nat) (m : Nat) (w : World) (hB : B ≤ w.heap.size) (hf : Fm L B w D d t a1 l1 a2 l2 a3 l3) (hm : nodesM (l + 1) t = some m) (hm6 : m ≤ 1000) (hK : t.K = 2) (hNc : t.N = 1) :
    Calls Tryd.prog 13 #[.agg #[.int .i64 t.K, .int .i64 t.N, .string t.S, .string t.Z, .int .i64 t.T.K, .int .i64 t.T.N, .slice a1 l1 c1, .slice a2 l2 c2, .slice a3 l3 c3]] w fun e w' => e = .returned (.string ⟨(Lib.join (toksM (l + 1) t) [32]).toArray⟩) ∧ Below w.heap.size w w' := by
  obtain ⟨hN, _⟩ := nodesM_inv2 hm
  obtain ⟨_, hparts⟩ := nodesM_inv hm
  obtain ⟨hl3, hl3m⟩ := hf.m.len
  have hnm := hN.nm
  rw [hK] at hnm
  have hnm : isNil t.S = true ∧ isNil t.Z = true := by simpa [namesB, shN] using hnm
  have hS := nil_of hnm.1
  have hZ := nil_of hnm.2
  have hTK : t.T.K = 0 := hN.zt (by rw [hK]; rfl)
  have hl2 : l2 = 0 := by
    have h1 := hf.t2.len.1
    have h2 := hN.ts
    rw [hK] at h2
    have h3 : (t.Ts.length : Int) ≤ 0 := h2
    omega
  subst hl2
  rw [hK, hNc, hS, hZ, hTK]
  obtain ⟨X, hX⟩ : ∃ X, X = w.alloc (.cells #[.int .i64 2, .int .i64 1, .string ⟨#[]⟩, .string ⟨#[]⟩, .int .i64 0, .int .i64 t.T.N, .slice a1 l1 c1, .slice a2 0 c2, .slice a3 l3 c3] 35) := ⟨_, rfl⟩
  have hXs : X.heap.size = w.heap.size + 1 := by rw [hX]; simp
  have hXb : Below w.heap.size w X := by rw [hX]; exact (Below.refl _ _).alloc (Nat.le_refl _) _
  have hX1 : X.heap[w.heap.size]? = some (.cells #[.int .i64 2, .int .i64 1, .string ⟨#[]⟩, .string ⟨#[]⟩, .int .i64 0, .int .i64 t.T.N, .slice a1 l1 c1, .slice a2 0 c2, .slice a3 l3 c3] 35 (0, 0)) := by rw [hX]; exact heap_new rfl
  have HX : Hid (X = _) := hX
  have HL : Hid (l3 = t.A.length) := hl3
  have HP : Hid (∀ j (hj : j < t.A.length), ∃ a, nodesM l t.A[j] = some a) := hparts
  have HK : Hid (t.K = 2) := hK
  have HN : Hid (NodeIs t) := hN
  have HM : Hid (nodesM (l + 1) t = some m) := hm
  have hwl : (wordM 2).length = 1 := rfl
  have HS : Hid (t.S = ⟨#[]⟩) := hS
  have HZ : Hid (t.Z = ⟨#[]⟩) := hZ
  clear hS hZ hnm
  clear hTK
  have HNC : Hid (t.N = 1) := hNc
  clear hNc
  clear hX hl3 hparts hK hN hm
  go_enter Tryd.func13, Tryd.ntmps13
  go_wp2_with fail
  rw [← HX.out]
  refine (lw_2 _).mono ?_
  rintro e w1 ⟨rfl, h1⟩
  have b1 : Below X.heap.size X w1 := h1
  have z1 : w.heap.size < w1.heap.size := by have := b1.size; omega
  obtain ⟨f10, f11, f12, f13, f14, f15, f16, f17, f18⟩ := Nine.box ((b1.block w.heap.size (by omega)).trans hX1)
  go_wp2_with fail
  refine wp_loop_rounds 1 ?_
  rw [rounds_succ]
  go_wp2_with fail
  go_loopw [3, 5] (fun v i wr => ∃ (j : Nat), j ≤ l3 ∧ i = .int .i64 j ∧ v = .string ⟨(Lib.join (toksN l t j) [32]).toArray⟩ ∧ Below X.heap.size X wr) (fun _ i _ => l3 - (intOf i).toNat)
  case atStart => exact ⟨0, by omega, rfl, congrArg Value.string (str_head _ _ (by rw [toksN_zero, HK.out, HNC.out]; simp [headM, wordM, signM, sb, Lib.join_cons, Lib.joinTail])), by first | exact b1 | exact b1.alloc b1.size _⟩
  case round =>
    obtain ⟨j, hj, rfl, rfl, hbr⟩ := hrel
    have hszr := hbr.size
    obtain ⟨g0, g1, g2, g3, g4, g5, g6, g7, g8⟩ := Nine.box ((hbr.block w.heap.size (by omega)).trans hX1)
    have hbw : Below w.heap.size w wr := hXb.trans (hbr.mono (by omega))
    by_cases hlt : j < l3
    · have hlt' : j < t.A.length := by have := HL.out; omega
      obtain ⟨eb, eo, rfl, _, hebB, e1, m1, d1, e2, m2, d2, e3, m3, d3, h9, hfi⟩ := hf.m.get j hlt'
      obtain ⟨n0, n1, n2, n3, n4, n5, n6, n7, n8⟩ := h9.world (hbw.block eb (by omega))
      have hfi2 : Fm L B wr D (d - 1) t.A[j] e1 m1 e2 m2 e3 m3 := Fm.keep (fun q _ hq => hbw.block q (by omega)) (Nat.le_refl _) (Nat.le_refl _) hfi
      obtain ⟨a, ha⟩ := HP.out j hlt'
      have ha6 : a ≤ 1000 := Nat.le_trans (partM_le HM.out j hlt' ha) hm6
      have hx1 := Nat.le_trans (joinN_len HM.out j hlt') (Nat.mul_le_mul_left 2706 hm6)
      have HJ : Hid (Lib.join (toksN l t (j + 1)) [32] = Lib.join (toksN l t j) [32] ++ 32 :: Lib.join (toksM l t.A[j]) [32]) := join_part l t j a hlt' ha
      have HA : Hid (nodesM l t.A[j] = some a) := ha
      clear ha h9 hfi
      go_wp2_with fail
      refine (IH D (d - 1) L B t.A[j] e1 m1 d1 e2 m2 d2 e3 m3 d3 a wr (by omega) hfi2 HA.out ha6).mono ?_
      rintro e w8 ⟨rfl, hb8⟩
      have hbr2 : Below X.heap.size X w8 := hbr.trans (hb8.mono (by omega))
      clear n0 n1 n2 n3 n4 n5 n6 n7 n8
      go_wp2_with fail
      go_roundw
      case rel => exact ⟨j + 1, by omega, by go_num, by rw [HJ.out, ← str_three], hbr2⟩
      case measure => simp [intOf]; omega
    · have HE : Hid (toksN l t j = toksM (l + 1) t) := toksN_all l t j (by have := HL.out; omega)
      go_wp2_with fail
      go_ret
      exact ⟨by rw [← HE.out]; rfl, hbw⟩

set_option maxRecDepth 100000 in
set_option maxHeartbeats 2000000 in
theorem lx_3 (l : Nat) (IH : SaidLX l) (D d L B : Nat) (t : Tm) (a1 : Option Addr) (l1 c1 : Nat) (a2 : Option Addr) (l2 c2 : Nat) (a3 : Option Addr) (l3 c3 : Nat) (m : Nat) (w : World) (hB : B ≤ w.heap.size) (hf : Fm L B w D d t a1 l1 a2 l2 a3 l3) (hm : nodesM (l + 1) t = some m) (hm6 : m ≤ 1000) (hK : t.K = 3) :
    Calls Tryd.prog 13 #[.agg #[.int .i64 t.K, .int .i64 t.N, .string t.S, .string t.Z, .int .i64 t.T.K, .int .i64 t.T.N, .slice a1 l1 c1, .slice a2 l2 c2, .slice a3 l3 c3]] w fun e w' => e = .returned (.string ⟨(Lib.join (toksM (l + 1) t) [32]).toArray⟩) ∧ Below w.heap.size w w' := by
  obtain ⟨hN, _⟩ := nodesM_inv2 hm
  obtain ⟨_, hparts⟩ := nodesM_inv hm
  obtain ⟨hl3, hl3m⟩ := hf.m.len
  have hnm := hN.nm
  rw [hK] at hnm
  have hnm : nameW t.S = true ∧ isNil t.Z = true := by simpa [namesB, shN] using hnm
  have hS1 := (nameW_sz hnm.1).1
  have hS8 := (nameW_sz hnm.1).2
  have hSe := full_of hS1
  have hZ := nil_of hnm.2
  have hTK : t.T.K = 0 := hN.zt (by rw [hK]; rfl)
  rw [hK, hZ, hTK]
  obtain ⟨X, hX⟩ : ∃ X, X = w.alloc (.cells #[.int .i64 3, .int .i64 t.N, .string t.S, .string ⟨#[]⟩, .int .i64 0, .int .i64 t.T.N, .slice a1 l1 c1, .slice a2 l2 c2, .slice a3 l3 c3] 35) := ⟨_, rfl⟩
  have hXs : X.heap.size = w.heap.size + 1 := by rw [hX]; simp
  have hXb : Below w.heap.size w X := by rw [hX]; exact (Below.refl _ _).alloc (Nat.le_refl _) _
  have hX1 : X.heap[w.heap.size]? = some (.cells #[.int .i64 3, .int .i64 t.N, .string t.S, .string ⟨#[]⟩, .int .i64 0, .int .i64 t.T.N, .slice a1 l1 c1, .slice a2 l2 c2, .slice a3 l3 c3] 35 (0, 0)) := by rw [hX]; exact heap_new rfl
  have HX : Hid (X = _) := hX
  have HL : Hid (l3 = t.A.length) := hl3
  have HP : Hid (∀ j (hj : j < t.A.length), ∃ a, nodesM l t.A[j] = some a) := hparts
  have HK : Hid (t.K = 3) := hK
  have HN : Hid (NodeIs t) := hN
  have HM : Hid (nodesM (l + 1) t = some m) := hm
  have hwl : (wordM 3).length = 1 := rfl
  have HL2 : Hid (l2 = t.Ts.length) := hf.t2.len.1
  have hl22 : l2 ≤ 2 := by have := HL2.out; have := hN.ts; have := (shS_bd t.K).2; omega
  have hil : (Lib.itoa (l2 : Int)).length ≤ 21 := Lib.itoa_length_le (l2 : Int) (by omega) (by omega)
  have HZ : Hid (t.Z = ⟨#[]⟩) := hZ
  clear hZ hnm
  clear hTK
  clear hX hl3 hparts hK hN hm
  go_enter Tryd.func13, Tryd.ntmps13
  go_wp2_with fail
  rw [← HX.out]
  refine (lw_3 _).mono ?_
  rintro e w1 ⟨rfl, h1⟩
  have b1 : Below X.heap.size X w1 := h1
  have z1 : w.heap.size < w1.heap.size := by have := b1.size; omega
  obtain ⟨f10, f11, f12, f13, f14, f15, f16, f17, f18⟩ := Nine.box ((b1.block w.heap.size (by omega)).trans hX1)
  go_wp2_with fail
  refine (li_any (l2 : Int) (by omega) (by omega) _).mono ?_
  rintro e w2 ⟨rfl, h2⟩
  have b2 : Below X.heap.size X w2 := b1.trans (h2.mono b1.size)
  have z2 : w.heap.size < w2.heap.size := by have := b2.size; omega
  obtain ⟨f20, f21, f22, f23, f24, f25, f26, f27, f28⟩ := Nine.box ((b2.block w.heap.size (by omega)).trans hX1)
  go_wp2_with fail
  go_loopw [3, 4] (fun v i wr => ∃ (j : Nat), j ≤ l2 ∧ i = .int .i64 j ∧ v = .string ⟨(varX t.S l2 t.Ts j).toArray⟩ ∧ Below X.heap.size X wr) (fun _ i _ => l2 - (intOf i).toNat)
  case atStart => exact ⟨0, by omega, rfl, congrArg Value.string (str_head _ _ (by simp [varX, wordM, sb])), b2⟩
  case round =>
    obtain ⟨j, hj, rfl, rfl, hbr⟩ := hrel
    have hszr := hbr.size
    obtain ⟨g0, g1, g2, g3, g4, g5, g6, g7, g8⟩ := Nine.box ((hbr.block w.heap.size (by omega)).trans hX1)
    have hbw : Below w.heap.size w wr := hXb.trans (hbr.mono (by omega))
    by_cases hlt : j < l2
    · have hlt' : j < t.Ts.length := by have := HL2.out; omega
      obtain ⟨eb, eo, rfl, _, hebB, ao1, len1, cap1, e0, e1, e2, hs1⟩ := hf.t2.get j hlt'
      have y0 := (bcell hbw (by omega) _).trans e0
      have y1 := (bcell hbw (by omega) _).trans e1
      have y2 := (bcell hbw (by omega) _).trans e2
      have hs2 := hs1.below hbw hB
      obtain ⟨a, ha, ha6⟩ := okT_le (HN.out.each t.Ts[j] (List.getElem_mem hlt'))
      have HA : Hid (nodesW 6 ⟨t.Ts[j].K, t.Ts[j].N, t.Ts[j].A⟩ = some a) := by show _ = _; rw [tr_eta]; exact ha
      have hx1 : (varX t.S l2 t.Ts j).length ≤ 1000 := by have := varX_len HN.out j; rw [← HL2.out] at this; exact this
      have hx2 : (textW 6 t.Ts[j]).length ≤ 180 := by have := textW_len _ _ _ ha; omega
      have HJ : Hid (varX t.S l2 t.Ts (j + 1) = varX t.S l2 t.Ts j ++ 32 :: textW 6 t.Ts[j]) := varX_succ t.S l2 t.Ts j hlt'
      clear ha e0 e1 e2
      go_wp2_with fail
      refine (lt_any 6 _ _ _ _ _ _ _ _ _ a _ (by omega) hs2 HA.out (by omega)).mono ?_
      rintro e w8 ⟨rfl, hb8⟩
      rw [tr_eta]
      have hbr2 : Below X.heap.size X w8 := hbr.trans (hb8.mono (by omega))
      clear y0 y1 y2
      go_wp2_with fail
      go_roundw
      case rel => exact ⟨j + 1, by omega, by go_num, by rw [HJ.out, ← str_three], hbr2⟩
      case measure => simp [intOf]; omega
    · have hA0 : t.A.length = 0 := by have h1 := HN.out.a; rw [HK.out] at h1; have h0 : shP 3 = 0 := rfl; omega
      have HE : Hid (varX t.S l2 t.Ts j = Lib.join (toksM (l + 1) t) [32]) := by
        show _ = _
        have e1 := HL2.out
        rw [e1, varX_all HN.out HK.out j (by omega), ← toksN_zero l, toksN_all l t 0 (by omega)]
      have hl0 : l3 = 0 := by have := HL.out; omega
      clear hA0
      subst hl0
      go_wp2_with fail
      refine wp_loop_rounds 1 ?_
      rw [rounds_succ]
      go_wp2_with fail
      go_ret
      exact ⟨by rw [← HE.out]; rfl, hbw⟩

set_option maxRecDepth 100000 in
set_option maxHeartbeats 2000000 in
theorem lx_4 (l : Nat) (IH : SaidLX l) (D d L B : Nat) (t : Tm) (a1 : Option Addr) (l1 c1 : Nat) (a2 : Option Addr) (l2 c2 : Nat) (a3 : Option Addr) (l3 c3 : Nat) (m : Nat) (w : World) (hB : B ≤ w.heap.size) (hf : Fm L B w D d t a1 l1 a2 l2 a3 l3) (hm : nodesM (l + 1) t = some m) (hm6 : m ≤ 1000) (hK : t.K = 4) :
    Calls Tryd.prog 13 #[.agg #[.int .i64 t.K, .int .i64 t.N, .string t.S, .string t.Z, .int .i64 t.T.K, .int .i64 t.T.N, .slice a1 l1 c1, .slice a2 l2 c2, .slice a3 l3 c3]] w fun e w' => e = .returned (.string ⟨(Lib.join (toksM (l + 1) t) [32]).toArray⟩) ∧ Below w.heap.size w w' := by
  obtain ⟨hN, _⟩ := nodesM_inv2 hm
  obtain ⟨_, hparts⟩ := nodesM_inv hm
  obtain ⟨hl3, hl3m⟩ := hf.m.len
  have hnm := hN.nm
  rw [hK] at hnm
  have hnm : nameW t.S = true ∧ isNil t.Z = true := by simpa [namesB, shN] using hnm
  have hS1 := (nameW_sz hnm.1).1
  have hS8 := (nameW_sz hnm.1).2
  have hSe := full_of hS1
  have hZ := nil_of hnm.2
  have hl2 : l2 = 0 := by
    have h1 := hf.t2.len.1
    have h2 := hN.ts
    rw [hK] at h2
    have h3 : (t.Ts.length : Int) ≤ 0 := h2
    omega
  subst hl2
  rw [hK, hZ]
  obtain ⟨X, hX⟩ : ∃ X, X = w.alloc (.cells #[.int .i64 4, .int .i64 t.N, .string t.S, .string ⟨#[]⟩, .int .i64 t.T.K, .int .i64 t.T.N, .slice a1 l1 c1, .slice a2 0 c2, .slice a3 l3 c3] 35) := ⟨_, rfl⟩
  have hXs : X.heap.size = w.heap.size + 1 := by rw [hX]; simp
  have hXb : Below w.heap.size w X := by rw [hX]; exact (Below.refl _ _).alloc (Nat.le_refl _) _
  have hX1 : X.heap[w.heap.size]? = some (.cells #[.int .i64 4, .int .i64 t.N, .string t.S, .string ⟨#[]⟩, .int .i64 t.T.K, .int .i64 t.T.N, .slice a1 l1 c1, .slice a2 0 c2, .slice a3 l3 c3] 35 (0, 0)) := by rw [hX]; exact heap_new rfl
  have HX : Hid (X = _) := hX
  have HL : Hid (l3 = t.A.length) := hl3
  have HP : Hid (∀ j (hj : j < t.A.length), ∃ a, nodesM l t.A[j] = some a) := hparts
  have HK : Hid (t.K = 4) := hK
  have HN : Hid (NodeIs t) := hN
  have HM : Hid (nodesM (l + 1) t = some m) := hm
  have hwl : (wordM 4).length = 2 := rfl
  obtain ⟨mT, hmT, hmT6⟩ := okT_le (hN.ty (by rw [hK]; rfl))
  have HMT : Hid (nodesW 6 ⟨t.T.K, t.T.N, t.T.A⟩ = some mT) := by show _ = _; rw [tr_eta]; exact hmT
  have HTL : Hid ((List.map (fun x => 32 :: x) (toksW 6 t.T)).flatten = 32 :: textW 6 ⟨t.T.K, t.T.N, t.T.A⟩) := by show _ = _; rw [tr_eta]; have h := toks_tail 6 _ _ hmT; simpa [Lib.joinTail] using h
  have hTK1 : 0 < t.T.K := tyK_pos hmT
  have htl : (textW 6 ⟨t.T.K, t.T.N, t.T.A⟩).length ≤ 180 := by have := textW_len _ _ _ HMT.out; omega
  clear hmT
  have HZ : Hid (t.Z = ⟨#[]⟩) := hZ
  clear hZ hnm
  clear hX hl3 hparts hK hN hm
  go_enter Tryd.func13, Tryd.ntmps13
  go_wp2_with fail
  rw [← HX.out]
  refine (lw_4 _).mono ?_
  rintro e w1 ⟨rfl, h1⟩
  have b1 : Below X.heap.size X w1 := h1
  have z1 : w.heap.size < w1.heap.size := by have := b1.size; omega
  obtain ⟨f10, f11, f12, f13, f14, f15, f16, f17, f18⟩ := Nine.box ((b1.block w.heap.size (by omega)).trans hX1)
  go_wp2_with fail
  refine (lt_any 6 D L B t.T.K t.T.N a1 l1 c1 t.T.A mT _ (by have := b1.size; omega) (hf.t1.below (hXb.trans (b1.mono (by omega))) hB) HMT.out (by omega)).mono ?_
  rintro e w2 ⟨rfl, h2⟩
  have b2 : Below X.heap.size X w2 := b1.trans (h2.mono b1.size)
  have z2 : w.heap.size < w2.heap.size := by have := b2.size; omega
  obtain ⟨f20, f21, f22, f23, f24, f25, f26, f27, f28⟩ := Nine.box ((b2.block w.heap.size (by omega)).trans hX1)
  go_wp2_with fail
  refine wp_loop_rounds 1 ?_
  rw [rounds_succ]
  go_wp2_with fail
  go_loopw [3, 5] (fun v i wr => ∃ (j : Nat), j ≤ l3 ∧ i = .int .i64 j ∧ v = .string ⟨(Lib.join (toksN l t j) [32]).toArray⟩ ∧ Below X.heap.size X wr) (fun _ i _ => l3 - (intOf i).toNat)
  case atStart => exact ⟨0, by omega, rfl, congrArg Value.string (str_head _ _ (by rw [toksN_zero, HK.out]; simp [headM, wordM, signM, sb, HZ.out, Lib.join_cons, Lib.joinTail, HTL.out])), by first | exact b2 | exact b2.alloc b2.size _⟩
  case round =>
    obtain ⟨j, hj, rfl, rfl, hbr⟩ := hrel
    have hszr := hbr.size
    obtain ⟨g0, g1, g2, g3, g4, g5, g6, g7, g8⟩ := Nine.box ((hbr.block w.heap.size (by omega)).trans hX1)
    have hbw : Below w.heap.size w wr := hXb.trans (hbr.mono (by omega))
    by_cases hlt : j < l3
    · have hlt' : j < t.A.length := by have := HL.out; omega
      obtain ⟨eb, eo, rfl, _, hebB, e1, m1, d1, e2, m2, d2, e3, m3, d3, h9, hfi⟩ := hf.m.get j hlt'
      obtain ⟨n0, n1, n2, n3, n4, n5, n6, n7, n8⟩ := h9.world (hbw.block eb (by omega))
      have hfi2 : Fm L B wr D (d - 1) t.A[j] e1 m1 e2 m2 e3 m3 := Fm.keep (fun q _ hq => hbw.block q (by omega)) (Nat.le_refl _) (Nat.le_refl _) hfi
      obtain ⟨a, ha⟩ := HP.out j hlt'
      have ha6 : a ≤ 1000 := Nat.le_trans (partM_le HM.out j hlt' ha) hm6
      have hx1 := Nat.le_trans (joinN_len HM.out j hlt') (Nat.mul_le_mul_left 2706 hm6)
      have HJ : Hid (Lib.join (toksN l t (j + 1)) [32] = Lib.join (toksN l t j) [32] ++ 32 :: Lib.join (toksM l t.A[j]) [32]) := join_part l t j a hlt' ha
      have HA : Hid (nodesM l t.A[j] = some a) := ha
      clear ha h9 hfi
      go_wp2_with fail
      refine (IH D (d - 1) L B t.A[j] e1 m1 d1 e2 m2 d2 e3 m3 d3 a wr (by omega) hfi2 HA.out ha6).mono ?_
      rintro e w8 ⟨rfl, hb8⟩
      have hbr2 : Below X.heap.size X w8 := hbr.trans (hb8.mono (by omega))
      clear n0 n1 n2 n3 n4 n5 n6 n7 n8
      go_wp2_with fail
      go_roundw
      case rel => exact ⟨j + 1, by omega, by go_num, by rw [HJ.out, ← str_three], hbr2⟩
      case measure => simp [intOf]; omega
    · have HE : Hid (toksN l t j = toksM (l + 1) t) := toksN_all l t j (by have := HL.out; omega)
      go_wp2_with fail
      go_ret
      exact ⟨by rw [← HE.out]; rfl, hbw⟩

set_option maxRecDepth 100000 in
set_option maxHeartbeats 2000000 in
theorem lx_5 (l : Nat) (IH : SaidLX l) (D d L B : Nat) (t : Tm) (a1 : Option Addr) (l1 c1 : Nat) (a2 : Option Addr) (l2 c2 : Nat) (a3 : Option Addr) (l3 c3 : Nat) (m : Nat) (w : World) (hB : B ≤ w.heap.size) (hf : Fm L B w D d t a1 l1 a2 l2 a3 l3) (hm : nodesM (l + 1) t = some m) (hm6 : m ≤ 1000) (hK : t.K = 5) :
    Calls Tryd.prog 13 #[.agg #[.int .i64 t.K, .int .i64 t.N, .string t.S, .string t.Z, .int .i64 t.T.K, .int .i64 t.T.N, .slice a1 l1 c1, .slice a2 l2 c2, .slice a3 l3 c3]] w fun e w' => e = .returned (.string ⟨(Lib.join (toksM (l + 1) t) [32]).toArray⟩) ∧ Below w.heap.size w w' := by
  obtain ⟨hN, _⟩ := nodesM_inv2 hm
  obtain ⟨_, hparts⟩ := nodesM_inv hm
  obtain ⟨hl3, hl3m⟩ := hf.m.len
  have hnm := hN.nm
  rw [hK] at hnm
  have hnm : isNil t.S = true ∧ isNil t.Z = true := by simpa [namesB, shN] using hnm
  have hS := nil_of hnm.1
  have hZ := nil_of hnm.2
  have hTK : t.T.K = 0 := hN.zt (by rw [hK]; rfl)
  have hl2 : l2 = 0 := by
    have h1 := hf.t2.len.1
    have h2 := hN.ts
    rw [hK] at h2
    have h3 : (t.Ts.length : Int) ≤ 0 := h2
    omega
  subst hl2
  rw [hK, hS, hZ, hTK]
  obtain ⟨X, hX⟩ : ∃ X, X = w.alloc (.cells #[.int .i64 5, .int .i64 t.N, .string ⟨#[]⟩, .string ⟨#[]⟩, .int .i64 0, .int .i64 t.T.N, .slice a1 l1 c1, .slice a2 0 c2, .slice a3 l3 c3] 35) := ⟨_, rfl⟩
  have hXs : X.heap.size = w.heap.size + 1 := by rw [hX]; simp
  have hXb : Below w.heap.size w X := by rw [hX]; exact (Below.refl _ _).alloc (Nat.le_refl _) _
  have hX1 : X.heap[w.heap.size]? = some (.cells #[.int .i64 5, .int .i64 t.N, .string ⟨#[]⟩, .string ⟨#[]⟩, .int .i64 0, .int .i64 t.T.N, .slice a1 l1 c1, .slice a2 0 c2, .slice a3 l3 c3] 35 (0, 0)) := by rw [hX]; exact heap_new rfl
  have HX : Hid (X = _) := hX
  have HL : Hid (l3 = t.A.length) := hl3
  have HP : Hid (∀ j (hj : j < t.A.length), ∃ a, nodesM l t.A[j] = some a) := hparts
  have HK : Hid (t.K = 5) := hK
  have HN : Hid (NodeIs t) := hN
  have HM : Hid (nodesM (l + 1) t = some m) := hm
  have hwl : (wordM 5).length = 3 := rfl
  have HS : Hid (t.S = ⟨#[]⟩) := hS
  have HZ : Hid (t.Z = ⟨#[]⟩) := hZ
  clear hS hZ hnm
  clear hTK
  clear hX hl3 hparts hK hN hm
  go_enter Tryd.func13, Tryd.ntmps13
  go_wp2_with fail
  rw [← HX.out]
  refine (lw_5 _).mono ?_
  rintro e w1 ⟨rfl, h1⟩
  have b1 : Below X.heap.size X w1 := h1
  have z1 : w.heap.size < w1.heap.size := by have := b1.size; omega
  obtain ⟨f10, f11, f12, f13, f14, f15, f16, f17, f18⟩ := Nine.box ((b1.block w.heap.size (by omega)).trans hX1)
  go_wp2_with fail
  refine wp_loop_rounds 1 ?_
  rw [rounds_succ]
  go_wp2_with fail
  go_loopw [3, 5] (fun v i wr => ∃ (j : Nat), j ≤ l3 ∧ i = .int .i64 j ∧ v = .string ⟨(Lib.join (toksN l t j) [32]).toArray⟩ ∧ Below X.heap.size X wr) (fun _ i _ => l3 - (intOf i).toNat)
  case atStart => exact ⟨0, by omega, rfl, congrArg Value.string (str_head _ _ (by rw [toksN_zero, HK.out]; simp [headM, wordM, signM, sb, Lib.join_cons, Lib.joinTail])), by first | exact b1 | exact b1.alloc b1.size _⟩
  case round =>
    obtain ⟨j, hj, rfl, rfl, hbr⟩ := hrel
    have hszr := hbr.size
    obtain ⟨g0, g1, g2, g3, g4, g5, g6, g7, g8⟩ := Nine.box ((hbr.block w.heap.size (by omega)).trans hX1)
    have hbw : Below w.heap.size w wr := hXb.trans (hbr.mono (by omega))
    by_cases hlt : j < l3
    · have hlt' : j < t.A.length := by have := HL.out; omega
      obtain ⟨eb, eo, rfl, _, hebB, e1, m1, d1, e2, m2, d2, e3, m3, d3, h9, hfi⟩ := hf.m.get j hlt'
      obtain ⟨n0, n1, n2, n3, n4, n5, n6, n7, n8⟩ := h9.world (hbw.block eb (by omega))
      have hfi2 : Fm L B wr D (d - 1) t.A[j] e1 m1 e2 m2 e3 m3 := Fm.keep (fun q _ hq => hbw.block q (by omega)) (Nat.le_refl _) (Nat.le_refl _) hfi
      obtain ⟨a, ha⟩ := HP.out j hlt'
      have ha6 : a ≤ 1000 := Nat.le_trans (partM_le HM.out j hlt' ha) hm6
      have hx1 := Nat.le_trans (joinN_len HM.out j hlt') (Nat.mul_le_mul_left 2706 hm6)
      have HJ : Hid (Lib.join (toksN l t (j + 1)) [32] = Lib.join (toksN l t j) [32] ++ 32 :: Lib.join (toksM l t.A[j]) [32]) := join_part l t j a hlt' ha
      have HA : Hid (nodesM l t.A[j] = some a) := ha
      clear ha h9 hfi
      go_wp2_with fail
      refine (IH D (d - 1) L B t.A[j] e1 m1 d1 e2 m2 d2 e3 m3 d3 a wr (by omega) hfi2 HA.out ha6).mono ?_
      rintro e w8 ⟨rfl, hb8⟩
      have hbr2 : Below X.heap.size X w8 := hbr.trans (hb8.mono (by omega))
      clear n0 n1 n2 n3 n4 n5 n6 n7 n8
      go_wp2_with fail
      go_roundw
      case rel => exact ⟨j + 1, by omega, by go_num, by rw [HJ.out, ← str_three], hbr2⟩
      case measure => simp [intOf]; omega
    · have HE : Hid (toksN l t j = toksM (l + 1) t) := toksN_all l t j (by have := HL.out; omega)
      go_wp2_with fail
      go_ret
      exact ⟨by rw [← HE.out]; rfl, hbw⟩

end Go.Proofs.YtjikcckggifinaaDoor
