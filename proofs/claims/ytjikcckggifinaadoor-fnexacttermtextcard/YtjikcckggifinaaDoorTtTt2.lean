/-
  'tyTokens' and the rows that grow, with all that stays as it was.
-/
import Derived.Test.YtjikcckggifinaaDoorTtZ13
namespace Go.Proofs.YtjikcckggifinaaDoor
open Go.RowKit
set_option linter.unusedVariables false
set_option linter.unusedSimpArgs false

/-- Nothing has changed but what the row owned; what it owns now it had, or is new. -/
structure Kt (vo : Value) (w : World) (vo' : Value) (w' : World) : Prop where
  os : w'.os = w.os
  tape : w'.tape = w.tape
  output : w'.output = w.output
  size : w.heap.size ≤ w'.heap.size
  block : ∀ k, k < w.heap.size → vo.ownBlock ≠ some k → w'.heap[k]? = w.heap[k]?
  own : ∀ k, vo'.ownBlock = some k → (vo.ownBlock = some k ∨ w.heap.size ≤ k)

theorem Kt.trans {vo vo' vo'' : Value} {w w' w'' : World} (h : Kt vo w vo' w') (k : Kt vo' w' vo'' w'') : Kt vo w vo'' w'' := by
  refine ⟨k.os.trans h.os, k.tape.trans h.tape, k.output.trans h.output, Nat.le_trans h.size k.size, fun i hi h1 => ?_, fun i hi => ?_⟩
  · exact (k.block i (Nat.lt_of_lt_of_le hi h.size) (fun e => by rcases h.own i e with e | e; exact h1 e; omega)).trans (h.block i hi h1)
  · rcases k.own i hi with e | e
    · exact h.own i e
    · exact Or.inr (Nat.le_trans h.size e)
theorem Kt.of_below {vo : Value} {w w' : World} (h : Below w.heap.size w w') : Kt vo w vo w' :=
  ⟨h.os, h.tape, h.output, h.size, fun k hk _ => h.block k hk, fun k hk => Or.inl hk⟩
theorem kt_grown {vo : Value} {w W w2 : World} {g n cap : Nat} (hW : Below w.heap.size w W) (hg : W.grownBy w2 vo.ownBlock) (hat : vo.ownBlock = some g ∨ g = W.heap.size) : Kt vo w (.slice (some ⟨g, 0, none⟩) n cap) w2 := by
  have hz := hW.size
  refine ⟨hg.os.trans hW.os, hg.tape.trans hW.tape, hg.output.trans hW.output, Nat.le_trans hW.size hg.size, fun k hk hne => (hg.block k (by omega) (fun e => hne e.symm)).trans (hW.block k hk), fun k hk => ?_⟩
  have e : g = k := by simpa [Value.ownBlock] using hk
  subst e
  rcases hat with e | e
  · exact Or.inl e
  · exact Or.inr (by omega)

theorem toks_in {base : Nat} {w : World} {v : Value} {P : List (List UInt8)} (h : Toks base w v P) {k : Nat} (e : v.ownBlock = some k) : base ≤ k ∧ k < w.heap.size := by
  rcases h.2 with ⟨rfl, _⟩ | ⟨g, cap, cur, rfl, hg, hh, r⟩
  · cases e
  · have e : g = k := by simpa [Value.ownBlock] using e
    subst e
    exact ⟨hg, (Array.getElem?_eq_some_iff.1 hh).1⟩
theorem Kt.below {base : Nat} {vo vo' : Value} {w w' : World} {Fr : List (List UInt8)} (h : Kt vo w vo' w') (ht : Toks base w vo Fr) (hb : base ≤ w.heap.size) : Below base w w' :=
  ⟨h.os, h.tape, h.output, h.size, fun k hk => h.block k (by omega) (fun e => by have := (toks_in ht e).1; omega)⟩

theorem step_run2 {P : Program} {ops : Array Oper} {o : Oper} {a : Act} {W w2 : World} {K : Act → World → Prop} {Q : Exit → Act → World → Prop} {E : Prop} {t ty : TypeId} {v u r : Value} (hrun : (Builtin.append_ #[t, t] ty #[v, u]).run P W = .ok r w2) (hgd : o.guard = none) (s x : Operand)
    (ho : o.op = .call { callee := .builtin .append, args := #[s, x], argTypes := #[t, t] }) (hty : o.type = ty) (hs : a.eval s = v) (hx : a.eval x = u) (h : K (a.put o.dst r) w2) :
    if Region.wanted o (yielded ops a.tmps) = true then Oper.wp P o a W K Q else E := by
  have hw : Region.wanted o (yielded ops a.tmps) = true := by simp [Region.wanted, hgd]
  rw [if_pos hw]
  unfold Oper.wp execOp
  simp only [ho, hty, resolve, invoke, builtin, Sem.run_bind, Sem.run_pure, Result.andThen_ok, List.map_toArray, List.map_cons, List.map_nil, hs, hx, hrun]
  exact h

/-- New tokens behind those that are there. -/
theorem toks_more3 {base : Nat} {wr : World} {v : Value} {P : List (List UInt8)} (h : Toks base wr v P) (hb : base ≤ wr.heap.size) (N : List (List UInt8)) (hN : 0 < N.length) (hl : P.length + N.length ≤ 1048577) (M : Array Value) (hM : M.toList = N.map tk) (nN : Nat) (hnN : nN = N.length) (nP : Nat) (hnP : nP = P.length) :
    ∃ g cap w2, (Builtin.append_ #[47, 47] 47 #[v, .slice (some ⟨wr.heap.size, 0, none⟩) nN nN]).run Tryd.prog (wr.alloc (.cells M 9)) = .ok (.slice (some ⟨g, 0, none⟩) (nP + nN) cap) w2 ∧
      Toks base w2 (.slice (some ⟨g, 0, none⟩) (nP + nN) cap) (P ++ N) ∧ Kt v wr (.slice (some ⟨g, 0, none⟩) (nP + nN) cap) w2 := by
  subst hnN
  subst hnP
  obtain ⟨i0, hi, hz0, hz1, hz2⟩ := info_parts Tryd.infoStr
  have hA : Below wr.heap.size wr (wr.alloc (.cells M 9)) := (Below.refl _ _).alloc (Nat.le_refl _) _
  have h1 : Toks base (wr.alloc (.cells M 9)) v P := toks_below h hA
  obtain ⟨g, cap, w2, hrun, hown2, hgrow, hat, hlt⟩ := run_append_lies (P := Tryd.prog) (wr.alloc (.cells M 9)) 47 47 base 9 i0 _ 1 16 Tryd.underlying47 hi hz0 hz1 hz2 rfl (by omega) v P.length _ h1
    ⟨wr.heap.size, 0, none⟩ N.length N.length (N.map tk) (by simp) (by rw [← hM]; exact World.news_of_block (cs := M) (t := 9) (fr := (0, 0)) (heap_alloc_new wr _)) (by intro u hu; obtain ⟨l, _, rfl⟩ := List.mem_map.1 hu; rfl)
    hN (by unfold maxLen; omega) (by omega) (by simp; omega) _ rfl
  refine ⟨g, cap, w2, hrun, ?_, kt_grown hA hgrow hat⟩
  unfold Toks
  rw [List.length_append, List.map_append]
  exact hown2

/-- Behind P the tokens of a type. -/
def SaidTK (l : Nat) : Prop := ∀ (d L B base : Nat) (v : Value) (P : List (List UInt8)) (k n : Int) (ao : Option Addr) (len cap : Nat) (ts : List Tr) (m : Nat) (w : World), B ≤ base → base ≤ w.heap.size → Hs L B w d ao len ts → nodesW l ⟨k, n, ts⟩ = some m → Toks base w v P → P.length + m ≤ 1048576 →
    Calls Tryd.prog 36 #[v, .agg #[.int .i64 k, .int .i64 n, .slice ao len cap]] w fun e w' => ∃ v' : Value, e = .returned v' ∧ Below base w w' ∧ Toks base w' v' (P ++ toksW l ⟨k, n, ts⟩) ∧ Kt v w v' w'

theorem tk_zero : SaidTK 0 := by
  intro d L B base v P k n ao len cap ts m w hB hb hs hm
  simp [nodesW] at hm

set_option maxRecDepth 100000 in
set_option maxHeartbeats 2000000 in
theorem tk_succ (l : Nat) (IH : SaidTK l) : SaidTK (l + 1) := by
  intro d L B base v P k n ao len cap ts m w hB hb hs hm hT hP
  have hl := hs.len.2
  have HL : Hid (len = ts.length) := hs.len.1
  obtain ⟨hok, hparts⟩ := nodesW_inv hm
  have hm1 : 1 ≤ m := nodesW_pos _ _ _ hm
  obtain ⟨ao', cap', rfl⟩ := toks_form1 hT
  have HM : Hid (∀ j (hj : j < ts.length), (toksTo l k n ts j).length + (toksW l ts[j]).length ≤ m) := fun j hj => toksTo_len hm j hj
  have HN : Hid (∀ j (hj : j < ts.length), ∃ a, nodesW l ts[j] = some a) := hparts
  obtain ⟨X, hX⟩ : ∃ X, X = w.alloc (.cells #[.int .i64 k, .int .i64 n, .slice ao len cap] 32) := ⟨_, rfl⟩
  have hXs : X.heap.size = w.heap.size + 1 := by rw [hX]; simp
  have hXb : Below w.heap.size w X := by rw [hX]; exact (Below.refl _ _).alloc (Nat.le_refl _) _
  have hXT := toks_below hT hXb
  obtain ⟨g, cap2, w2, hrun, hT2, hkt⟩ := toks_more3 hXT (by omega) [tokOf k n] (by simp) (by simp; omega) #[tk (tokOf k n)] rfl 1 rfl P.length rfl
  have hb2 := hkt.below hXT (by omega)
  have hk2 := (Kt.of_below hXb).trans hkt
  have hkp := hkt.block
  have hbw2 : Below base w w2 := (hXb.mono hb).trans hb2
  have HX : Hid (X = _) := hX
  have hcX : X.heap[w.heap.size]? = some (.cells #[.int .i64 k, .int .i64 n, .slice ao len cap] 32 (0, 0)) := by rw [hX]; exact heap_new rfl
  have hc2 := (hkp w.heap.size (by omega) (toks_own1 hT)).trans hcX
  have hz2 := hb2.size
  have HK := kn_cases hok
  obtain ⟨x0, x1, x2⟩ := box_cells hcX
  obtain ⟨c0, c1, c2⟩ := box_cells hc2
  have HT2 : Hid (Toks base w2 (.slice (some ⟨g, 0, none⟩) (P.length + 1) cap2) (P ++ toksTo l k n ts 0)) := by show Toks _ _ _ _; rw [toksTo_zero]; exact hT2
  have HXS : Hid (X.heap.size = w.heap.size + 1) := hXs
  clear hkt hX hparts hok hkp hcX hc2 hT hXT hm hT2 hXs hXb hb2 x1
  rcases HK with rfl | rfl | ⟨rfl, rfl⟩ | ⟨rfl, rfl⟩ | rfl | rfl | rfl
  · have HR : Hid ((Builtin.append_ #[47, 47] 47 #[.slice ao' P.length cap', .slice (some ⟨w.heap.size + 1, 0, none⟩) 1 1]).run Tryd.prog ((w.alloc (.cells #[.int .i64 1, .int .i64 n, .slice ao len cap] 32)).alloc (.cells #[.string ⟨#[105]⟩] 9)) = .ok (.slice (some ⟨g, 0, none⟩) (P.length + 1) cap2) w2) := by
      show _ = _
      rw [← HXS.out, ← HX.out]
      exact hrun
    clear hrun
    go_enter Tryd.func36, Tryd.ntmps36
    go_wp2_with (first | (at_builtin; refine list_run HR.out (by rfl) _ _ (by rfl) (by rfl) (by rfl) (by rfl) ?_))
    go_loopw [0, 46] (fun v i wr => ∃ (j : Nat), j ≤ len ∧ i = .int .i64 j ∧ Toks base wr v (P ++ toksTo l 1 n ts j) ∧ Below base w wr ∧ Kt (.slice ao' P.length cap') w v wr) (fun _ i _ => len - (intOf i).toNat)
    case atStart => exact ⟨0, by omega, rfl, HT2.out, hbw2, hk2⟩
    case round =>
      obtain ⟨j, hj, rfl, hTr, hbr, hkr⟩ := hrel
      have hszr := hbr.size
      by_cases hlt : j < len
      · have hlt' : j < ts.length := by have := HL.out; omega
        obtain ⟨b, o, rfl, _, hbB, ao1, len1, cap1, e0, e1, e2, hs1⟩ := hs.get j hlt'
        have y0 := (hbr.cell (p := ⟨b, o + j * 3, none⟩) (by show b < base; omega)).trans e0
        have y1 := (hbr.cell (p := ⟨b, o + j * 3 + 1, none⟩) (by show b < base; omega)).trans e1
        have y2 := (hbr.cell (p := ⟨b, o + j * 3 + 2, none⟩) (by show b < base; omega)).trans e2
        clear e0 e1 e2
        obtain ⟨a, ha⟩ := HN.out j hlt'
        have HA : Hid (nodesW l ⟨ts[j].K, ts[j].N, ts[j].A⟩ = some a) := by show _ = _; rw [tr_eta]; exact ha
        have HS : Hid (toksTo l 1 n ts (j + 1) = toksTo l 1 n ts j ++ toksW l ts[j]) := toksTo_succ l 1 n ts j hlt'
        have HPL : Hid ((P ++ toksTo l 1 n ts j).length + a ≤ 1048576) := by
          have h1 := HM.out j hlt'
          have h2 := toks_len _ _ _ ha
          show _ ≤ _
          rw [List.length_append]
          omega
        clear ha
        have hA : Below wr.heap.size wr (wr.alloc (.cells #[.int .i64 ts[j].K, .int .i64 ts[j].N, .slice ao1 len1 cap1] 32)) := (Below.refl _ _).alloc (Nat.le_refl _) _
        have hbA : Below base w (wr.alloc (.cells #[.int .i64 ts[j].K, .int .i64 ts[j].N, .slice ao1 len1 cap1] 32)) := hbr.trans (hA.mono (by omega))
        have hs2 : Hs L B (wr.alloc (.cells #[.int .i64 ts[j].K, .int .i64 ts[j].N, .slice ao1 len1 cap1] 32)) (d - 1) ao1 len1 ts[j].A := hs1.keep (fun q _ hq => hbA.block q (by omega)) (Nat.le_refl _) (Nat.le_refl _)
        have hT3 := toks_below hTr hA
        go_wp2_with fail
        refine (IH (d - 1) L B base _ _ _ _ _ _ _ _ a _ hB (by simp; omega) hs2 HA.out hT3 HPL.out).mono ?_
        rintro e w5 ⟨v5, rfl, hb5, hT5, hk5⟩
        have hk6 := (hkr.trans (Kt.of_below hA)).trans hk5
        rw [tr_eta] at hT5
        have hT6 : Hid (Toks base w5 v5 (P ++ toksTo l 1 n ts (j + 1))) := by show Toks _ _ _ _; rw [HS.out, ← List.append_assoc]; exact hT5
        have hb6 : Below base w w5 := hbA.trans hb5
        clear hk5 hT5 hb5 hT3 hs2 hA hbA y0 y1 y2
        go_wp2_with fail
        go_roundw
        case rel => exact ⟨j + 1, by omega, by go_num, hT6.out, hb6, hk6⟩
        case measure => simp [intOf]; omega
      · have HE : Hid (toksTo l 1 n ts j = toksW (l + 1) ⟨1, n, ts⟩) := toksTo_all l _ _ ts j (by have := HL.out; omega)
        go_wp2_with fail
        go_ret
        exact ⟨_, rfl, hbr, by rw [← HE.out]; exact hTr, hkr⟩
  · have HR : Hid ((Builtin.append_ #[47, 47] 47 #[.slice ao' P.length cap', .slice (some ⟨w.heap.size + 1, 0, none⟩) 1 1]).run Tryd.prog ((w.alloc (.cells #[.int .i64 2, .int .i64 n, .slice ao len cap] 32)).alloc (.cells #[.string ⟨#[98]⟩] 9)) = .ok (.slice (some ⟨g, 0, none⟩) (P.length + 1) cap2) w2) := by
      show _ = _
      rw [← HXS.out, ← HX.out]
      exact hrun
    clear hrun
    go_enter Tryd.func36, Tryd.ntmps36
    go_wp2_with (first | (at_builtin; refine list_run HR.out (by rfl) _ _ (by rfl) (by rfl) (by rfl) (by rfl) ?_))
    go_loopw [0, 46] (fun v i wr => ∃ (j : Nat), j ≤ len ∧ i = .int .i64 j ∧ Toks base wr v (P ++ toksTo l 2 n ts j) ∧ Below base w wr ∧ Kt (.slice ao' P.length cap') w v wr) (fun _ i _ => len - (intOf i).toNat)
    case atStart => exact ⟨0, by omega, rfl, HT2.out, hbw2, hk2⟩
    case round =>
      obtain ⟨j, hj, rfl, hTr, hbr, hkr⟩ := hrel
      have hszr := hbr.size
      by_cases hlt : j < len
      · have hlt' : j < ts.length := by have := HL.out; omega
        obtain ⟨b, o, rfl, _, hbB, ao1, len1, cap1, e0, e1, e2, hs1⟩ := hs.get j hlt'
        have y0 := (hbr.cell (p := ⟨b, o + j * 3, none⟩) (by show b < base; omega)).trans e0
        have y1 := (hbr.cell (p := ⟨b, o + j * 3 + 1, none⟩) (by show b < base; omega)).trans e1
        have y2 := (hbr.cell (p := ⟨b, o + j * 3 + 2, none⟩) (by show b < base; omega)).trans e2
        clear e0 e1 e2
        obtain ⟨a, ha⟩ := HN.out j hlt'
        have HA : Hid (nodesW l ⟨ts[j].K, ts[j].N, ts[j].A⟩ = some a) := by show _ = _; rw [tr_eta]; exact ha
        have HS : Hid (toksTo l 2 n ts (j + 1) = toksTo l 2 n ts j ++ toksW l ts[j]) := toksTo_succ l 2 n ts j hlt'
        have HPL : Hid ((P ++ toksTo l 2 n ts j).length + a ≤ 1048576) := by
          have h1 := HM.out j hlt'
          have h2 := toks_len _ _ _ ha
          show _ ≤ _
          rw [List.length_append]
          omega
        clear ha
        have hA : Below wr.heap.size wr (wr.alloc (.cells #[.int .i64 ts[j].K, .int .i64 ts[j].N, .slice ao1 len1 cap1] 32)) := (Below.refl _ _).alloc (Nat.le_refl _) _
        have hbA : Below base w (wr.alloc (.cells #[.int .i64 ts[j].K, .int .i64 ts[j].N, .slice ao1 len1 cap1] 32)) := hbr.trans (hA.mono (by omega))
        have hs2 : Hs L B (wr.alloc (.cells #[.int .i64 ts[j].K, .int .i64 ts[j].N, .slice ao1 len1 cap1] 32)) (d - 1) ao1 len1 ts[j].A := hs1.keep (fun q _ hq => hbA.block q (by omega)) (Nat.le_refl _) (Nat.le_refl _)
        have hT3 := toks_below hTr hA
        go_wp2_with fail
        refine (IH (d - 1) L B base _ _ _ _ _ _ _ _ a _ hB (by simp; omega) hs2 HA.out hT3 HPL.out).mono ?_
        rintro e w5 ⟨v5, rfl, hb5, hT5, hk5⟩
        have hk6 := (hkr.trans (Kt.of_below hA)).trans hk5
        rw [tr_eta] at hT5
        have hT6 : Hid (Toks base w5 v5 (P ++ toksTo l 2 n ts (j + 1))) := by show Toks _ _ _ _; rw [HS.out, ← List.append_assoc]; exact hT5
        have hb6 : Below base w w5 := hbA.trans hb5
        clear hk5 hT5 hb5 hT3 hs2 hA hbA y0 y1 y2
        go_wp2_with fail
        go_roundw
        case rel => exact ⟨j + 1, by omega, by go_num, hT6.out, hb6, hk6⟩
        case measure => simp [intOf]; omega
      · have HE : Hid (toksTo l 2 n ts j = toksW (l + 1) ⟨2, n, ts⟩) := toksTo_all l _ _ ts j (by have := HL.out; omega)
        go_wp2_with fail
        go_ret
        exact ⟨_, rfl, hbr, by rw [← HE.out]; exact hTr, hkr⟩
  · have HR : Hid ((Builtin.append_ #[47, 47] 47 #[.slice ao' P.length cap', .slice (some ⟨w.heap.size + 1, 0, none⟩) 1 1]).run Tryd.prog ((w.alloc (.cells #[.int .i64 3, .int .i64 0, .slice ao len cap] 32)).alloc (.cells #[.string ⟨#[118, 48]⟩] 9)) = .ok (.slice (some ⟨g, 0, none⟩) (P.length + 1) cap2) w2) := by
      show _ = _
      rw [← HXS.out, ← HX.out]
      exact hrun
    clear hrun
    go_enter Tryd.func36, Tryd.ntmps36
    go_wp2_with (first | (at_builtin; refine list_run HR.out (by rfl) _ _ (by rfl) (by rfl) (by rfl) (by rfl) ?_) | (go_at_call 35; refine (itoa_0 _).mono ?_; rintro e w' ⟨rfl, rfl⟩))
    go_loopw [0, 46] (fun v i wr => ∃ (j : Nat), j ≤ len ∧ i = .int .i64 j ∧ Toks base wr v (P ++ toksTo l 3 0 ts j) ∧ Below base w wr ∧ Kt (.slice ao' P.length cap') w v wr) (fun _ i _ => len - (intOf i).toNat)
    case atStart => exact ⟨0, by omega, rfl, HT2.out, hbw2, hk2⟩
    case round =>
      obtain ⟨j, hj, rfl, hTr, hbr, hkr⟩ := hrel
      have hszr := hbr.size
      by_cases hlt : j < len
      · have hlt' : j < ts.length := by have := HL.out; omega
        obtain ⟨b, o, rfl, _, hbB, ao1, len1, cap1, e0, e1, e2, hs1⟩ := hs.get j hlt'
        have y0 := (hbr.cell (p := ⟨b, o + j * 3, none⟩) (by show b < base; omega)).trans e0
        have y1 := (hbr.cell (p := ⟨b, o + j * 3 + 1, none⟩) (by show b < base; omega)).trans e1
        have y2 := (hbr.cell (p := ⟨b, o + j * 3 + 2, none⟩) (by show b < base; omega)).trans e2
        clear e0 e1 e2
        obtain ⟨a, ha⟩ := HN.out j hlt'
        have HA : Hid (nodesW l ⟨ts[j].K, ts[j].N, ts[j].A⟩ = some a) := by show _ = _; rw [tr_eta]; exact ha
        have HS : Hid (toksTo l 3 0 ts (j + 1) = toksTo l 3 0 ts j ++ toksW l ts[j]) := toksTo_succ l 3 0 ts j hlt'
        have HPL : Hid ((P ++ toksTo l 3 0 ts j).length + a ≤ 1048576) := by
          have h1 := HM.out j hlt'
          have h2 := toks_len _ _ _ ha
          show _ ≤ _
          rw [List.length_append]
          omega
        clear ha
        have hA : Below wr.heap.size wr (wr.alloc (.cells #[.int .i64 ts[j].K, .int .i64 ts[j].N, .slice ao1 len1 cap1] 32)) := (Below.refl _ _).alloc (Nat.le_refl _) _
        have hbA : Below base w (wr.alloc (.cells #[.int .i64 ts[j].K, .int .i64 ts[j].N, .slice ao1 len1 cap1] 32)) := hbr.trans (hA.mono (by omega))
        have hs2 : Hs L B (wr.alloc (.cells #[.int .i64 ts[j].K, .int .i64 ts[j].N, .slice ao1 len1 cap1] 32)) (d - 1) ao1 len1 ts[j].A := hs1.keep (fun q _ hq => hbA.block q (by omega)) (Nat.le_refl _) (Nat.le_refl _)
        have hT3 := toks_below hTr hA
        go_wp2_with fail
        refine (IH (d - 1) L B base _ _ _ _ _ _ _ _ a _ hB (by simp; omega) hs2 HA.out hT3 HPL.out).mono ?_
        rintro e w5 ⟨v5, rfl, hb5, hT5, hk5⟩
        have hk6 := (hkr.trans (Kt.of_below hA)).trans hk5
        rw [tr_eta] at hT5
        have hT6 : Hid (Toks base w5 v5 (P ++ toksTo l 3 0 ts (j + 1))) := by show Toks _ _ _ _; rw [HS.out, ← List.append_assoc]; exact hT5
        have hb6 : Below base w w5 := hbA.trans hb5
        clear hk5 hT5 hb5 hT3 hs2 hA hbA y0 y1 y2
        go_wp2_with fail
        go_roundw
        case rel => exact ⟨j + 1, by omega, by go_num, hT6.out, hb6, hk6⟩
        case measure => simp [intOf]; omega
      · have HE : Hid (toksTo l 3 0 ts j = toksW (l + 1) ⟨3, 0, ts⟩) := toksTo_all l _ _ ts j (by have := HL.out; omega)
        go_wp2_with fail
        go_ret
        exact ⟨_, rfl, hbr, by rw [← HE.out]; exact hTr, hkr⟩
  · have HR : Hid ((Builtin.append_ #[47, 47] 47 #[.slice ao' P.length cap', .slice (some ⟨w.heap.size + 1, 0, none⟩) 1 1]).run Tryd.prog ((w.alloc (.cells #[.int .i64 3, .int .i64 1, .slice ao len cap] 32)).alloc (.cells #[.string ⟨#[118, 49]⟩] 9)) = .ok (.slice (some ⟨g, 0, none⟩) (P.length + 1) cap2) w2) := by
      show _ = _
      rw [← HXS.out, ← HX.out]
      exact hrun
    clear hrun
    go_enter Tryd.func36, Tryd.ntmps36
    go_wp2_with (first | (at_builtin; refine list_run HR.out (by rfl) _ _ (by rfl) (by rfl) (by rfl) (by rfl) ?_) | (go_at_call 35; refine (itoa_1 _).mono ?_; rintro e w' ⟨rfl, rfl⟩))
    go_loopw [0, 46] (fun v i wr => ∃ (j : Nat), j ≤ len ∧ i = .int .i64 j ∧ Toks base wr v (P ++ toksTo l 3 1 ts j) ∧ Below base w wr ∧ Kt (.slice ao' P.length cap') w v wr) (fun _ i _ => len - (intOf i).toNat)
    case atStart => exact ⟨0, by omega, rfl, HT2.out, hbw2, hk2⟩
    case round =>
      obtain ⟨j, hj, rfl, hTr, hbr, hkr⟩ := hrel
      have hszr := hbr.size
      by_cases hlt : j < len
      · have hlt' : j < ts.length := by have := HL.out; omega
        obtain ⟨b, o, rfl, _, hbB, ao1, len1, cap1, e0, e1, e2, hs1⟩ := hs.get j hlt'
        have y0 := (hbr.cell (p := ⟨b, o + j * 3, none⟩) (by show b < base; omega)).trans e0
        have y1 := (hbr.cell (p := ⟨b, o + j * 3 + 1, none⟩) (by show b < base; omega)).trans e1
        have y2 := (hbr.cell (p := ⟨b, o + j * 3 + 2, none⟩) (by show b < base; omega)).trans e2
        clear e0 e1 e2
        obtain ⟨a, ha⟩ := HN.out j hlt'
        have HA : Hid (nodesW l ⟨ts[j].K, ts[j].N, ts[j].A⟩ = some a) := by show _ = _; rw [tr_eta]; exact ha
        have HS : Hid (toksTo l 3 1 ts (j + 1) = toksTo l 3 1 ts j ++ toksW l ts[j]) := toksTo_succ l 3 1 ts j hlt'
        have HPL : Hid ((P ++ toksTo l 3 1 ts j).length + a ≤ 1048576) := by
          have h1 := HM.out j hlt'
          have h2 := toks_len _ _ _ ha
          show _ ≤ _
          rw [List.length_append]
          omega
        clear ha
        have hA : Below wr.heap.size wr (wr.alloc (.cells #[.int .i64 ts[j].K, .int .i64 ts[j].N, .slice ao1 len1 cap1] 32)) := (Below.refl _ _).alloc (Nat.le_refl _) _
        have hbA : Below base w (wr.alloc (.cells #[.int .i64 ts[j].K, .int .i64 ts[j].N, .slice ao1 len1 cap1] 32)) := hbr.trans (hA.mono (by omega))
        have hs2 : Hs L B (wr.alloc (.cells #[.int .i64 ts[j].K, .int .i64 ts[j].N, .slice ao1 len1 cap1] 32)) (d - 1) ao1 len1 ts[j].A := hs1.keep (fun q _ hq => hbA.block q (by omega)) (Nat.le_refl _) (Nat.le_refl _)
        have hT3 := toks_below hTr hA
        go_wp2_with fail
        refine (IH (d - 1) L B base _ _ _ _ _ _ _ _ a _ hB (by simp; omega) hs2 HA.out hT3 HPL.out).mono ?_
        rintro e w5 ⟨v5, rfl, hb5, hT5, hk5⟩
        have hk6 := (hkr.trans (Kt.of_below hA)).trans hk5
        rw [tr_eta] at hT5
        have hT6 : Hid (Toks base w5 v5 (P ++ toksTo l 3 1 ts (j + 1))) := by show Toks _ _ _ _; rw [HS.out, ← List.append_assoc]; exact hT5
        have hb6 : Below base w w5 := hbA.trans hb5
        clear hk5 hT5 hb5 hT3 hs2 hA hbA y0 y1 y2
        go_wp2_with fail
        go_roundw
        case rel => exact ⟨j + 1, by omega, by go_num, hT6.out, hb6, hk6⟩
        case measure => simp [intOf]; omega
      · have HE : Hid (toksTo l 3 1 ts j = toksW (l + 1) ⟨3, 1, ts⟩) := toksTo_all l _ _ ts j (by have := HL.out; omega)
        go_wp2_with fail
        go_ret
        exact ⟨_, rfl, hbr, by rw [← HE.out]; exact hTr, hkr⟩
  · have HR : Hid ((Builtin.append_ #[47, 47] 47 #[.slice ao' P.length cap', .slice (some ⟨w.heap.size + 1, 0, none⟩) 1 1]).run Tryd.prog ((w.alloc (.cells #[.int .i64 4, .int .i64 n, .slice ao len cap] 32)).alloc (.cells #[.string ⟨#[102]⟩] 9)) = .ok (.slice (some ⟨g, 0, none⟩) (P.length + 1) cap2) w2) := by
      show _ = _
      rw [← HXS.out, ← HX.out]
      exact hrun
    clear hrun
    go_enter Tryd.func36, Tryd.ntmps36
    go_wp2_with (first | (at_builtin; refine list_run HR.out (by rfl) _ _ (by rfl) (by rfl) (by rfl) (by rfl) ?_))
    go_loopw [0, 46] (fun v i wr => ∃ (j : Nat), j ≤ len ∧ i = .int .i64 j ∧ Toks base wr v (P ++ toksTo l 4 n ts j) ∧ Below base w wr ∧ Kt (.slice ao' P.length cap') w v wr) (fun _ i _ => len - (intOf i).toNat)
    case atStart => exact ⟨0, by omega, rfl, HT2.out, hbw2, hk2⟩
    case round =>
      obtain ⟨j, hj, rfl, hTr, hbr, hkr⟩ := hrel
      have hszr := hbr.size
      by_cases hlt : j < len
      · have hlt' : j < ts.length := by have := HL.out; omega
        obtain ⟨b, o, rfl, _, hbB, ao1, len1, cap1, e0, e1, e2, hs1⟩ := hs.get j hlt'
        have y0 := (hbr.cell (p := ⟨b, o + j * 3, none⟩) (by show b < base; omega)).trans e0
        have y1 := (hbr.cell (p := ⟨b, o + j * 3 + 1, none⟩) (by show b < base; omega)).trans e1
        have y2 := (hbr.cell (p := ⟨b, o + j * 3 + 2, none⟩) (by show b < base; omega)).trans e2
        clear e0 e1 e2
        obtain ⟨a, ha⟩ := HN.out j hlt'
        have HA : Hid (nodesW l ⟨ts[j].K, ts[j].N, ts[j].A⟩ = some a) := by show _ = _; rw [tr_eta]; exact ha
        have HS : Hid (toksTo l 4 n ts (j + 1) = toksTo l 4 n ts j ++ toksW l ts[j]) := toksTo_succ l 4 n ts j hlt'
        have HPL : Hid ((P ++ toksTo l 4 n ts j).length + a ≤ 1048576) := by
          have h1 := HM.out j hlt'
          have h2 := toks_len _ _ _ ha
          show _ ≤ _
          rw [List.length_append]
          omega
        clear ha
        have hA : Below wr.heap.size wr (wr.alloc (.cells #[.int .i64 ts[j].K, .int .i64 ts[j].N, .slice ao1 len1 cap1] 32)) := (Below.refl _ _).alloc (Nat.le_refl _) _
        have hbA : Below base w (wr.alloc (.cells #[.int .i64 ts[j].K, .int .i64 ts[j].N, .slice ao1 len1 cap1] 32)) := hbr.trans (hA.mono (by omega))
        have hs2 : Hs L B (wr.alloc (.cells #[.int .i64 ts[j].K, .int .i64 ts[j].N, .slice ao1 len1 cap1] 32)) (d - 1) ao1 len1 ts[j].A := hs1.keep (fun q _ hq => hbA.block q (by omega)) (Nat.le_refl _) (Nat.le_refl _)
        have hT3 := toks_below hTr hA
        go_wp2_with fail
        refine (IH (d - 1) L B base _ _ _ _ _ _ _ _ a _ hB (by simp; omega) hs2 HA.out hT3 HPL.out).mono ?_
        rintro e w5 ⟨v5, rfl, hb5, hT5, hk5⟩
        have hk6 := (hkr.trans (Kt.of_below hA)).trans hk5
        rw [tr_eta] at hT5
        have hT6 : Hid (Toks base w5 v5 (P ++ toksTo l 4 n ts (j + 1))) := by show Toks _ _ _ _; rw [HS.out, ← List.append_assoc]; exact hT5
        have hb6 : Below base w w5 := hbA.trans hb5
        clear hk5 hT5 hb5 hT3 hs2 hA hbA y0 y1 y2
        go_wp2_with fail
        go_roundw
        case rel => exact ⟨j + 1, by omega, by go_num, hT6.out, hb6, hk6⟩
        case measure => simp [intOf]; omega
      · have HE : Hid (toksTo l 4 n ts j = toksW (l + 1) ⟨4, n, ts⟩) := toksTo_all l _ _ ts j (by have := HL.out; omega)
        go_wp2_with fail
        go_ret
        exact ⟨_, rfl, hbr, by rw [← HE.out]; exact hTr, hkr⟩
  · have HR : Hid ((Builtin.append_ #[47, 47] 47 #[.slice ao' P.length cap', .slice (some ⟨w.heap.size + 1, 0, none⟩) 1 1]).run Tryd.prog ((w.alloc (.cells #[.int .i64 5, .int .i64 n, .slice ao len cap] 32)).alloc (.cells #[.string ⟨#[112]⟩] 9)) = .ok (.slice (some ⟨g, 0, none⟩) (P.length + 1) cap2) w2) := by
      show _ = _
      rw [← HXS.out, ← HX.out]
      exact hrun
    clear hrun
    go_enter Tryd.func36, Tryd.ntmps36
    go_wp2_with (first | (at_builtin; refine list_run HR.out (by rfl) _ _ (by rfl) (by rfl) (by rfl) (by rfl) ?_))
    go_loopw [0, 46] (fun v i wr => ∃ (j : Nat), j ≤ len ∧ i = .int .i64 j ∧ Toks base wr v (P ++ toksTo l 5 n ts j) ∧ Below base w wr ∧ Kt (.slice ao' P.length cap') w v wr) (fun _ i _ => len - (intOf i).toNat)
    case atStart => exact ⟨0, by omega, rfl, HT2.out, hbw2, hk2⟩
    case round =>
      obtain ⟨j, hj, rfl, hTr, hbr, hkr⟩ := hrel
      have hszr := hbr.size
      by_cases hlt : j < len
      · have hlt' : j < ts.length := by have := HL.out; omega
        obtain ⟨b, o, rfl, _, hbB, ao1, len1, cap1, e0, e1, e2, hs1⟩ := hs.get j hlt'
        have y0 := (hbr.cell (p := ⟨b, o + j * 3, none⟩) (by show b < base; omega)).trans e0
        have y1 := (hbr.cell (p := ⟨b, o + j * 3 + 1, none⟩) (by show b < base; omega)).trans e1
        have y2 := (hbr.cell (p := ⟨b, o + j * 3 + 2, none⟩) (by show b < base; omega)).trans e2
        clear e0 e1 e2
        obtain ⟨a, ha⟩ := HN.out j hlt'
        have HA : Hid (nodesW l ⟨ts[j].K, ts[j].N, ts[j].A⟩ = some a) := by show _ = _; rw [tr_eta]; exact ha
        have HS : Hid (toksTo l 5 n ts (j + 1) = toksTo l 5 n ts j ++ toksW l ts[j]) := toksTo_succ l 5 n ts j hlt'
        have HPL : Hid ((P ++ toksTo l 5 n ts j).length + a ≤ 1048576) := by
          have h1 := HM.out j hlt'
          have h2 := toks_len _ _ _ ha
          show _ ≤ _
          rw [List.length_append]
          omega
        clear ha
        have hA : Below wr.heap.size wr (wr.alloc (.cells #[.int .i64 ts[j].K, .int .i64 ts[j].N, .slice ao1 len1 cap1] 32)) := (Below.refl _ _).alloc (Nat.le_refl _) _
        have hbA : Below base w (wr.alloc (.cells #[.int .i64 ts[j].K, .int .i64 ts[j].N, .slice ao1 len1 cap1] 32)) := hbr.trans (hA.mono (by omega))
        have hs2 : Hs L B (wr.alloc (.cells #[.int .i64 ts[j].K, .int .i64 ts[j].N, .slice ao1 len1 cap1] 32)) (d - 1) ao1 len1 ts[j].A := hs1.keep (fun q _ hq => hbA.block q (by omega)) (Nat.le_refl _) (Nat.le_refl _)
        have hT3 := toks_below hTr hA
        go_wp2_with fail
        refine (IH (d - 1) L B base _ _ _ _ _ _ _ _ a _ hB (by simp; omega) hs2 HA.out hT3 HPL.out).mono ?_
        rintro e w5 ⟨v5, rfl, hb5, hT5, hk5⟩
        have hk6 := (hkr.trans (Kt.of_below hA)).trans hk5
        rw [tr_eta] at hT5
        have hT6 : Hid (Toks base w5 v5 (P ++ toksTo l 5 n ts (j + 1))) := by show Toks _ _ _ _; rw [HS.out, ← List.append_assoc]; exact hT5
        have hb6 : Below base w w5 := hbA.trans hb5
        clear hk5 hT5 hb5 hT3 hs2 hA hbA y0 y1 y2
        go_wp2_with fail
        go_roundw
        case rel => exact ⟨j + 1, by omega, by go_num, hT6.out, hb6, hk6⟩
        case measure => simp [intOf]; omega
      · have HE : Hid (toksTo l 5 n ts j = toksW (l + 1) ⟨5, n, ts⟩) := toksTo_all l _ _ ts j (by have := HL.out; omega)
        go_wp2_with fail
        go_ret
        exact ⟨_, rfl, hbr, by rw [← HE.out]; exact hTr, hkr⟩
  · have HR : Hid ((Builtin.append_ #[47, 47] 47 #[.slice ao' P.length cap', .slice (some ⟨w.heap.size + 1, 0, none⟩) 1 1]).run Tryd.prog ((w.alloc (.cells #[.int .i64 6, .int .i64 n, .slice ao len cap] 32)).alloc (.cells #[.string ⟨#[108]⟩] 9)) = .ok (.slice (some ⟨g, 0, none⟩) (P.length + 1) cap2) w2) := by
      show _ = _
      rw [← HXS.out, ← HX.out]
      exact hrun
    clear hrun
    go_enter Tryd.func36, Tryd.ntmps36
    go_wp2_with (first | (at_builtin; refine list_run HR.out (by rfl) _ _ (by rfl) (by rfl) (by rfl) (by rfl) ?_))
    go_loopw [0, 46] (fun v i wr => ∃ (j : Nat), j ≤ len ∧ i = .int .i64 j ∧ Toks base wr v (P ++ toksTo l 6 n ts j) ∧ Below base w wr ∧ Kt (.slice ao' P.length cap') w v wr) (fun _ i _ => len - (intOf i).toNat)
    case atStart => exact ⟨0, by omega, rfl, HT2.out, hbw2, hk2⟩
    case round =>
      obtain ⟨j, hj, rfl, hTr, hbr, hkr⟩ := hrel
      have hszr := hbr.size
      by_cases hlt : j < len
      · have hlt' : j < ts.length := by have := HL.out; omega
        obtain ⟨b, o, rfl, _, hbB, ao1, len1, cap1, e0, e1, e2, hs1⟩ := hs.get j hlt'
        have y0 := (hbr.cell (p := ⟨b, o + j * 3, none⟩) (by show b < base; omega)).trans e0
        have y1 := (hbr.cell (p := ⟨b, o + j * 3 + 1, none⟩) (by show b < base; omega)).trans e1
        have y2 := (hbr.cell (p := ⟨b, o + j * 3 + 2, none⟩) (by show b < base; omega)).trans e2
        clear e0 e1 e2
        obtain ⟨a, ha⟩ := HN.out j hlt'
        have HA : Hid (nodesW l ⟨ts[j].K, ts[j].N, ts[j].A⟩ = some a) := by show _ = _; rw [tr_eta]; exact ha
        have HS : Hid (toksTo l 6 n ts (j + 1) = toksTo l 6 n ts j ++ toksW l ts[j]) := toksTo_succ l 6 n ts j hlt'
        have HPL : Hid ((P ++ toksTo l 6 n ts j).length + a ≤ 1048576) := by
          have h1 := HM.out j hlt'
          have h2 := toks_len _ _ _ ha
          show _ ≤ _
          rw [List.length_append]
          omega
        clear ha
        have hA : Below wr.heap.size wr (wr.alloc (.cells #[.int .i64 ts[j].K, .int .i64 ts[j].N, .slice ao1 len1 cap1] 32)) := (Below.refl _ _).alloc (Nat.le_refl _) _
        have hbA : Below base w (wr.alloc (.cells #[.int .i64 ts[j].K, .int .i64 ts[j].N, .slice ao1 len1 cap1] 32)) := hbr.trans (hA.mono (by omega))
        have hs2 : Hs L B (wr.alloc (.cells #[.int .i64 ts[j].K, .int .i64 ts[j].N, .slice ao1 len1 cap1] 32)) (d - 1) ao1 len1 ts[j].A := hs1.keep (fun q _ hq => hbA.block q (by omega)) (Nat.le_refl _) (Nat.le_refl _)
        have hT3 := toks_below hTr hA
        go_wp2_with fail
        refine (IH (d - 1) L B base _ _ _ _ _ _ _ _ a _ hB (by simp; omega) hs2 HA.out hT3 HPL.out).mono ?_
        rintro e w5 ⟨v5, rfl, hb5, hT5, hk5⟩
        have hk6 := (hkr.trans (Kt.of_below hA)).trans hk5
        rw [tr_eta] at hT5
        have hT6 : Hid (Toks base w5 v5 (P ++ toksTo l 6 n ts (j + 1))) := by show Toks _ _ _ _; rw [HS.out, ← List.append_assoc]; exact hT5
        have hb6 : Below base w w5 := hbA.trans hb5
        clear hk5 hT5 hb5 hT3 hs2 hA hbA y0 y1 y2
        go_wp2_with fail
        go_roundw
        case rel => exact ⟨j + 1, by omega, by go_num, hT6.out, hb6, hk6⟩
        case measure => simp [intOf]; omega
      · have HE : Hid (toksTo l 6 n ts j = toksW (l + 1) ⟨6, n, ts⟩) := toksTo_all l _ _ ts j (by have := HL.out; omega)
        go_wp2_with fail
        go_ret
        exact ⟨_, rfl, hbr, by rw [← HE.out]; exact hTr, hkr⟩

theorem tk_any (l : Nat) : SaidTK l := by
  induction l with
  | zero => exact tk_zero
  | succ l ih => exact tk_succ l ih

end Go.Proofs.YtjikcckggifinaaDoor
