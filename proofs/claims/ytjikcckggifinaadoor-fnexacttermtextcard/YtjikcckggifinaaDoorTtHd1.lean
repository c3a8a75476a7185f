/-
  The program's 'headTokens', kind by kind.
-/
import Derived.Test.YtjikcckggifinaaDoorTtZ13
import Derived.Test.YtjikcckggifinaaDoorTtTt2
import Derived.Test.YtjikcckggifinaaDoorTtTmT
import Derived.Deep.RegionHeld3
namespace Go.Proofs.YtjikcckggifinaaDoor
open Go.RowKit
set_option linter.unusedVariables false
set_option linter.unusedSimpArgs false

/-- What a name's head has been told, and the first j of its types. -/
def varTo (s : ByteArray) (n : Nat) (Ts : List Tr) (j : Nat) : List (List UInt8) := [118] :: sb s :: Lib.itoa (n : Int) :: ((Ts.take j).map (toksW 6)).flatten
theorem varTo_succ (s : ByteArray) (n : Nat) (Ts : List Tr) (j : Nat) (h : j < Ts.length) : varTo s n Ts (j + 1) = varTo s n Ts j ++ toksW 6 Ts[j] := by
  unfold varTo
  rw [List.take_succ_eq_append_getElem h, List.map_append, List.flatten_append]
  simp
theorem varTo_len (s : ByteArray) (n : Nat) (Ts : List Tr) (j : Nat) (h2 : Ts.length ≤ 2) (hm : ∀ x ∈ Ts, ∃ m, nodesW 6 x = some m ∧ m ≤ 60) : (varTo s n Ts j).length ≤ 123 := by
  have h : ((Ts.take j).map (toksW 6)).flatten.length ≤ 60 * (Ts.take j).length := flat_len _ _ _ fun x hx => by
    obtain ⟨m, h1, h3⟩ := hm x (List.mem_of_mem_take hx)
    have := toks_len _ _ _ h1
    omega
  have h4 : (Ts.take j).length ≤ 2 := by rw [List.length_take]; omega
  unfold varTo
  simp only [List.length_cons]
  omega

set_option maxRecDepth 100000 in
set_option maxHeartbeats 2000000 in
theorem hd_1 (L B D base : Nat) (s z : ByteArray) (nd n tK tN : Int) (a1 : Option Addr) (l1 c1 : Nat) (a2 : Option Addr) (l2 c2 : Nat) (τ0 τ1 τ2 : TypeId) (u0 u1 u2 : Value) (Ta Ts : List Tr) (P : List (List UInt8)) (v : Value) (w : World) (hB : B ≤ base) (hb : base ≤ w.heap.size) (hTab : TabB B w) (hT : Toks base w v P) (hP : P.length + 123 ≤ 1000000) (hn0 : -1000000 ≤ n) (hn1 : n ≤ 1000000) :
    Calls Tryd.prog 21 #[v, .iface 76 (.agg #[.int .i64 n])] w fun e w' => ∃ v' : Value, e = .returned v' ∧ Kt v w v' w' ∧ Toks base w' v' (P ++ headM 1 n s z ⟨tK, tN, Ta⟩ Ts) := by
  have as1 := fun (W : World) (v : Value) => is_numForm W v
  obtain ⟨av, cv, rfl⟩ := toks_form1 hT
  obtain ⟨X, hX⟩ : ∃ X, X = w.alloc (.cells #[.int .i64 n] 76) := ⟨_, rfl⟩
  have hXs : X.heap.size = w.heap.size + 1 := by rw [hX]; simp
  have hXb : Below w.heap.size w X := by rw [hX]; exact (Below.refl _ _).alloc (Nat.le_refl _) _
  have hXT := toks_below hT hXb
  have HX : Hid (X = _) := hX
  have hTX : TabB B X := hTab.below (hXb.mono (by omega))
  clear hX
  go_enter Tryd.func21, Tryd.ntmps21
  go_wp2_with fail
  rw [← HX.out]
  refine (itoa_any n hn0 hn1 X hTX).mono ?_
  rintro e w1 ⟨rfl, hb1⟩
  obtain ⟨g, cap2, w2, hrun, hT2, hkt⟩ := toks_more3 (toks_below hXT hb1) (by have := hb1.size; omega) [[110], Lib.itoa n] (by simp) (by simp; omega) #[.string ⟨#[110]⟩, .string ⟨(Lib.itoa n).toArray⟩] (by simp [tk, sb]) 2 rfl P.length rfl
  have HR : Hid ((Builtin.append_ #[47, 47] 47 #[.slice av P.length cv, .slice (some ⟨w1.heap.size, 0, none⟩) 2 2]).run Tryd.prog ((w1).alloc (.cells #[.string ⟨#[110]⟩, .string ⟨(Lib.itoa n).toArray⟩] 9)) = .ok (.slice (some ⟨g, 0, none⟩) (P.length + 2) cap2) w2) := hrun
  have hk2 := ((Kt.of_below hXb).trans (Kt.of_below hb1)).trans hkt
  have HT2 : Hid (Toks base w2 (.slice (some ⟨g, 0, none⟩) (P.length + 2) cap2) (P ++ headM 1 n s z ⟨tK, tN, Ta⟩ Ts)) := by
    show Toks _ _ _ _
    simpa [headM, wordM] using hT2
  clear hrun hXs hXb hXT hkt hT2 hT
  go_wp2_with (at_builtin; refine list_run HR.out (by rfl) _ _ (by rfl) (by rfl) (by rfl) (by rfl) ?_)
  go_ret
  exact ⟨_, rfl, hk2, HT2.out⟩

set_option maxRecDepth 100000 in
set_option maxHeartbeats 2000000 in
theorem hd_2 (L B D base : Nat) (s z : ByteArray) (nd n tK tN : Int) (a1 : Option Addr) (l1 c1 : Nat) (a2 : Option Addr) (l2 c2 : Nat) (τ0 τ1 τ2 : TypeId) (u0 u1 u2 : Value) (Ta Ts : List Tr) (P : List (List UInt8)) (v : Value) (w : World) (hB : B ≤ base) (hb : base ≤ w.heap.size) (hTab : TabB B w) (hT : Toks base w v P) (hP : P.length + 123 ≤ 1000000) (hn : n = 0 ∨ n = 1) :
    Calls Tryd.prog 21 #[v, .iface 77 (.agg #[.int .i64 n])] w fun e w' => ∃ v' : Value, e = .returned v' ∧ Kt v w v' w' ∧ Toks base w' v' (P ++ headM 2 n s z ⟨tK, tN, Ta⟩ Ts) := by
  have as1 := fun (W : World) (v : Value) => no_numForm W 77 v (by decide)
  have as2 := fun (W : World) (v : Value) => is_boolForm W v
  obtain ⟨av, cv, rfl⟩ := toks_form1 hT
  rcases hn with rfl | rfl
  · obtain ⟨X, hX⟩ : ∃ X, X = w.alloc (.cells #[.int .i64 0] 77) := ⟨_, rfl⟩
    have hXs : X.heap.size = w.heap.size + 1 := by rw [hX]; simp
    have hXb : Below w.heap.size w X := by rw [hX]; exact (Below.refl _ _).alloc (Nat.le_refl _) _
    have hXT := toks_below hT hXb
    obtain ⟨g, cap2, w2, hrun, hT2, hkt⟩ := toks_more3 hXT (by omega) [[117]] (by simp) (by simp; omega) #[.string ⟨#[117]⟩] (by simp [tk, sb]) 1 rfl P.length rfl
    have HR : Hid ((Builtin.append_ #[47, 47] 47 #[.slice av P.length cv, .slice (some ⟨w.heap.size + 1, 0, none⟩) 1 1]).run Tryd.prog ((w.alloc (.cells #[.int .i64 0] 77)).alloc (.cells #[.string ⟨#[117]⟩] 9)) = .ok (.slice (some ⟨g, 0, none⟩) (P.length + 1) cap2) w2) := by
      show _ = _
      rw [← hXs, ← hX]
      exact hrun
    have hk2 := (Kt.of_below hXb).trans hkt
    have HT2 : Hid (Toks base w2 (.slice (some ⟨g, 0, none⟩) (P.length + 1) cap2) (P ++ headM 2 0 s z ⟨tK, tN, Ta⟩ Ts)) := by
      show Toks _ _ _ _
      simpa [headM, signM] using hT2
    clear hrun hX hXs hXb hXT hkt hT2 hT
    go_enter Tryd.func21, Tryd.ntmps21
    go_wp2_with (at_builtin; refine list_run HR.out (by rfl) _ _ (by rfl) (by rfl) (by rfl) (by rfl) ?_)
    go_ret
    exact ⟨_, rfl, hk2, HT2.out⟩
  · obtain ⟨X, hX⟩ : ∃ X, X = w.alloc (.cells #[.int .i64 1] 77) := ⟨_, rfl⟩
    have hXs : X.heap.size = w.heap.size + 1 := by rw [hX]; simp
    have hXb : Below w.heap.size w X := by rw [hX]; exact (Below.refl _ _).alloc (Nat.le_refl _) _
    have hXT := toks_below hT hXb
    obtain ⟨g, cap2, w2, hrun, hT2, hkt⟩ := toks_more3 hXT (by omega) [[116]] (by simp) (by simp; omega) #[.string ⟨#[116]⟩] (by simp [tk, sb]) 1 rfl P.length rfl
    have HR : Hid ((Builtin.append_ #[47, 47] 47 #[.slice av P.length cv, .slice (some ⟨w.heap.size + 1, 0, none⟩) 1 1]).run Tryd.prog ((w.alloc (.cells #[.int .i64 1] 77)).alloc (.cells #[.string ⟨#[116]⟩] 9)) = .ok (.slice (some ⟨g, 0, none⟩) (P.length + 1) cap2) w2) := by
      show _ = _
      rw [← hXs, ← hX]
      exact hrun
    have hk2 := (Kt.of_below hXb).trans hkt
    have HT2 : Hid (Toks base w2 (.slice (some ⟨g, 0, none⟩) (P.length + 1) cap2) (P ++ headM 2 1 s z ⟨tK, tN, Ta⟩ Ts)) := by
      show Toks _ _ _ _
      simpa [headM, signM] using hT2
    clear hrun hX hXs hXb hXT hkt hT2 hT
    go_enter Tryd.func21, Tryd.ntmps21
    go_wp2_with (at_builtin; refine list_run HR.out (by rfl) _ _ (by rfl) (by rfl) (by rfl) (by rfl) ?_)
    go_ret
    exact ⟨_, rfl, hk2, HT2.out⟩

set_option maxRecDepth 100000 in
set_option maxHeartbeats 2000000 in
theorem hd_3 (L B D base : Nat) (s z : ByteArray) (nd n tK tN : Int) (a1 : Option Addr) (l1 c1 : Nat) (a2 : Option Addr) (l2 c2 : Nat) (τ0 τ1 τ2 : TypeId) (u0 u1 u2 : Value) (Ta Ts : List Tr) (P : List (List UInt8)) (v : Value) (w : World) (hB : B ≤ base) (hb : base ≤ w.heap.size) (hTab : TabB B w) (hT : Toks base w v P) (hP : P.length + 123 ≤ 1000000) (hs : Hs L B w D a2 l2 Ts) (h2 : Ts.length ≤ 2) (hm : ∀ x ∈ Ts, ∃ m, nodesW 6 x = some m ∧ m ≤ 60) :
    Calls Tryd.prog 21 #[v, .iface 79 (.agg #[.string s, .slice a2 l2 c2])] w fun e w' => ∃ v' : Value, e = .returned v' ∧ Kt v w v' w' ∧ Toks base w' v' (P ++ headM 3 n s z ⟨tK, tN, Ta⟩ Ts) := by
  have as1 := fun (W : World) (v : Value) => no_numForm W 79 v (by decide)
  have as2 := fun (W : World) (v : Value) => no_boolForm W 79 v (by decide)
  have as3 := fun (W : World) (v : Value) => is_varForm W v
  obtain ⟨av, cv, rfl⟩ := toks_form1 hT
  obtain ⟨X, hX⟩ : ∃ X, X = w.alloc (.cells #[.string s, .slice a2 l2 c2] 79) := ⟨_, rfl⟩
  have hXs : X.heap.size = w.heap.size + 1 := by rw [hX]; simp
  have hXb : Below w.heap.size w X := by rw [hX]; exact (Below.refl _ _).alloc (Nat.le_refl _) _
  have hXT := toks_below hT hXb
  have hx : X.heap[w.heap.size]? = some (.cells #[.string s, .slice a2 l2 c2] 79 (0, 0)) := by rw [hX]; exact heap_new rfl
  have hne : Value.ownBlock (.slice av P.length cv) ≠ some w.heap.size := fun e => by have := (toks_in hT e).2; omega
  have SK : Hid (∀ (W : World) (v' : Value), Kt (.slice av P.length cv) X v' W → W.cell? ⟨w.heap.size, 0, none⟩ = some (.string s) ∧ W.cell? ⟨w.heap.size, 1, none⟩ = some (.slice a2 l2 c2)) := by
    intro W v' hk
    have h0 := (hk.block w.heap.size (by omega) hne).trans hx
    refine ⟨?_, ?_⟩
    all_goals exact row_cell h0 _
  have hD : Below X.heap.size X X.drew := ⟨rfl, rfl, rfl, Nat.le_refl _, fun _ _ => rfl⟩
  have kD : Kt (.slice av P.length cv) X (.slice av P.length cv) X.drew := Kt.of_below hD
  have HX : Hid (X = _) := hX
  have HL : Hid (l2 = Ts.length) := hs.len.1
  have hl2 : l2 ≤ 2 := by have := HL.out; omega
  have HS : Hid (Hs L B w D a2 l2 Ts) := hs
  have HM : Hid (∀ x ∈ Ts, ∃ m, nodesW 6 x = some m ∧ m ≤ 60) := hm
  have HB : Hid (Below w.heap.size w X ∧ X.heap.size = w.heap.size + 1) := ⟨hXb, hXs⟩
  have hTX : TabB B X.drew := hTab.below ((hXb.trans (hD.mono (by omega))).mono (by omega))
  have AP : Hid (∀ W1 : World, Below X.drew.heap.size X.drew W1 → ∃ g cap2 w2, (Builtin.append_ #[47, 47] 47 #[.slice av P.length cv, .slice (some ⟨W1.heap.size, 0, none⟩) 3 3]).run Tryd.prog ((W1).alloc (.cells #[.string ⟨#[118]⟩, .string s, .string ⟨(Lib.itoa (l2 : Int)).toArray⟩] 9)) = .ok (.slice (some ⟨g, 0, none⟩) (P.length + 3) cap2) w2 ∧ Toks base w2 (.slice (some ⟨g, 0, none⟩) (P.length + 3) cap2) (P ++ [[118], sb s, Lib.itoa (l2 : Int)]) ∧ Kt (.slice av P.length cv) X (.slice (some ⟨g, 0, none⟩) (P.length + 3) cap2) w2 ∧ Kt (.slice av P.length cv) X (.slice av P.length cv) (W1.alloc (.cells #[.string ⟨#[118]⟩, .string s, .string ⟨(Lib.itoa (l2 : Int)).toArray⟩] 9)) ∧ Kt (.slice av P.length cv) X (.slice av P.length cv) W1) := by
    intro W1 hb1
    have hz : X.heap.size ≤ W1.heap.size := hb1.size
    have hd1 : Below X.heap.size X W1 := hD.trans hb1
    obtain ⟨g, cap2, w2, hrun, hT2, hkt⟩ := toks_more3 (toks_below hXT hd1) (by omega) [[118], sb s, Lib.itoa (l2 : Int)] (by simp) (by simp; omega) #[.string ⟨#[118]⟩, .string s, .string ⟨(Lib.itoa (l2 : Int)).toArray⟩] (by simp [tk, sb]) 3 rfl P.length rfl
    exact ⟨g, cap2, w2, hrun, hT2, (Kt.of_below hd1).trans hkt, (Kt.of_below hd1).trans (Kt.of_below ((Below.refl _ _).alloc (Nat.le_refl _) _)), Kt.of_below hd1⟩
  clear hXs hX hx hne hT hs hm hTab hXb
  go_enter Tryd.func21, Tryd.ntmps21
  go_wp2_with fail
  rw [← HX.out]
  go_region_held3 (fun W => W.cell? ⟨w.heap.size, 0, none⟩ = some (.string s) ∧ W.cell? ⟨w.heap.size, 1, none⟩ = some (.slice a2 l2 c2))
    (first | exact SK.out _ _ hkt | exact SK.out _ _ hka | exact SK.out _ _ hk1 | exact SK.out _ _ kD)
    (first | (refine step_run2 hrun (by rfl) _ _ (by rfl) (by rfl) (by rfl) (by rfl) ?_) | (go_at_call 35; refine (itoa_any (l2 : Int) (by omega) (by omega) _ hTX).mono ?_; rintro e w1 ⟨rfl, hb1⟩; obtain ⟨g, cap2, w2, hrun, hT2, hkt, hka, hk1⟩ := AP.out w1 hb1))
  all_goals
    go_wp2_with fail
    go_loopw [0, 61] (fun v i wr => ∃ (j : Nat), j ≤ l2 ∧ i = .int .i64 j ∧ Toks base wr v (P ++ varTo s l2 Ts j) ∧ Kt (.slice av P.length cv) X v wr) (fun _ i _ => l2 - (intOf i).toNat)
    case atStart => exact ⟨0, by omega, rfl, by simpa [varTo] using hT2, hkt⟩
    case round =>
      clear hT2 hkt hka hk1
      obtain ⟨j, hj, rfl, hTr, hkr⟩ := hrel
      have hbX : Below base X wr := hkr.below hXT (by have := HB.out.2; omega)
      have hbr : Below base w wr := (HB.out.1.mono hb).trans hbX
      have hszr := hbr.size
      by_cases hlt : j < l2
      · have hlt' : j < Ts.length := by have := HL.out; omega
        obtain ⟨b, o, rfl, _, hbB, ao1, len1, cap1, e0, e1, e2, hs1⟩ := HS.out.get j hlt'
        have y0 := (hbr.cell (p := ⟨b, o + j * 3, none⟩) (by show b < base; omega)).trans e0
        have y1 := (hbr.cell (p := ⟨b, o + j * 3 + 1, none⟩) (by show b < base; omega)).trans e1
        have y2 := (hbr.cell (p := ⟨b, o + j * 3 + 2, none⟩) (by show b < base; omega)).trans e2
        clear e0 e1 e2
        obtain ⟨a, ha, ha6⟩ := HM.out Ts[j] (List.getElem_mem hlt')
        have HA : Hid (nodesW 6 ⟨Ts[j].K, Ts[j].N, Ts[j].A⟩ = some a) := by show _ = _; rw [tr_eta]; exact ha
        have HE : Hid (varTo s l2 Ts (j + 1) = varTo s l2 Ts j ++ toksW 6 Ts[j]) := varTo_succ s l2 Ts j hlt'
        have HPL : Hid ((P ++ varTo s l2 Ts j).length + a ≤ 1048576) := by
          have h1 := varTo_len s l2 Ts j h2 HM.out
          show _ ≤ _
          rw [List.length_append]
          omega
        clear ha
        have hA : Below wr.heap.size wr (wr.alloc (.cells #[.int .i64 Ts[j].K, .int .i64 Ts[j].N, .slice ao1 len1 cap1] 32)) := (Below.refl _ _).alloc (Nat.le_refl _) _
        have hbA : Below base w (wr.alloc (.cells #[.int .i64 Ts[j].K, .int .i64 Ts[j].N, .slice ao1 len1 cap1] 32)) := hbr.trans (hA.mono (by omega))
        have hs2 : Hs L B (wr.alloc (.cells #[.int .i64 Ts[j].K, .int .i64 Ts[j].N, .slice ao1 len1 cap1] 32)) (D - 1) ao1 len1 Ts[j].A := hs1.keep (fun q _ hq => hbA.block q (by omega)) (Nat.le_refl _) (Nat.le_refl _)
        have hT3 := toks_below hTr hA
        go_wp2_with fail
        refine (tk_any 6 (D - 1) L B base _ _ _ _ _ _ _ _ a _ hB (by simp; omega) hs2 HA.out hT3 HPL.out).mono ?_
        rintro e w5 ⟨v5, rfl, hb5, hT5, hk5⟩
        have hk6 := (hkr.trans (Kt.of_below hA)).trans hk5
        rw [tr_eta] at hT5
        have hT6 : Hid (Toks base w5 v5 (P ++ varTo s l2 Ts (j + 1))) := by show Toks _ _ _ _; rw [HE.out, ← List.append_assoc]; exact hT5
        clear hT5 hb5 hT3 hs2 hA hbA y0 y1 y2 hk5
        go_wp2_with fail
        go_roundw
        case rel => exact ⟨j + 1, by omega, by go_num, hT6.out, hk6⟩
        case measure => simp [intOf]; omega
      · have HE : Hid (varTo s l2 Ts j = headM 3 n s z ⟨tK, tN, Ta⟩ Ts) := by
          have e1 := HL.out
          show _ = _
          unfold varTo
          rw [List.take_of_length_le (by omega), e1]
          rfl
        go_wp2_with fail
        go_ret
        exact ⟨_, rfl, (Kt.of_below HB.out.1).trans hkr, by rw [← HE.out]; exact hTr⟩

set_option maxRecDepth 100000 in
set_option maxHeartbeats 2000000 in
theorem hd_4 (L B D base : Nat) (s z : ByteArray) (nd n tK tN : Int) (a1 : Option Addr) (l1 c1 : Nat) (a2 : Option Addr) (l2 c2 : Nat) (τ0 τ1 τ2 : TypeId) (u0 u1 u2 : Value) (Ta Ts : List Tr) (P : List (List UInt8)) (v : Value) (w : World) (hB : B ≤ base) (hb : base ≤ w.heap.size) (hTab : TabB B w) (hT : Toks base w v P) (hP : P.length + 123 ≤ 1000000) (hs : Hs L B w D a1 l1 Ta) (m : Nat) (hm : nodesW 6 ⟨tK, tN, Ta⟩ = some m) (hm6 : m ≤ 60) :
    Calls Tryd.prog 21 #[v, .iface 82 (.agg #[.int .i64 nd, .string s, .int .i64 tK, .int .i64 tN, .slice a1 l1 c1, .iface τ0 u0])] w fun e w' => ∃ v' : Value, e = .returned v' ∧ Kt v w v' w' ∧ Toks base w' v' (P ++ headM 4 n s z ⟨tK, tN, Ta⟩ Ts) := by
  have as1 := fun (W : World) (v : Value) => no_numForm W 82 v (by decide)
  have as2 := fun (W : World) (v : Value) => no_boolForm W 82 v (by decide)
  have as3 := fun (W : World) (v : Value) => no_varForm W 82 v (by decide)
  have as4 := fun (W : World) (v : Value) => is_fnForm W v
  obtain ⟨av, cv, rfl⟩ := toks_form1 hT
  obtain ⟨X, hX⟩ : ∃ X, X = w.alloc (.cells #[.int .i64 nd, .string s, .int .i64 tK, .int .i64 tN, .slice a1 l1 c1, .iface τ0 u0] 82) := ⟨_, rfl⟩
  have hXs : X.heap.size = w.heap.size + 1 := by rw [hX]; simp
  have hXb : Below w.heap.size w X := by rw [hX]; exact (Below.refl _ _).alloc (Nat.le_refl _) _
  have hXT := toks_below hT hXb
  have hx : X.heap[w.heap.size]? = some (.cells #[.int .i64 nd, .string s, .int .i64 tK, .int .i64 tN, .slice a1 l1 c1, .iface τ0 u0] 82 (0, 0)) := by rw [hX]; exact heap_new rfl
  have hne : Value.ownBlock (.slice av P.length cv) ≠ some w.heap.size := fun e => by have := (toks_in hT e).2; omega
  have SK : Hid (∀ (W : World) (v' : Value), Kt (.slice av P.length cv) X v' W → W.cell? ⟨w.heap.size, 0, none⟩ = some (.int .i64 nd) ∧ W.cell? ⟨w.heap.size, 1, none⟩ = some (.string s) ∧ W.cell? ⟨w.heap.size, 2, none⟩ = some (.int .i64 tK) ∧ W.cell? ⟨w.heap.size, 3, none⟩ = some (.int .i64 tN) ∧ W.cell? ⟨w.heap.size, 4, none⟩ = some (.slice a1 l1 c1) ∧ W.cell? ⟨w.heap.size, 5, none⟩ = some (.iface τ0 u0)) := by
    intro W v' hk
    have h0 := (hk.block w.heap.size (by omega) hne).trans hx
    refine ⟨?_, ?_, ?_, ?_, ?_, ?_⟩
    all_goals exact row_cell h0 _
  have hD : Below X.heap.size X X.drew := ⟨rfl, rfl, rfl, Nat.le_refl _, fun _ _ => rfl⟩
  have kD : Kt (.slice av P.length cv) X (.slice av P.length cv) X.drew := Kt.of_below hD
  have HX : Hid (X = _) := hX
  obtain ⟨g, cap2, w2, hrun, hT2, hkt0⟩ := toks_more3 (toks_below hXT hD) (by show base ≤ X.heap.size; omega) [[102, 110], sb s] (by simp) (by simp; omega) #[.string ⟨#[102, 110]⟩, .string s] (by simp [tk, sb]) 2 rfl P.length rfl
  have HR : Hid ((Builtin.append_ #[47, 47] 47 #[.slice av P.length cv, .slice (some ⟨X.drew.heap.size, 0, none⟩) 2 2]).run Tryd.prog ((X.drew).alloc (.cells #[.string ⟨#[102, 110]⟩, .string s] 9)) = .ok (.slice (some ⟨g, 0, none⟩) (P.length + 2) cap2) w2) := hrun
  have hkt := kD.trans hkt0
  have hka : Kt (.slice av P.length cv) X (.slice av P.length cv) (X.drew.alloc (.cells #[.string ⟨#[102, 110]⟩, .string s] 9)) := kD.trans (Kt.of_below ((Below.refl _ _).alloc (Nat.le_refl _) _))
  clear hrun hkt0
  have TT : Hid (∀ (w2 : World) (v2 : Value), Kt (.slice av P.length cv) X v2 w2 → Toks base w2 v2 (P ++ [[102, 110], sb s]) → Calls Tryd.prog 36 #[v2, .agg #[.int .i64 tK, .int .i64 tN, .slice a1 l1 c1]] w2 fun e w' => ∃ v' : Value, e = .returned v' ∧ Kt (.slice av P.length cv) X v' w' ∧ Toks base w' v' (P ++ headM 4 n s z ⟨tK, tN, Ta⟩ Ts)) := by
    intro w2 v2 hk hT2
    have hbe : Below base X w2 := hk.below hXT (by omega)
    have hz := hbe.size
    have hbw : Below base w w2 := (hXb.mono hb).trans hbe
    refine (tk_any 6 D L B base v2 _ tK tN a1 l1 c1 Ta m w2 hB (by omega) (hs.keep (fun q _ hq => hbw.block q (by omega)) (Nat.le_refl _) (Nat.le_refl _)) hm hT2 (by simp; omega)).mono ?_
    rintro e w' ⟨v', rfl, _, h3, h4⟩
    refine ⟨v', rfl, hk.trans h4, ?_⟩
    have eH : P ++ headM 4 n s z ⟨tK, tN, Ta⟩ Ts = P ++ [[102, 110], sb s] ++ toksW 6 ⟨tK, tN, Ta⟩ := by simp [headM]
    rw [eH]
    exact h3
  clear hXs hX hx hne hT hs hm hTab
  go_enter Tryd.func21, Tryd.ntmps21
  go_wp2_with fail
  rw [← HX.out]
  go_region_held3 (fun W => W.cell? ⟨w.heap.size, 0, none⟩ = some (.int .i64 nd) ∧ W.cell? ⟨w.heap.size, 1, none⟩ = some (.string s) ∧ W.cell? ⟨w.heap.size, 2, none⟩ = some (.int .i64 tK) ∧ W.cell? ⟨w.heap.size, 3, none⟩ = some (.int .i64 tN) ∧ W.cell? ⟨w.heap.size, 4, none⟩ = some (.slice a1 l1 c1) ∧ W.cell? ⟨w.heap.size, 5, none⟩ = some (.iface τ0 u0))
    (first | exact SK.out _ _ hk5 | exact SK.out _ _ hkt | exact SK.out _ _ hka | exact SK.out _ _ kD)
    (first | (go_at_call 36; refine (TT.out _ _ hkt hT2).mono ?_; rintro e w5 ⟨v5, rfl, hk5, hT5⟩) | (refine step_run2 HR.out (by rfl) _ _ (by rfl) (by rfl) (by rfl) (by rfl) ?_))
  all_goals
    go_wp2_with fail
    go_ret
    exact ⟨_, rfl, (Kt.of_below hXb).trans hk5, hT5⟩

set_option maxRecDepth 100000 in
set_option maxHeartbeats 2000000 in
theorem hd_5 (L B D base : Nat) (s z : ByteArray) (nd n tK tN : Int) (a1 : Option Addr) (l1 c1 : Nat) (a2 : Option Addr) (l2 c2 : Nat) (τ0 τ1 τ2 : TypeId) (u0 u1 u2 : Value) (Ta Ts : List Tr) (P : List (List UInt8)) (v : Value) (w : World) (hB : B ≤ base) (hb : base ≤ w.heap.size) (hTab : TabB B w) (hT : Toks base w v P) (hP : P.length + 123 ≤ 1000000) :
    Calls Tryd.prog 21 #[v, .iface 84 (.agg #[.int .i64 nd, .iface τ0 u0, .iface τ1 u1])] w fun e w' => ∃ v' : Value, e = .returned v' ∧ Kt v w v' w' ∧ Toks base w' v' (P ++ headM 5 n s z ⟨tK, tN, Ta⟩ Ts) := by
  have as1 := fun (W : World) (v : Value) => no_numForm W 84 v (by decide)
  have as2 := fun (W : World) (v : Value) => no_boolForm W 84 v (by decide)
  have as3 := fun (W : World) (v : Value) => no_varForm W 84 v (by decide)
  have as4 := fun (W : World) (v : Value) => no_fnForm W 84 v (by decide)
  have as5 := fun (W : World) (v : Value) => is_appForm W v
  obtain ⟨av, cv, rfl⟩ := toks_form1 hT
  obtain ⟨X, hX⟩ : ∃ X, X = w.alloc (.cells #[.int .i64 nd, .iface τ0 u0, .iface τ1 u1] 84) := ⟨_, rfl⟩
  have hXs : X.heap.size = w.heap.size + 1 := by rw [hX]; simp
  have hXb : Below w.heap.size w X := by rw [hX]; exact (Below.refl _ _).alloc (Nat.le_refl _) _
  have hXT := toks_below hT hXb
  obtain ⟨g, cap2, w2, hrun, hT2, hkt⟩ := toks_more3 hXT (by omega) [[97, 112, 112]] (by simp) (by simp; omega) #[.string ⟨#[97, 112, 112]⟩] (by simp [tk, sb]) 1 rfl P.length rfl
  have HR : Hid ((Builtin.append_ #[47, 47] 47 #[.slice av P.length cv, .slice (some ⟨w.heap.size + 1, 0, none⟩) 1 1]).run Tryd.prog ((w.alloc (.cells #[.int .i64 nd, .iface τ0 u0, .iface τ1 u1] 84)).alloc (.cells #[.string ⟨#[97, 112, 112]⟩] 9)) = .ok (.slice (some ⟨g, 0, none⟩) (P.length + 1) cap2) w2) := by
    show _ = _
    rw [← hXs, ← hX]
    exact hrun
  have hk2 := (Kt.of_below hXb).trans hkt
  have HT2 : Hid (Toks base w2 (.slice (some ⟨g, 0, none⟩) (P.length + 1) cap2) (P ++ headM 5 n s z ⟨tK, tN, Ta⟩ Ts)) := by
    show Toks _ _ _ _
    simpa [headM, wordM] using hT2
  clear hrun hX hXs hXb hXT hkt hT2 hT
  go_enter Tryd.func21, Tryd.ntmps21
  go_wp2_with (at_builtin; refine list_run HR.out (by rfl) _ _ (by rfl) (by rfl) (by rfl) (by rfl) ?_)
  go_ret
  exact ⟨_, rfl, hk2, HT2.out⟩

set_option maxRecDepth 100000 in
set_option maxHeartbeats 2000000 in
theorem hd_6 (L B D base : Nat) (s z : ByteArray) (nd n tK tN : Int) (a1 : Option Addr) (l1 c1 : Nat) (a2 : Option Addr) (l2 c2 : Nat) (τ0 τ1 τ2 : TypeId) (u0 u1 u2 : Value) (Ta Ts : List Tr) (P : List (List UInt8)) (v : Value) (w : World) (hB : B ≤ base) (hb : base ≤ w.heap.size) (hTab : TabB B w) (hT : Toks base w v P) (hP : P.length + 123 ≤ 1000000) (hn0 : -1000000 ≤ n) (hn1 : n ≤ 1000000) :
    Calls Tryd.prog 21 #[v, .iface 86 (.agg #[.string s, .int .i64 n, .iface τ0 u0, .iface τ1 u1])] w fun e w' => ∃ v' : Value, e = .returned v' ∧ Kt v w v' w' ∧ Toks base w' v' (P ++ headM 6 n s z ⟨tK, tN, Ta⟩ Ts) := by
  have as1 := fun (W : World) (v : Value) => no_numForm W 86 v (by decide)
  have as2 := fun (W : World) (v : Value) => no_boolForm W 86 v (by decide)
  have as3 := fun (W : World) (v : Value) => no_varForm W 86 v (by decide)
  have as4 := fun (W : World) (v : Value) => no_fnForm W 86 v (by decide)
  have as5 := fun (W : World) (v : Value) => no_appForm W 86 v (by decide)
  have as6 := fun (W : World) (v : Value) => is_letForm W v
  obtain ⟨av, cv, rfl⟩ := toks_form1 hT
  obtain ⟨X, hX⟩ : ∃ X, X = w.alloc (.cells #[.string s, .int .i64 n, .iface τ0 u0, .iface τ1 u1] 86) := ⟨_, rfl⟩
  have hXs : X.heap.size = w.heap.size + 1 := by rw [hX]; simp
  have hXb : Below w.heap.size w X := by rw [hX]; exact (Below.refl _ _).alloc (Nat.le_refl _) _
  have hXT := toks_below hT hXb
  have hx : X.heap[w.heap.size]? = some (.cells #[.string s, .int .i64 n, .iface τ0 u0, .iface τ1 u1] 86 (0, 0)) := by rw [hX]; exact heap_new rfl
  have hne : Value.ownBlock (.slice av P.length cv) ≠ some w.heap.size := fun e => by have := (toks_in hT e).2; omega
  have SK : Hid (∀ (W : World) (v' : Value), Kt (.slice av P.length cv) X v' W → W.cell? ⟨w.heap.size, 0, none⟩ = some (.string s) ∧ W.cell? ⟨w.heap.size, 1, none⟩ = some (.int .i64 n) ∧ W.cell? ⟨w.heap.size, 2, none⟩ = some (.iface τ0 u0) ∧ W.cell? ⟨w.heap.size, 3, none⟩ = some (.iface τ1 u1)) := by
    intro W v' hk
    have h0 := (hk.block w.heap.size (by omega) hne).trans hx
    refine ⟨?_, ?_, ?_, ?_⟩
    all_goals exact row_cell h0 _
  have hD : Below X.heap.size X X.drew := ⟨rfl, rfl, rfl, Nat.le_refl _, fun _ _ => rfl⟩
  have kD : Kt (.slice av P.length cv) X (.slice av P.length cv) X.drew := Kt.of_below hD
  have HX : Hid (X = _) := hX
  have hTX : TabB B X.drew := hTab.below ((hXb.trans (hD.mono (by omega))).mono (by omega))
  have AP : Hid (∀ W1 : World, Below X.drew.heap.size X.drew W1 → ∃ g cap2 w2, (Builtin.append_ #[47, 47] 47 #[.slice av P.length cv, .slice (some ⟨W1.heap.size, 0, none⟩) 3 3]).run Tryd.prog ((W1).alloc (.cells #[.string ⟨#[108, 101, 116]⟩, .string s, .string ⟨(Lib.itoa n).toArray⟩] 9)) = .ok (.slice (some ⟨g, 0, none⟩) (P.length + 3) cap2) w2 ∧ Toks base w2 (.slice (some ⟨g, 0, none⟩) (P.length + 3) cap2) (P ++ [[108, 101, 116], sb s, Lib.itoa n]) ∧ Kt (.slice av P.length cv) X (.slice (some ⟨g, 0, none⟩) (P.length + 3) cap2) w2 ∧ Kt (.slice av P.length cv) X (.slice av P.length cv) (W1.alloc (.cells #[.string ⟨#[108, 101, 116]⟩, .string s, .string ⟨(Lib.itoa n).toArray⟩] 9)) ∧ Kt (.slice av P.length cv) X (.slice av P.length cv) W1) := by
    intro W1 hb1
    have hz : X.heap.size ≤ W1.heap.size := hb1.size
    have hd1 : Below X.heap.size X W1 := hD.trans hb1
    obtain ⟨g, cap2, w2, hrun, hT2, hkt⟩ := toks_more3 (toks_below hXT hd1) (by omega) [[108, 101, 116], sb s, Lib.itoa n] (by simp) (by simp; omega) #[.string ⟨#[108, 101, 116]⟩, .string s, .string ⟨(Lib.itoa n).toArray⟩] (by simp [tk, sb]) 3 rfl P.length rfl
    exact ⟨g, cap2, w2, hrun, hT2, (Kt.of_below hd1).trans hkt, (Kt.of_below hd1).trans (Kt.of_below ((Below.refl _ _).alloc (Nat.le_refl _) _)), Kt.of_below hd1⟩
  clear hXs hX hx hne hT hTab
  go_enter Tryd.func21, Tryd.ntmps21
  go_wp2_with fail
  rw [← HX.out]
  go_region_held3 (fun W => W.cell? ⟨w.heap.size, 0, none⟩ = some (.string s) ∧ W.cell? ⟨w.heap.size, 1, none⟩ = some (.int .i64 n) ∧ W.cell? ⟨w.heap.size, 2, none⟩ = some (.iface τ0 u0) ∧ W.cell? ⟨w.heap.size, 3, none⟩ = some (.iface τ1 u1))
    (first | exact SK.out _ _ hkt | exact SK.out _ _ hka | exact SK.out _ _ hk1 | exact SK.out _ _ kD)
    (first | (refine step_run2 hrun (by rfl) _ _ (by rfl) (by rfl) (by rfl) (by rfl) ?_) | (go_at_call 35; refine (itoa_any n hn0 hn1 _ hTX).mono ?_; rintro e w1 ⟨rfl, hb1⟩; obtain ⟨g, cap2, w2, hrun, hT2, hkt, hka, hk1⟩ := AP.out w1 hb1))
  all_goals
    go_wp2_with fail
    go_ret
    exact ⟨_, rfl, (Kt.of_below hXb).trans hkt, by simpa [headM] using hT2⟩

set_option maxRecDepth 100000 in
set_option maxHeartbeats 2000000 in
theorem hd_7 (L B D base : Nat) (s z : ByteArray) (nd n tK tN : Int) (a1 : Option Addr) (l1 c1 : Nat) (a2 : Option Addr) (l2 c2 : Nat) (τ0 τ1 τ2 : TypeId) (u0 u1 u2 : Value) (Ta Ts : List Tr) (P : List (List UInt8)) (v : Value) (w : World) (hB : B ≤ base) (hb : base ≤ w.heap.size) (hTab : TabB B w) (hT : Toks base w v P) (hP : P.length + 123 ≤ 1000000) (hn0 : -1000000 ≤ n) (hn1 : n ≤ 1000000) (hs : Hs L B w D a1 l1 Ta) (m : Nat) (hm : nodesW 6 ⟨tK, tN, Ta⟩ = some m) (hm6 : m ≤ 60) :
    Calls Tryd.prog 21 #[v, .iface 88 (.agg #[.string s, .int .i64 n, .int .i64 tK, .int .i64 tN, .slice a1 l1 c1, .iface τ0 u0, .iface τ1 u1])] w fun e w' => ∃ v' : Value, e = .returned v' ∧ Kt v w v' w' ∧ Toks base w' v' (P ++ headM 7 n s z ⟨tK, tN, Ta⟩ Ts) := by
  have as1 := fun (W : World) (v : Value) => no_numForm W 88 v (by decide)
  have as2 := fun (W : World) (v : Value) => no_boolForm W 88 v (by decide)
  have as3 := fun (W : World) (v : Value) => no_varForm W 88 v (by decide)
  have as4 := fun (W : World) (v : Value) => no_fnForm W 88 v (by decide)
  have as5 := fun (W : World) (v : Value) => no_appForm W 88 v (by decide)
  have as6 := fun (W : World) (v : Value) => no_letForm W 88 v (by decide)
  have as7 := fun (W : World) (v : Value) => is_fixForm W v
  obtain ⟨av, cv, rfl⟩ := toks_form1 hT
  obtain ⟨X, hX⟩ : ∃ X, X = w.alloc (.cells #[.string s, .int .i64 n, .int .i64 tK, .int .i64 tN, .slice a1 l1 c1, .iface τ0 u0, .iface τ1 u1] 88) := ⟨_, rfl⟩
  have hXs : X.heap.size = w.heap.size + 1 := by rw [hX]; simp
  have hXb : Below w.heap.size w X := by rw [hX]; exact (Below.refl _ _).alloc (Nat.le_refl _) _
  have hXT := toks_below hT hXb
  have hx : X.heap[w.heap.size]? = some (.cells #[.string s, .int .i64 n, .int .i64 tK, .int .i64 tN, .slice a1 l1 c1, .iface τ0 u0, .iface τ1 u1] 88 (0, 0)) := by rw [hX]; exact heap_new rfl
  have hne : Value.ownBlock (.slice av P.length cv) ≠ some w.heap.size := fun e => by have := (toks_in hT e).2; omega
  have SK : Hid (∀ (W : World) (v' : Value), Kt (.slice av P.length cv) X v' W → W.cell? ⟨w.heap.size, 0, none⟩ = some (.string s) ∧ W.cell? ⟨w.heap.size, 1, none⟩ = some (.int .i64 n) ∧ W.cell? ⟨w.heap.size, 2, none⟩ = some (.int .i64 tK) ∧ W.cell? ⟨w.heap.size, 3, none⟩ = some (.int .i64 tN) ∧ W.cell? ⟨w.heap.size, 4, none⟩ = some (.slice a1 l1 c1) ∧ W.cell? ⟨w.heap.size, 5, none⟩ = some (.iface τ0 u0) ∧ W.cell? ⟨w.heap.size, 6, none⟩ = some (.iface τ1 u1)) := by
    intro W v' hk
    have h0 := (hk.block w.heap.size (by omega) hne).trans hx
    refine ⟨?_, ?_, ?_, ?_, ?_, ?_, ?_⟩
    all_goals exact row_cell h0 _
  have hD : Below X.heap.size X X.drew := ⟨rfl, rfl, rfl, Nat.le_refl _, fun _ _ => rfl⟩
  have kD : Kt (.slice av P.length cv) X (.slice av P.length cv) X.drew := Kt.of_below hD
  have HX : Hid (X = _) := hX
  have hTX : TabB B X.drew := hTab.below ((hXb.trans (hD.mono (by omega))).mono (by omega))
  have AP : Hid (∀ W1 : World, Below X.drew.heap.size X.drew W1 → ∃ g cap2 w2, (Builtin.append_ #[47, 47] 47 #[.slice av P.length cv, .slice (some ⟨W1.heap.size, 0, none⟩) 3 3]).run Tryd.prog ((W1).alloc (.cells #[.string ⟨#[102, 105, 120]⟩, .string s, .string ⟨(Lib.itoa n).toArray⟩] 9)) = .ok (.slice (some ⟨g, 0, none⟩) (P.length + 3) cap2) w2 ∧ Toks base w2 (.slice (some ⟨g, 0, none⟩) (P.length + 3) cap2) (P ++ [[102, 105, 120], sb s, Lib.itoa n]) ∧ Kt (.slice av P.length cv) X (.slice (some ⟨g, 0, none⟩) (P.length + 3) cap2) w2 ∧ Kt (.slice av P.length cv) X (.slice av P.length cv) (W1.alloc (.cells #[.string ⟨#[102, 105, 120]⟩, .string s, .string ⟨(Lib.itoa n).toArray⟩] 9)) ∧ Kt (.slice av P.length cv) X (.slice av P.length cv) W1) := by
    intro W1 hb1
    have hz : X.heap.size ≤ W1.heap.size := hb1.size
    have hd1 : Below X.heap.size X W1 := hD.trans hb1
    obtain ⟨g, cap2, w2, hrun, hT2, hkt⟩ := toks_more3 (toks_below hXT hd1) (by omega) [[102, 105, 120], sb s, Lib.itoa n] (by simp) (by simp; omega) #[.string ⟨#[102, 105, 120]⟩, .string s, .string ⟨(Lib.itoa n).toArray⟩] (by simp [tk, sb]) 3 rfl P.length rfl
    exact ⟨g, cap2, w2, hrun, hT2, (Kt.of_below hd1).trans hkt, (Kt.of_below hd1).trans (Kt.of_below ((Below.refl _ _).alloc (Nat.le_refl _) _)), Kt.of_below hd1⟩
  have TT : Hid (∀ (w2 : World) (v2 : Value), Kt (.slice av P.length cv) X v2 w2 → Toks base w2 v2 (P ++ [[102, 105, 120], sb s, Lib.itoa n]) → Calls Tryd.prog 36 #[v2, .agg #[.int .i64 tK, .int .i64 tN, .slice a1 l1 c1]] w2 fun e w' => ∃ v' : Value, e = .returned v' ∧ Kt (.slice av P.length cv) X v' w' ∧ Toks base w' v' (P ++ headM 7 n s z ⟨tK, tN, Ta⟩ Ts)) := by
    intro w2 v2 hk hT2
    have hbe : Below base X w2 := hk.below hXT (by omega)
    have hz := hbe.size
    have hbw : Below base w w2 := (hXb.mono hb).trans hbe
    refine (tk_any 6 D L B base v2 _ tK tN a1 l1 c1 Ta m w2 hB (by omega) (hs.keep (fun q _ hq => hbw.block q (by omega)) (Nat.le_refl _) (Nat.le_refl _)) hm hT2 (by simp; omega)).mono ?_
    rintro e w' ⟨v', rfl, _, h3, h4⟩
    refine ⟨v', rfl, hk.trans h4, ?_⟩
    have eH : P ++ headM 7 n s z ⟨tK, tN, Ta⟩ Ts = P ++ [[102, 105, 120], sb s, Lib.itoa n] ++ toksW 6 ⟨tK, tN, Ta⟩ := by simp [headM]
    rw [eH]
    exact h3
  clear hXs hX hx hne hT hs hm hTab
  go_enter Tryd.func21, Tryd.ntmps21
  go_wp2_with fail
  rw [← HX.out]
  go_region_held3 (fun W => W.cell? ⟨w.heap.size, 0, none⟩ = some (.string s) ∧ W.cell? ⟨w.heap.size, 1, none⟩ = some (.int .i64 n) ∧ W.cell? ⟨w.heap.size, 2, none⟩ = some (.int .i64 tK) ∧ W.cell? ⟨w.heap.size, 3, none⟩ = some (.int .i64 tN) ∧ W.cell? ⟨w.heap.size, 4, none⟩ = some (.slice a1 l1 c1) ∧ W.cell? ⟨w.heap.size, 5, none⟩ = some (.iface τ0 u0) ∧ W.cell? ⟨w.heap.size, 6, none⟩ = some (.iface τ1 u1))
    (first | exact SK.out _ _ hk5 | exact SK.out _ _ hkt | exact SK.out _ _ hka | exact SK.out _ _ hk1 | exact SK.out _ _ kD)
    (first | (go_at_call 36; refine (TT.out _ _ hkt hT2).mono ?_; rintro e w5 ⟨v5, rfl, hk5, hT5⟩) | (refine step_run2 hrun (by rfl) _ _ (by rfl) (by rfl) (by rfl) (by rfl) ?_) | (go_at_call 35; refine (itoa_any n hn0 hn1 _ hTX).mono ?_; rintro e w1 ⟨rfl, hb1⟩; obtain ⟨g, cap2, w2, hrun, hT2, hkt, hka, hk1⟩ := AP.out w1 hb1))
  all_goals
    go_wp2_with fail
    go_ret
    exact ⟨_, rfl, (Kt.of_below hXb).trans hk5, hT5⟩

set_option maxRecDepth 100000 in
set_option maxHeartbeats 2000000 in
theorem hd_8 (L B D base : Nat) (s z : ByteArray) (nd n tK tN : Int) (a1 : Option Addr) (l1 c1 : Nat) (a2 : Option Addr) (l2 c2 : Nat) (τ0 τ1 τ2 : TypeId) (u0 u1 u2 : Value) (Ta Ts : List Tr) (P : List (List UInt8)) (v : Value) (w : World) (hB : B ≤ base) (hb : base ≤ w.heap.size) (hTab : TabB B w) (hT : Toks base w v P) (hP : P.length + 123 ≤ 1000000) :
    Calls Tryd.prog 21 #[v, .iface 90 (.agg #[.iface τ0 u0, .iface τ1 u1, .iface τ2 u2])] w fun e w' => ∃ v' : Value, e = .returned v' ∧ Kt v w v' w' ∧ Toks base w' v' (P ++ headM 8 n s z ⟨tK, tN, Ta⟩ Ts) := by
  have as1 := fun (W : World) (v : Value) => no_numForm W 90 v (by decide)
  have as2 := fun (W : World) (v : Value) => no_boolForm W 90 v (by decide)
  have as3 := fun (W : World) (v : Value) => no_varForm W 90 v (by decide)
  have as4 := fun (W : World) (v : Value) => no_fnForm W 90 v (by decide)
  have as5 := fun (W : World) (v : Value) => no_appForm W 90 v (by decide)
  have as6 := fun (W : World) (v : Value) => no_letForm W 90 v (by decide)
  have as7 := fun (W : World) (v : Value) => no_fixForm W 90 v (by decide)
  have as8 := fun (W : World) (v : Value) => is_ifForm W v
  obtain ⟨av, cv, rfl⟩ := toks_form1 hT
  obtain ⟨X, hX⟩ : ∃ X, X = w.alloc (.cells #[.iface τ0 u0, .iface τ1 u1, .iface τ2 u2] 90) := ⟨_, rfl⟩
  have hXs : X.heap.size = w.heap.size + 1 := by rw [hX]; simp
  have hXb : Below w.heap.size w X := by rw [hX]; exact (Below.refl _ _).alloc (Nat.le_refl _) _
  have hXT := toks_below hT hXb
  obtain ⟨g, cap2, w2, hrun, hT2, hkt⟩ := toks_more3 hXT (by omega) [[105, 102]] (by simp) (by simp; omega) #[.string ⟨#[105, 102]⟩] (by simp [tk, sb]) 1 rfl P.length rfl
  have HR : Hid ((Builtin.append_ #[47, 47] 47 #[.slice av P.length cv, .slice (some ⟨w.heap.size + 1, 0, none⟩) 1 1]).run Tryd.prog ((w.alloc (.cells #[.iface τ0 u0, .iface τ1 u1, .iface τ2 u2] 90)).alloc (.cells #[.string ⟨#[105, 102]⟩] 9)) = .ok (.slice (some ⟨g, 0, none⟩) (P.length + 1) cap2) w2) := by
    show _ = _
    rw [← hXs, ← hX]
    exact hrun
  have hk2 := (Kt.of_below hXb).trans hkt
  have HT2 : Hid (Toks base w2 (.slice (some ⟨g, 0, none⟩) (P.length + 1) cap2) (P ++ headM 8 n s z ⟨tK, tN, Ta⟩ Ts)) := by
    show Toks _ _ _ _
    simpa [headM, wordM] using hT2
  clear hrun hX hXs hXb hXT hkt hT2 hT
  go_enter Tryd.func21, Tryd.ntmps21
  go_wp2_with (at_builtin; refine list_run HR.out (by rfl) _ _ (by rfl) (by rfl) (by rfl) (by rfl) ?_)
  go_ret
  exact ⟨_, rfl, hk2, HT2.out⟩

set_option maxRecDepth 100000 in
set_option maxHeartbeats 2000000 in
theorem hd_9 (L B D base : Nat) (s z : ByteArray) (nd n tK tN : Int) (a1 : Option Addr) (l1 c1 : Nat) (a2 : Option Addr) (l2 c2 : Nat) (τ0 τ1 τ2 : TypeId) (u0 u1 u2 : Value) (Ta Ts : List Tr) (P : List (List UInt8)) (v : Value) (w : World) (hB : B ≤ base) (hb : base ≤ w.heap.size) (hTab : TabB B w) (hT : Toks base w v P) (hP : P.length + 123 ≤ 1000000) :
    Calls Tryd.prog 21 #[v, .iface 92 (.agg #[.iface τ0 u0, .iface τ1 u1])] w fun e w' => ∃ v' : Value, e = .returned v' ∧ Kt v w v' w' ∧ Toks base w' v' (P ++ headM 9 n s z ⟨tK, tN, Ta⟩ Ts) := by
  have as1 := fun (W : World) (v : Value) => no_numForm W 92 v (by decide)
  have as2 := fun (W : World) (v : Value) => no_boolForm W 92 v (by decide)
  have as3 := fun (W : World) (v : Value) => no_varForm W 92 v (by decide)
  have as4 := fun (W : World) (v : Value) => no_fnForm W 92 v (by decide)
  have as5 := fun (W : World) (v : Value) => no_appForm W 92 v (by decide)
  have as6 := fun (W : World) (v : Value) => no_letForm W 92 v (by decide)
  have as7 := fun (W : World) (v : Value) => no_fixForm W 92 v (by decide)
  have as8 := fun (W : World) (v : Value) => no_ifForm W 92 v (by decide)
  have as9 := fun (W : World) (v : Value) => is_pairForm W v
  obtain ⟨av, cv, rfl⟩ := toks_form1 hT
  obtain ⟨X, hX⟩ : ∃ X, X = w.alloc (.cells #[.iface τ0 u0, .iface τ1 u1] 92) := ⟨_, rfl⟩
  have hXs : X.heap.size = w.heap.size + 1 := by rw [hX]; simp
  have hXb : Below w.heap.size w X := by rw [hX]; exact (Below.refl _ _).alloc (Nat.le_refl _) _
  have hXT := toks_below hT hXb
  obtain ⟨g, cap2, w2, hrun, hT2, hkt⟩ := toks_more3 hXT (by omega) [[112, 97, 105, 114]] (by simp) (by simp; omega) #[.string ⟨#[112, 97, 105, 114]⟩] (by simp [tk, sb]) 1 rfl P.length rfl
  have HR : Hid ((Builtin.append_ #[47, 47] 47 #[.slice av P.length cv, .slice (some ⟨w.heap.size + 1, 0, none⟩) 1 1]).run Tryd.prog ((w.alloc (.cells #[.iface τ0 u0, .iface τ1 u1] 92)).alloc (.cells #[.string ⟨#[112, 97, 105, 114]⟩] 9)) = .ok (.slice (some ⟨g, 0, none⟩) (P.length + 1) cap2) w2) := by
    show _ = _
    rw [← hXs, ← hX]
    exact hrun
  have hk2 := (Kt.of_below hXb).trans hkt
  have HT2 : Hid (Toks base w2 (.slice (some ⟨g, 0, none⟩) (P.length + 1) cap2) (P ++ headM 9 n s z ⟨tK, tN, Ta⟩ Ts)) := by
    show Toks _ _ _ _
    simpa [headM, wordM] using hT2
  clear hrun hX hXs hXb hXT hkt hT2 hT
  go_enter Tryd.func21, Tryd.ntmps21
  go_wp2_with (at_builtin; refine list_run HR.out (by rfl) _ _ (by rfl) (by rfl) (by rfl) (by rfl) ?_)
  go_ret
  exact ⟨_, rfl, hk2, HT2.out⟩

set_option maxRecDepth 100000 in
set_option maxHeartbeats 2000000 in
theorem hd_10 (L B D base : Nat) (s z : ByteArray) (nd n tK tN : Int) (a1 : Option Addr) (l1 c1 : Nat) (a2 : Option Addr) (l2 c2 : Nat) (τ0 τ1 τ2 : TypeId) (u0 u1 u2 : Value) (Ta Ts : List Tr) (P : List (List UInt8)) (v : Value) (w : World) (hB : B ≤ base) (hb : base ≤ w.heap.size) (hTab : TabB B w) (hT : Toks base w v P) (hP : P.length + 123 ≤ 1000000) :
    Calls Tryd.prog 21 #[v, .iface 94 (.agg #[.iface τ0 u0])] w fun e w' => ∃ v' : Value, e = .returned v' ∧ Kt v w v' w' ∧ Toks base w' v' (P ++ headM 10 n s z ⟨tK, tN, Ta⟩ Ts) := by
  have as1 := fun (W : World) (v : Value) => no_numForm W 94 v (by decide)
  have as2 := fun (W : World) (v : Value) => no_boolForm W 94 v (by decide)
  have as3 := fun (W : World) (v : Value) => no_varForm W 94 v (by decide)
  have as4 := fun (W : World) (v : Value) => no_fnForm W 94 v (by decide)
  have as5 := fun (W : World) (v : Value) => no_appForm W 94 v (by decide)
  have as6 := fun (W : World) (v : Value) => no_letForm W 94 v (by decide)
  have as7 := fun (W : World) (v : Value) => no_fixForm W 94 v (by decide)
  have as8 := fun (W : World) (v : Value) => no_ifForm W 94 v (by decide)
  have as9 := fun (W : World) (v : Value) => no_pairForm W 94 v (by decide)
  have as10 := fun (W : World) (v : Value) => is_fstForm W v
  obtain ⟨av, cv, rfl⟩ := toks_form1 hT
  obtain ⟨X, hX⟩ : ∃ X, X = w.alloc (.cells #[.iface τ0 u0] 94) := ⟨_, rfl⟩
  have hXs : X.heap.size = w.heap.size + 1 := by rw [hX]; simp
  have hXb : Below w.heap.size w X := by rw [hX]; exact (Below.refl _ _).alloc (Nat.le_refl _) _
  have hXT := toks_below hT hXb
  obtain ⟨g, cap2, w2, hrun, hT2, hkt⟩ := toks_more3 hXT (by omega) [[102, 115, 116]] (by simp) (by simp; omega) #[.string ⟨#[102, 115, 116]⟩] (by simp [tk, sb]) 1 rfl P.length rfl
  have HR : Hid ((Builtin.append_ #[47, 47] 47 #[.slice av P.length cv, .slice (some ⟨w.heap.size + 1, 0, none⟩) 1 1]).run Tryd.prog ((w.alloc (.cells #[.iface τ0 u0] 94)).alloc (.cells #[.string ⟨#[102, 115, 116]⟩] 9)) = .ok (.slice (some ⟨g, 0, none⟩) (P.length + 1) cap2) w2) := by
    show _ = _
    rw [← hXs, ← hX]
    exact hrun
  have hk2 := (Kt.of_below hXb).trans hkt
  have HT2 : Hid (Toks base w2 (.slice (some ⟨g, 0, none⟩) (P.length + 1) cap2) (P ++ headM 10 n s z ⟨tK, tN, Ta⟩ Ts)) := by
    show Toks _ _ _ _
    simpa [headM, wordM] using hT2
  clear hrun hX hXs hXb hXT hkt hT2 hT
  go_enter Tryd.func21, Tryd.ntmps21
  go_wp2_with (at_builtin; refine list_run HR.out (by rfl) _ _ (by rfl) (by rfl) (by rfl) (by rfl) ?_)
  go_ret
  exact ⟨_, rfl, hk2, HT2.out⟩

set_option maxRecDepth 100000 in
set_option maxHeartbeats 2000000 in
theorem hd_11 (L B D base : Nat) (s z : ByteArray) (nd n tK tN : Int) (a1 : Option Addr) (l1 c1 : Nat) (a2 : Option Addr) (l2 c2 : Nat) (τ0 τ1 τ2 : TypeId) (u0 u1 u2 : Value) (Ta Ts : List Tr) (P : List (List UInt8)) (v : Value) (w : World) (hB : B ≤ base) (hb : base ≤ w.heap.size) (hTab : TabB B w) (hT : Toks base w v P) (hP : P.length + 123 ≤ 1000000) :
    Calls Tryd.prog 21 #[v, .iface 95 (.agg #[.iface τ0 u0])] w fun e w' => ∃ v' : Value, e = .returned v' ∧ Kt v w v' w' ∧ Toks base w' v' (P ++ headM 11 n s z ⟨tK, tN, Ta⟩ Ts) := by
  have as1 := fun (W : World) (v : Value) => no_numForm W 95 v (by decide)
  have as2 := fun (W : World) (v : Value) => no_boolForm W 95 v (by decide)
  have as3 := fun (W : World) (v : Value) => no_varForm W 95 v (by decide)
  have as4 := fun (W : World) (v : Value) => no_fnForm W 95 v (by decide)
  have as5 := fun (W : World) (v : Value) => no_appForm W 95 v (by decide)
  have as6 := fun (W : World) (v : Value) => no_letForm W 95 v (by decide)
  have as7 := fun (W : World) (v : Value) => no_fixForm W 95 v (by decide)
  have as8 := fun (W : World) (v : Value) => no_ifForm W 95 v (by decide)
  have as9 := fun (W : World) (v : Value) => no_pairForm W 95 v (by decide)
  have as10 := fun (W : World) (v : Value) => no_fstForm W 95 v (by decide)
  have as11 := fun (W : World) (v : Value) => is_sndForm W v
  obtain ⟨av, cv, rfl⟩ := toks_form1 hT
  obtain ⟨X, hX⟩ : ∃ X, X = w.alloc (.cells #[.iface τ0 u0] 95) := ⟨_, rfl⟩
  have hXs : X.heap.size = w.heap.size + 1 := by rw [hX]; simp
  have hXb : Below w.heap.size w X := by rw [hX]; exact (Below.refl _ _).alloc (Nat.le_refl _) _
  have hXT := toks_below hT hXb
  obtain ⟨g, cap2, w2, hrun, hT2, hkt⟩ := toks_more3 hXT (by omega) [[115, 110, 100]] (by simp) (by simp; omega) #[.string ⟨#[115, 110, 100]⟩] (by simp [tk, sb]) 1 rfl P.length rfl
  have HR : Hid ((Builtin.append_ #[47, 47] 47 #[.slice av P.length cv, .slice (some ⟨w.heap.size + 1, 0, none⟩) 1 1]).run Tryd.prog ((w.alloc (.cells #[.iface τ0 u0] 95)).alloc (.cells #[.string ⟨#[115, 110, 100]⟩] 9)) = .ok (.slice (some ⟨g, 0, none⟩) (P.length + 1) cap2) w2) := by
    show _ = _
    rw [← hXs, ← hX]
    exact hrun
  have hk2 := (Kt.of_below hXb).trans hkt
  have HT2 : Hid (Toks base w2 (.slice (some ⟨g, 0, none⟩) (P.length + 1) cap2) (P ++ headM 11 n s z ⟨tK, tN, Ta⟩ Ts)) := by
    show Toks _ _ _ _
    simpa [headM, wordM] using hT2
  clear hrun hX hXs hXb hXT hkt hT2 hT
  go_enter Tryd.func21, Tryd.ntmps21
  go_wp2_with (at_builtin; refine list_run HR.out (by rfl) _ _ (by rfl) (by rfl) (by rfl) (by rfl) ?_)
  go_ret
  exact ⟨_, rfl, hk2, HT2.out⟩

set_option maxRecDepth 100000 in
set_option maxHeartbeats 2000000 in
theorem hd_12 (L B D base : Nat) (s z : ByteArray) (nd n tK tN : Int) (a1 : Option Addr) (l1 c1 : Nat) (a2 : Option Addr) (l2 c2 : Nat) (τ0 τ1 τ2 : TypeId) (u0 u1 u2 : Value) (Ta Ts : List Tr) (P : List (List UInt8)) (v : Value) (w : World) (hB : B ≤ base) (hb : base ≤ w.heap.size) (hTab : TabB B w) (hT : Toks base w v P) (hP : P.length + 123 ≤ 1000000) (hs : Hs L B w D a1 l1 Ta) (m : Nat) (hm : nodesW 6 ⟨tK, tN, Ta⟩ = some m) (hm6 : m ≤ 60) :
    Calls Tryd.prog 21 #[v, .iface 97 (.agg #[.int .i64 tK, .int .i64 tN, .slice a1 l1 c1])] w fun e w' => ∃ v' : Value, e = .returned v' ∧ Kt v w v' w' ∧ Toks base w' v' (P ++ headM 12 n s z ⟨tK, tN, Ta⟩ Ts) := by
  have as1 := fun (W : World) (v : Value) => no_numForm W 97 v (by decide)
  have as2 := fun (W : World) (v : Value) => no_boolForm W 97 v (by decide)
  have as3 := fun (W : World) (v : Value) => no_varForm W 97 v (by decide)
  have as4 := fun (W : World) (v : Value) => no_fnForm W 97 v (by decide)
  have as5 := fun (W : World) (v : Value) => no_appForm W 97 v (by decide)
  have as6 := fun (W : World) (v : Value) => no_letForm W 97 v (by decide)
  have as7 := fun (W : World) (v : Value) => no_fixForm W 97 v (by decide)
  have as8 := fun (W : World) (v : Value) => no_ifForm W 97 v (by decide)
  have as9 := fun (W : World) (v : Value) => no_pairForm W 97 v (by decide)
  have as10 := fun (W : World) (v : Value) => no_fstForm W 97 v (by decide)
  have as11 := fun (W : World) (v : Value) => no_sndForm W 97 v (by decide)
  have as12 := fun (W : World) (v : Value) => is_nilForm W v
  obtain ⟨av, cv, rfl⟩ := toks_form1 hT
  obtain ⟨X, hX⟩ : ∃ X, X = w.alloc (.cells #[.int .i64 tK, .int .i64 tN, .slice a1 l1 c1] 97) := ⟨_, rfl⟩
  have hXs : X.heap.size = w.heap.size + 1 := by rw [hX]; simp
  have hXb : Below w.heap.size w X := by rw [hX]; exact (Below.refl _ _).alloc (Nat.le_refl _) _
  have hXT := toks_below hT hXb
  have hx : X.heap[w.heap.size]? = some (.cells #[.int .i64 tK, .int .i64 tN, .slice a1 l1 c1] 97 (0, 0)) := by rw [hX]; exact heap_new rfl
  have hne : Value.ownBlock (.slice av P.length cv) ≠ some w.heap.size := fun e => by have := (toks_in hT e).2; omega
  have SK : Hid (∀ (W : World) (v' : Value), Kt (.slice av P.length cv) X v' W → W.cell? ⟨w.heap.size, 0, none⟩ = some (.int .i64 tK) ∧ W.cell? ⟨w.heap.size, 1, none⟩ = some (.int .i64 tN) ∧ W.cell? ⟨w.heap.size, 2, none⟩ = some (.slice a1 l1 c1)) := by
    intro W v' hk
    have h0 := (hk.block w.heap.size (by omega) hne).trans hx
    refine ⟨?_, ?_, ?_⟩
    all_goals exact row_cell h0 _
  have hD : Below X.heap.size X X.drew := ⟨rfl, rfl, rfl, Nat.le_refl _, fun _ _ => rfl⟩
  have kD : Kt (.slice av P.length cv) X (.slice av P.length cv) X.drew := Kt.of_below hD
  have HX : Hid (X = _) := hX
  obtain ⟨g, cap2, w2, hrun, hT2, hkt0⟩ := toks_more3 (toks_below hXT hD) (by show base ≤ X.heap.size; omega) [[110, 105, 108]] (by simp) (by simp; omega) #[.string ⟨#[110, 105, 108]⟩] (by simp [tk, sb]) 1 rfl P.length rfl
  have HR : Hid ((Builtin.append_ #[47, 47] 47 #[.slice av P.length cv, .slice (some ⟨X.drew.heap.size, 0, none⟩) 1 1]).run Tryd.prog ((X.drew).alloc (.cells #[.string ⟨#[110, 105, 108]⟩] 9)) = .ok (.slice (some ⟨g, 0, none⟩) (P.length + 1) cap2) w2) := hrun
  have hkt := kD.trans hkt0
  have hka : Kt (.slice av P.length cv) X (.slice av P.length cv) (X.drew.alloc (.cells #[.string ⟨#[110, 105, 108]⟩] 9)) := kD.trans (Kt.of_below ((Below.refl _ _).alloc (Nat.le_refl _) _))
  clear hrun hkt0
  have TT : Hid (∀ (w2 : World) (v2 : Value), Kt (.slice av P.length cv) X v2 w2 → Toks base w2 v2 (P ++ [[110, 105, 108]]) → Calls Tryd.prog 36 #[v2, .agg #[.int .i64 tK, .int .i64 tN, .slice a1 l1 c1]] w2 fun e w' => ∃ v' : Value, e = .returned v' ∧ Kt (.slice av P.length cv) X v' w' ∧ Toks base w' v' (P ++ headM 12 n s z ⟨tK, tN, Ta⟩ Ts)) := by
    intro w2 v2 hk hT2
    have hbe : Below base X w2 := hk.below hXT (by omega)
    have hz := hbe.size
    have hbw : Below base w w2 := (hXb.mono hb).trans hbe
    refine (tk_any 6 D L B base v2 _ tK tN a1 l1 c1 Ta m w2 hB (by omega) (hs.keep (fun q _ hq => hbw.block q (by omega)) (Nat.le_refl _) (Nat.le_refl _)) hm hT2 (by simp; omega)).mono ?_
    rintro e w' ⟨v', rfl, _, h3, h4⟩
    refine ⟨v', rfl, hk.trans h4, ?_⟩
    have eH : P ++ headM 12 n s z ⟨tK, tN, Ta⟩ Ts = P ++ [[110, 105, 108]] ++ toksW 6 ⟨tK, tN, Ta⟩ := by simp [headM]
    rw [eH]
    exact h3
  clear hXs hX hx hne hT hs hm hTab
  go_enter Tryd.func21, Tryd.ntmps21
  go_wp2_with fail
  rw [← HX.out]
  go_region_held3 (fun W => W.cell? ⟨w.heap.size, 0, none⟩ = some (.int .i64 tK) ∧ W.cell? ⟨w.heap.size, 1, none⟩ = some (.int .i64 tN) ∧ W.cell? ⟨w.heap.size, 2, none⟩ = some (.slice a1 l1 c1))
    (first | exact SK.out _ _ hk5 | exact SK.out _ _ hkt | exact SK.out _ _ hka | exact SK.out _ _ kD)
    (first | (go_at_call 36; refine (TT.out _ _ hkt hT2).mono ?_; rintro e w5 ⟨v5, rfl, hk5, hT5⟩) | (refine step_run2 HR.out (by rfl) _ _ (by rfl) (by rfl) (by rfl) (by rfl) ?_))
  all_goals
    go_wp2_with fail
    go_ret
    exact ⟨_, rfl, (Kt.of_below hXb).trans hk5, hT5⟩

set_option maxRecDepth 100000 in
set_option maxHeartbeats 2000000 in
theorem hd_13 (L B D base : Nat) (s z : ByteArray) (nd n tK tN : Int) (a1 : Option Addr) (l1 c1 : Nat) (a2 : Option Addr) (l2 c2 : Nat) (τ0 τ1 τ2 : TypeId) (u0 u1 u2 : Value) (Ta Ts : List Tr) (P : List (List UInt8)) (v : Value) (w : World) (hB : B ≤ base) (hb : base ≤ w.heap.size) (hTab : TabB B w) (hT : Toks base w v P) (hP : P.length + 123 ≤ 1000000) :
    Calls Tryd.prog 21 #[v, .iface 99 (.agg #[.iface τ0 u0, .iface τ1 u1])] w fun e w' => ∃ v' : Value, e = .returned v' ∧ Kt v w v' w' ∧ Toks base w' v' (P ++ headM 13 n s z ⟨tK, tN, Ta⟩ Ts) := by
  have as1 := fun (W : World) (v : Value) => no_numForm W 99 v (by decide)
  have as2 := fun (W : World) (v : Value) => no_boolForm W 99 v (by decide)
  have as3 := fun (W : World) (v : Value) => no_varForm W 99 v (by decide)
  have as4 := fun (W : World) (v : Value) => no_fnForm W 99 v (by decide)
  have as5 := fun (W : World) (v : Value) => no_appForm W 99 v (by decide)
  have as6 := fun (W : World) (v : Value) => no_letForm W 99 v (by decide)
  have as7 := fun (W : World) (v : Value) => no_fixForm W 99 v (by decide)
  have as8 := fun (W : World) (v : Value) => no_ifForm W 99 v (by decide)
  have as9 := fun (W : World) (v : Value) => no_pairForm W 99 v (by decide)
  have as10 := fun (W : World) (v : Value) => no_fstForm W 99 v (by decide)
  have as11 := fun (W : World) (v : Value) => no_sndForm W 99 v (by decide)
  have as12 := fun (W : World) (v : Value) => no_nilForm W 99 v (by decide)
  have as13 := fun (W : World) (v : Value) => is_consForm W v
  obtain ⟨av, cv, rfl⟩ := toks_form1 hT
  obtain ⟨X, hX⟩ : ∃ X, X = w.alloc (.cells #[.iface τ0 u0, .iface τ1 u1] 99) := ⟨_, rfl⟩
  have hXs : X.heap.size = w.heap.size + 1 := by rw [hX]; simp
  have hXb : Below w.heap.size w X := by rw [hX]; exact (Below.refl _ _).alloc (Nat.le_refl _) _
  have hXT := toks_below hT hXb
  obtain ⟨g, cap2, w2, hrun, hT2, hkt⟩ := toks_more3 hXT (by omega) [[99, 111, 110, 115]] (by simp) (by simp; omega) #[.string ⟨#[99, 111, 110, 115]⟩] (by simp [tk, sb]) 1 rfl P.length rfl
  have HR : Hid ((Builtin.append_ #[47, 47] 47 #[.slice av P.length cv, .slice (some ⟨w.heap.size + 1, 0, none⟩) 1 1]).run Tryd.prog ((w.alloc (.cells #[.iface τ0 u0, .iface τ1 u1] 99)).alloc (.cells #[.string ⟨#[99, 111, 110, 115]⟩] 9)) = .ok (.slice (some ⟨g, 0, none⟩) (P.length + 1) cap2) w2) := by
    show _ = _
    rw [← hXs, ← hX]
    exact hrun
  have hk2 := (Kt.of_below hXb).trans hkt
  have HT2 : Hid (Toks base w2 (.slice (some ⟨g, 0, none⟩) (P.length + 1) cap2) (P ++ headM 13 n s z ⟨tK, tN, Ta⟩ Ts)) := by
    show Toks _ _ _ _
    simpa [headM, wordM] using hT2
  clear hrun hX hXs hXb hXT hkt hT2 hT
  go_enter Tryd.func21, Tryd.ntmps21
  go_wp2_with (at_builtin; refine list_run HR.out (by rfl) _ _ (by rfl) (by rfl) (by rfl) (by rfl) ?_)
  go_ret
  exact ⟨_, rfl, hk2, HT2.out⟩

set_option maxRecDepth 100000 in
set_option maxHeartbeats 2000000 in
theorem hd_14 (L B D base : Nat) (s z : ByteArray) (nd n tK tN : Int) (a1 : Option Addr) (l1 c1 : Nat) (a2 : Option Addr) (l2 c2 : Nat) (τ0 τ1 τ2 : TypeId) (u0 u1 u2 : Value) (Ta Ts : List Tr) (P : List (List UInt8)) (v : Value) (w : World) (hB : B ≤ base) (hb : base ≤ w.heap.size) (hTab : TabB B w) (hT : Toks base w v P) (hP : P.length + 123 ≤ 1000000) :
    Calls Tryd.prog 21 #[v, .iface 101 (.agg #[.string s, .string z, .iface τ0 u0, .iface τ1 u1, .iface τ2 u2])] w fun e w' => ∃ v' : Value, e = .returned v' ∧ Kt v w v' w' ∧ Toks base w' v' (P ++ headM 14 n s z ⟨tK, tN, Ta⟩ Ts) := by
  have as1 := fun (W : World) (v : Value) => no_numForm W 101 v (by decide)
  have as2 := fun (W : World) (v : Value) => no_boolForm W 101 v (by decide)
  have as3 := fun (W : World) (v : Value) => no_varForm W 101 v (by decide)
  have as4 := fun (W : World) (v : Value) => no_fnForm W 101 v (by decide)
  have as5 := fun (W : World) (v : Value) => no_appForm W 101 v (by decide)
  have as6 := fun (W : World) (v : Value) => no_letForm W 101 v (by decide)
  have as7 := fun (W : World) (v : Value) => no_fixForm W 101 v (by decide)
  have as8 := fun (W : World) (v : Value) => no_ifForm W 101 v (by decide)
  have as9 := fun (W : World) (v : Value) => no_pairForm W 101 v (by decide)
  have as10 := fun (W : World) (v : Value) => no_fstForm W 101 v (by decide)
  have as11 := fun (W : World) (v : Value) => no_sndForm W 101 v (by decide)
  have as12 := fun (W : World) (v : Value) => no_nilForm W 101 v (by decide)
  have as13 := fun (W : World) (v : Value) => no_consForm W 101 v (by decide)
  have as14 := fun (W : World) (v : Value) => is_caseForm W v
  obtain ⟨av, cv, rfl⟩ := toks_form1 hT
  obtain ⟨X, hX⟩ : ∃ X, X = w.alloc (.cells #[.string s, .string z, .iface τ0 u0, .iface τ1 u1, .iface τ2 u2] 101) := ⟨_, rfl⟩
  have hXs : X.heap.size = w.heap.size + 1 := by rw [hX]; simp
  have hXb : Below w.heap.size w X := by rw [hX]; exact (Below.refl _ _).alloc (Nat.le_refl _) _
  have hXT := toks_below hT hXb
  obtain ⟨g, cap2, w2, hrun, hT2, hkt⟩ := toks_more3 hXT (by omega) [[99, 97, 115, 101], sb s, sb z] (by simp) (by simp; omega) #[.string ⟨#[99, 97, 115, 101]⟩, .string s, .string z] (by simp [tk, sb]) 3 rfl P.length rfl
  have HR : Hid ((Builtin.append_ #[47, 47] 47 #[.slice av P.length cv, .slice (some ⟨w.heap.size + 1, 0, none⟩) 3 3]).run Tryd.prog ((w.alloc (.cells #[.string s, .string z, .iface τ0 u0, .iface τ1 u1, .iface τ2 u2] 101)).alloc (.cells #[.string ⟨#[99, 97, 115, 101]⟩, .string s, .string z] 9)) = .ok (.slice (some ⟨g, 0, none⟩) (P.length + 3) cap2) w2) := by
    show _ = _
    rw [← hXs, ← hX]
    exact hrun
  have hk2 := (Kt.of_below hXb).trans hkt
  have HT2 : Hid (Toks base w2 (.slice (some ⟨g, 0, none⟩) (P.length + 3) cap2) (P ++ headM 14 n s z ⟨tK, tN, Ta⟩ Ts)) := by
    show Toks _ _ _ _
    simpa [headM, wordM] using hT2
  clear hrun hX hXs hXb hXT hkt hT2 hT
  go_enter Tryd.func21, Tryd.ntmps21
  go_wp2_with (at_builtin; refine list_run HR.out (by rfl) _ _ (by rfl) (by rfl) (by rfl) (by rfl) ?_)
  go_ret
  exact ⟨_, rfl, hk2, HT2.out⟩

set_option maxRecDepth 100000 in
set_option maxHeartbeats 2000000 in
theorem hd_15 (L B D base : Nat) (s z : ByteArray) (nd n tK tN : Int) (a1 : Option Addr) (l1 c1 : Nat) (a2 : Option Addr) (l2 c2 : Nat) (τ0 τ1 τ2 : TypeId) (u0 u1 u2 : Value) (Ta Ts : List Tr) (P : List (List UInt8)) (v : Value) (w : World) (hB : B ≤ base) (hb : base ≤ w.heap.size) (hTab : TabB B w) (hT : Toks base w v P) (hP : P.length + 123 ≤ 1000000) (hn : n = 1 ∨ n = 2 ∨ n = 3 ∨ n = 4 ∨ n = 5) :
    Calls Tryd.prog 21 #[v, .iface 103 (.agg #[.int .i64 n, .iface τ0 u0, .iface τ1 u1])] w fun e w' => ∃ v' : Value, e = .returned v' ∧ Kt v w v' w' ∧ Toks base w' v' (P ++ headM 15 n s z ⟨tK, tN, Ta⟩ Ts) := by
  have as1 := fun (W : World) (v : Value) => no_numForm W 103 v (by decide)
  have as2 := fun (W : World) (v : Value) => no_boolForm W 103 v (by decide)
  have as3 := fun (W : World) (v : Value) => no_varForm W 103 v (by decide)
  have as4 := fun (W : World) (v : Value) => no_fnForm W 103 v (by decide)
  have as5 := fun (W : World) (v : Value) => no_appForm W 103 v (by decide)
  have as6 := fun (W : World) (v : Value) => no_letForm W 103 v (by decide)
  have as7 := fun (W : World) (v : Value) => no_fixForm W 103 v (by decide)
  have as8 := fun (W : World) (v : Value) => no_ifForm W 103 v (by decide)
  have as9 := fun (W : World) (v : Value) => no_pairForm W 103 v (by decide)
  have as10 := fun (W : World) (v : Value) => no_fstForm W 103 v (by decide)
  have as11 := fun (W : World) (v : Value) => no_sndForm W 103 v (by decide)
  have as12 := fun (W : World) (v : Value) => no_nilForm W 103 v (by decide)
  have as13 := fun (W : World) (v : Value) => no_consForm W 103 v (by decide)
  have as14 := fun (W : World) (v : Value) => no_caseForm W 103 v (by decide)
  have as15 := fun (W : World) (v : Value) => is_opForm W v
  obtain ⟨av, cv, rfl⟩ := toks_form1 hT
  rcases hn with rfl | rfl | rfl | rfl | rfl
  · obtain ⟨X, hX⟩ : ∃ X, X = w.alloc (.cells #[.int .i64 1, .iface τ0 u0, .iface τ1 u1] 103) := ⟨_, rfl⟩
    have hXs : X.heap.size = w.heap.size + 1 := by rw [hX]; simp
    have hXb : Below w.heap.size w X := by rw [hX]; exact (Below.refl _ _).alloc (Nat.le_refl _) _
    have hXT := toks_below hT hXb
    obtain ⟨g, cap2, w2, hrun, hT2, hkt⟩ := toks_more3 hXT (by omega) [[111, 112], [43]] (by simp) (by simp; omega) #[.string ⟨#[111, 112]⟩, .string ⟨#[43]⟩] (by simp [tk, sb]) 2 rfl P.length rfl
    have HR : Hid ((Builtin.append_ #[47, 47] 47 #[.slice av P.length cv, .slice (some ⟨w.heap.size + 1, 0, none⟩) 2 2]).run Tryd.prog ((w.alloc (.cells #[.int .i64 1, .iface τ0 u0, .iface τ1 u1] 103)).alloc (.cells #[.string ⟨#[111, 112]⟩, .string ⟨#[43]⟩] 9)) = .ok (.slice (some ⟨g, 0, none⟩) (P.length + 2) cap2) w2) := by
      show _ = _
      rw [← hXs, ← hX]
      exact hrun
    have hk2 := (Kt.of_below hXb).trans hkt
    have HT2 : Hid (Toks base w2 (.slice (some ⟨g, 0, none⟩) (P.length + 2) cap2) (P ++ headM 15 1 s z ⟨tK, tN, Ta⟩ Ts)) := by
      show Toks _ _ _ _
      simpa [headM, signM] using hT2
    clear hrun hX hXs hXb hXT hkt hT2 hT
    go_enter Tryd.func21, Tryd.ntmps21
    go_wp2_with (at_builtin; refine list_run HR.out (by rfl) _ _ (by rfl) (by rfl) (by rfl) (by rfl) ?_)
    go_ret
    exact ⟨_, rfl, hk2, HT2.out⟩
  · obtain ⟨X, hX⟩ : ∃ X, X = w.alloc (.cells #[.int .i64 2, .iface τ0 u0, .iface τ1 u1] 103) := ⟨_, rfl⟩
    have hXs : X.heap.size = w.heap.size + 1 := by rw [hX]; simp
    have hXb : Below w.heap.size w X := by rw [hX]; exact (Below.refl _ _).alloc (Nat.le_refl _) _
    have hXT := toks_below hT hXb
    obtain ⟨g, cap2, w2, hrun, hT2, hkt⟩ := toks_more3 hXT (by omega) [[111, 112], [45]] (by simp) (by simp; omega) #[.string ⟨#[111, 112]⟩, .string ⟨#[45]⟩] (by simp [tk, sb]) 2 rfl P.length rfl
    have HR : Hid ((Builtin.append_ #[47, 47] 47 #[.slice av P.length cv, .slice (some ⟨w.heap.size + 1, 0, none⟩) 2 2]).run Tryd.prog ((w.alloc (.cells #[.int .i64 2, .iface τ0 u0, .iface τ1 u1] 103)).alloc (.cells #[.string ⟨#[111, 112]⟩, .string ⟨#[45]⟩] 9)) = .ok (.slice (some ⟨g, 0, none⟩) (P.length + 2) cap2) w2) := by
      show _ = _
      rw [← hXs, ← hX]
      exact hrun
    have hk2 := (Kt.of_below hXb).trans hkt
    have HT2 : Hid (Toks base w2 (.slice (some ⟨g, 0, none⟩) (P.length + 2) cap2) (P ++ headM 15 2 s z ⟨tK, tN, Ta⟩ Ts)) := by
      show Toks _ _ _ _
      simpa [headM, signM] using hT2
    clear hrun hX hXs hXb hXT hkt hT2 hT
    go_enter Tryd.func21, Tryd.ntmps21
    go_wp2_with (at_builtin; refine list_run HR.out (by rfl) _ _ (by rfl) (by rfl) (by rfl) (by rfl) ?_)
    go_ret
    exact ⟨_, rfl, hk2, HT2.out⟩
  · obtain ⟨X, hX⟩ : ∃ X, X = w.alloc (.cells #[.int .i64 3, .iface τ0 u0, .iface τ1 u1] 103) := ⟨_, rfl⟩
    have hXs : X.heap.size = w.heap.size + 1 := by rw [hX]; simp
    have hXb : Below w.heap.size w X := by rw [hX]; exact (Below.refl _ _).alloc (Nat.le_refl _) _
    have hXT := toks_below hT hXb
    obtain ⟨g, cap2, w2, hrun, hT2, hkt⟩ := toks_more3 hXT (by omega) [[111, 112], [42]] (by simp) (by simp; omega) #[.string ⟨#[111, 112]⟩, .string ⟨#[42]⟩] (by simp [tk, sb]) 2 rfl P.length rfl
    have HR : Hid ((Builtin.append_ #[47, 47] 47 #[.slice av P.length cv, .slice (some ⟨w.heap.size + 1, 0, none⟩) 2 2]).run Tryd.prog ((w.alloc (.cells #[.int .i64 3, .iface τ0 u0, .iface τ1 u1] 103)).alloc (.cells #[.string ⟨#[111, 112]⟩, .string ⟨#[42]⟩] 9)) = .ok (.slice (some ⟨g, 0, none⟩) (P.length + 2) cap2) w2) := by
      show _ = _
      rw [← hXs, ← hX]
      exact hrun
    have hk2 := (Kt.of_below hXb).trans hkt
    have HT2 : Hid (Toks base w2 (.slice (some ⟨g, 0, none⟩) (P.length + 2) cap2) (P ++ headM 15 3 s z ⟨tK, tN, Ta⟩ Ts)) := by
      show Toks _ _ _ _
      simpa [headM, signM] using hT2
    clear hrun hX hXs hXb hXT hkt hT2 hT
    go_enter Tryd.func21, Tryd.ntmps21
    go_wp2_with (at_builtin; refine list_run HR.out (by rfl) _ _ (by rfl) (by rfl) (by rfl) (by rfl) ?_)
    go_ret
    exact ⟨_, rfl, hk2, HT2.out⟩
  · obtain ⟨X, hX⟩ : ∃ X, X = w.alloc (.cells #[.int .i64 4, .iface τ0 u0, .iface τ1 u1] 103) := ⟨_, rfl⟩
    have hXs : X.heap.size = w.heap.size + 1 := by rw [hX]; simp
    have hXb : Below w.heap.size w X := by rw [hX]; exact (Below.refl _ _).alloc (Nat.le_refl _) _
    have hXT := toks_below hT hXb
    obtain ⟨g, cap2, w2, hrun, hT2, hkt⟩ := toks_more3 hXT (by omega) [[111, 112], [60]] (by simp) (by simp; omega) #[.string ⟨#[111, 112]⟩, .string ⟨#[60]⟩] (by simp [tk, sb]) 2 rfl P.length rfl
    have HR : Hid ((Builtin.append_ #[47, 47] 47 #[.slice av P.length cv, .slice (some ⟨w.heap.size + 1, 0, none⟩) 2 2]).run Tryd.prog ((w.alloc (.cells #[.int .i64 4, .iface τ0 u0, .iface τ1 u1] 103)).alloc (.cells #[.string ⟨#[111, 112]⟩, .string ⟨#[60]⟩] 9)) = .ok (.slice (some ⟨g, 0, none⟩) (P.length + 2) cap2) w2) := by
      show _ = _
      rw [← hXs, ← hX]
      exact hrun
    have hk2 := (Kt.of_below hXb).trans hkt
    have HT2 : Hid (Toks base w2 (.slice (some ⟨g, 0, none⟩) (P.length + 2) cap2) (P ++ headM 15 4 s z ⟨tK, tN, Ta⟩ Ts)) := by
      show Toks _ _ _ _
      simpa [headM, signM] using hT2
    clear hrun hX hXs hXb hXT hkt hT2 hT
    go_enter Tryd.func21, Tryd.ntmps21
    go_wp2_with (at_builtin; refine list_run HR.out (by rfl) _ _ (by rfl) (by rfl) (by rfl) (by rfl) ?_)
    go_ret
    exact ⟨_, rfl, hk2, HT2.out⟩
  · obtain ⟨X, hX⟩ : ∃ X, X = w.alloc (.cells #[.int .i64 5, .iface τ0 u0, .iface τ1 u1] 103) := ⟨_, rfl⟩
    have hXs : X.heap.size = w.heap.size + 1 := by rw [hX]; simp
    have hXb : Below w.heap.size w X := by rw [hX]; exact (Below.refl _ _).alloc (Nat.le_refl _) _
    have hXT := toks_below hT hXb
    obtain ⟨g, cap2, w2, hrun, hT2, hkt⟩ := toks_more3 hXT (by omega) [[111, 112], [61]] (by simp) (by simp; omega) #[.string ⟨#[111, 112]⟩, .string ⟨#[61]⟩] (by simp [tk, sb]) 2 rfl P.length rfl
    have HR : Hid ((Builtin.append_ #[47, 47] 47 #[.slice av P.length cv, .slice (some ⟨w.heap.size + 1, 0, none⟩) 2 2]).run Tryd.prog ((w.alloc (.cells #[.int .i64 5, .iface τ0 u0, .iface τ1 u1] 103)).alloc (.cells #[.string ⟨#[111, 112]⟩, .string ⟨#[61]⟩] 9)) = .ok (.slice (some ⟨g, 0, none⟩) (P.length + 2) cap2) w2) := by
      show _ = _
      rw [← hXs, ← hX]
      exact hrun
    have hk2 := (Kt.of_below hXb).trans hkt
    have HT2 : Hid (Toks base w2 (.slice (some ⟨g, 0, none⟩) (P.length + 2) cap2) (P ++ headM 15 5 s z ⟨tK, tN, Ta⟩ Ts)) := by
      show Toks _ _ _ _
      simpa [headM, signM] using hT2
    clear hrun hX hXs hXb hXT hkt hT2 hT
    go_enter Tryd.func21, Tryd.ntmps21
    go_wp2_with (at_builtin; refine list_run HR.out (by rfl) _ _ (by rfl) (by rfl) (by rfl) (by rfl) ?_)
    go_ret
    exact ⟨_, rfl, hk2, HT2.out⟩

set_option maxRecDepth 100000 in
set_option maxHeartbeats 2000000 in
theorem hd_16 (L B D base : Nat) (s z : ByteArray) (nd n tK tN : Int) (a1 : Option Addr) (l1 c1 : Nat) (a2 : Option Addr) (l2 c2 : Nat) (τ0 τ1 τ2 : TypeId) (u0 u1 u2 : Value) (Ta Ts : List Tr) (P : List (List UInt8)) (v : Value) (w : World) (hB : B ≤ base) (hb : base ≤ w.heap.size) (hTab : TabB B w) (hT : Toks base w v P) (hP : P.length + 123 ≤ 1000000) (hs : Hs L B w D a1 l1 Ta) (m : Nat) (hm : nodesW 6 ⟨tK, tN, Ta⟩ = some m) (hm6 : m ≤ 60) :
    Calls Tryd.prog 21 #[v, .iface 105 (.agg #[.int .i64 tK, .int .i64 tN, .slice a1 l1 c1, .iface τ0 u0])] w fun e w' => ∃ v' : Value, e = .returned v' ∧ Kt v w v' w' ∧ Toks base w' v' (P ++ headM 16 n s z ⟨tK, tN, Ta⟩ Ts) := by
  have as1 := fun (W : World) (v : Value) => no_numForm W 105 v (by decide)
  have as2 := fun (W : World) (v : Value) => no_boolForm W 105 v (by decide)
  have as3 := fun (W : World) (v : Value) => no_varForm W 105 v (by decide)
  have as4 := fun (W : World) (v : Value) => no_fnForm W 105 v (by decide)
  have as5 := fun (W : World) (v : Value) => no_appForm W 105 v (by decide)
  have as6 := fun (W : World) (v : Value) => no_letForm W 105 v (by decide)
  have as7 := fun (W : World) (v : Value) => no_fixForm W 105 v (by decide)
  have as8 := fun (W : World) (v : Value) => no_ifForm W 105 v (by decide)
  have as9 := fun (W : World) (v : Value) => no_pairForm W 105 v (by decide)
  have as10 := fun (W : World) (v : Value) => no_fstForm W 105 v (by decide)
  have as11 := fun (W : World) (v : Value) => no_sndForm W 105 v (by decide)
  have as12 := fun (W : World) (v : Value) => no_nilForm W 105 v (by decide)
  have as13 := fun (W : World) (v : Value) => no_consForm W 105 v (by decide)
  have as14 := fun (W : World) (v : Value) => no_caseForm W 105 v (by decide)
  have as15 := fun (W : World) (v : Value) => no_opForm W 105 v (by decide)
  have as16 := fun (W : World) (v : Value) => is_raiseForm W v
  obtain ⟨av, cv, rfl⟩ := toks_form1 hT
  obtain ⟨X, hX⟩ : ∃ X, X = w.alloc (.cells #[.int .i64 tK, .int .i64 tN, .slice a1 l1 c1, .iface τ0 u0] 105) := ⟨_, rfl⟩
  have hXs : X.heap.size = w.heap.size + 1 := by rw [hX]; simp
  have hXb : Below w.heap.size w X := by rw [hX]; exact (Below.refl _ _).alloc (Nat.le_refl _) _
  have hXT := toks_below hT hXb
  have hx : X.heap[w.heap.size]? = some (.cells #[.int .i64 tK, .int .i64 tN, .slice a1 l1 c1, .iface τ0 u0] 105 (0, 0)) := by rw [hX]; exact heap_new rfl
  have hne : Value.ownBlock (.slice av P.length cv) ≠ some w.heap.size := fun e => by have := (toks_in hT e).2; omega
  have SK : Hid (∀ (W : World) (v' : Value), Kt (.slice av P.length cv) X v' W → W.cell? ⟨w.heap.size, 0, none⟩ = some (.int .i64 tK) ∧ W.cell? ⟨w.heap.size, 1, none⟩ = some (.int .i64 tN) ∧ W.cell? ⟨w.heap.size, 2, none⟩ = some (.slice a1 l1 c1) ∧ W.cell? ⟨w.heap.size, 3, none⟩ = some (.iface τ0 u0)) := by
    intro W v' hk
    have h0 := (hk.block w.heap.size (by omega) hne).trans hx
    refine ⟨?_, ?_, ?_, ?_⟩
    all_goals exact row_cell h0 _
  have hD : Below X.heap.size X X.drew := ⟨rfl, rfl, rfl, Nat.le_refl _, fun _ _ => rfl⟩
  have kD : Kt (.slice av P.length cv) X (.slice av P.length cv) X.drew := Kt.of_below hD
  have HX : Hid (X = _) := hX
  obtain ⟨g, cap2, w2, hrun, hT2, hkt0⟩ := toks_more3 (toks_below hXT hD) (by show base ≤ X.heap.size; omega) [[114, 97, 105, 115, 101]] (by simp) (by simp; omega) #[.string ⟨#[114, 97, 105, 115, 101]⟩] (by simp [tk, sb]) 1 rfl P.length rfl
  have HR : Hid ((Builtin.append_ #[47, 47] 47 #[.slice av P.length cv, .slice (some ⟨X.drew.heap.size, 0, none⟩) 1 1]).run Tryd.prog ((X.drew).alloc (.cells #[.string ⟨#[114, 97, 105, 115, 101]⟩] 9)) = .ok (.slice (some ⟨g, 0, none⟩) (P.length + 1) cap2) w2) := hrun
  have hkt := kD.trans hkt0
  have hka : Kt (.slice av P.length cv) X (.slice av P.length cv) (X.drew.alloc (.cells #[.string ⟨#[114, 97, 105, 115, 101]⟩] 9)) := kD.trans (Kt.of_below ((Below.refl _ _).alloc (Nat.le_refl _) _))
  clear hrun hkt0
  have TT : Hid (∀ (w2 : World) (v2 : Value), Kt (.slice av P.length cv) X v2 w2 → Toks base w2 v2 (P ++ [[114, 97, 105, 115, 101]]) → Calls Tryd.prog 36 #[v2, .agg #[.int .i64 tK, .int .i64 tN, .slice a1 l1 c1]] w2 fun e w' => ∃ v' : Value, e = .returned v' ∧ Kt (.slice av P.length cv) X v' w' ∧ Toks base w' v' (P ++ headM 16 n s z ⟨tK, tN, Ta⟩ Ts)) := by
    intro w2 v2 hk hT2
    have hbe : Below base X w2 := hk.below hXT (by omega)
    have hz := hbe.size
    have hbw : Below base w w2 := (hXb.mono hb).trans hbe
    refine (tk_any 6 D L B base v2 _ tK tN a1 l1 c1 Ta m w2 hB (by omega) (hs.keep (fun q _ hq => hbw.block q (by omega)) (Nat.le_refl _) (Nat.le_refl _)) hm hT2 (by simp; omega)).mono ?_
    rintro e w' ⟨v', rfl, _, h3, h4⟩
    refine ⟨v', rfl, hk.trans h4, ?_⟩
    have eH : P ++ headM 16 n s z ⟨tK, tN, Ta⟩ Ts = P ++ [[114, 97, 105, 115, 101]] ++ toksW 6 ⟨tK, tN, Ta⟩ := by simp [headM]
    rw [eH]
    exact h3
  clear hXs hX hx hne hT hs hm hTab
  go_enter Tryd.func21, Tryd.ntmps21
  go_wp2_with fail
  rw [← HX.out]
  go_region_held3 (fun W => W.cell? ⟨w.heap.size, 0, none⟩ = some (.int .i64 tK) ∧ W.cell? ⟨w.heap.size, 1, none⟩ = some (.int .i64 tN) ∧ W.cell? ⟨w.heap.size, 2, none⟩ = some (.slice a1 l1 c1) ∧ W.cell? ⟨w.heap.size, 3, none⟩ = some (.iface τ0 u0))
    (first | exact SK.out _ _ hk5 | exact SK.out _ _ hkt | exact SK.out _ _ hka | exact SK.out _ _ kD)
    (first | (go_at_call 36; refine (TT.out _ _ hkt hT2).mono ?_; rintro e w5 ⟨v5, rfl, hk5, hT5⟩) | (refine step_run2 HR.out (by rfl) _ _ (by rfl) (by rfl) (by rfl) (by rfl) ?_))
  all_goals
    go_wp2_with fail
    go_ret
    exact ⟨_, rfl, (Kt.of_below hXb).trans hk5, hT5⟩

set_option maxRecDepth 100000 in
set_option maxHeartbeats 2000000 in
theorem hd_17 (L B D base : Nat) (s z : ByteArray) (nd n tK tN : Int) (a1 : Option Addr) (l1 c1 : Nat) (a2 : Option Addr) (l2 c2 : Nat) (τ0 τ1 τ2 : TypeId) (u0 u1 u2 : Value) (Ta Ts : List Tr) (P : List (List UInt8)) (v : Value) (w : World) (hB : B ≤ base) (hb : base ≤ w.heap.size) (hTab : TabB B w) (hT : Toks base w v P) (hP : P.length + 123 ≤ 1000000) :
    Calls Tryd.prog 21 #[v, .iface 107 (.agg #[.string s, .iface τ0 u0, .iface τ1 u1])] w fun e w' => ∃ v' : Value, e = .returned v' ∧ Kt v w v' w' ∧ Toks base w' v' (P ++ headM 17 n s z ⟨tK, tN, Ta⟩ Ts) := by
  have as1 := fun (W : World) (v : Value) => no_numForm W 107 v (by decide)
  have as2 := fun (W : World) (v : Value) => no_boolForm W 107 v (by decide)
  have as3 := fun (W : World) (v : Value) => no_varForm W 107 v (by decide)
  have as4 := fun (W : World) (v : Value) => no_fnForm W 107 v (by decide)
  have as5 := fun (W : World) (v : Value) => no_appForm W 107 v (by decide)
  have as6 := fun (W : World) (v : Value) => no_letForm W 107 v (by decide)
  have as7 := fun (W : World) (v : Value) => no_fixForm W 107 v (by decide)
  have as8 := fun (W : World) (v : Value) => no_ifForm W 107 v (by decide)
  have as9 := fun (W : World) (v : Value) => no_pairForm W 107 v (by decide)
  have as10 := fun (W : World) (v : Value) => no_fstForm W 107 v (by decide)
  have as11 := fun (W : World) (v : Value) => no_sndForm W 107 v (by decide)
  have as12 := fun (W : World) (v : Value) => no_nilForm W 107 v (by decide)
  have as13 := fun (W : World) (v : Value) => no_consForm W 107 v (by decide)
  have as14 := fun (W : World) (v : Value) => no_caseForm W 107 v (by decide)
  have as15 := fun (W : World) (v : Value) => no_opForm W 107 v (by decide)
  have as16 := fun (W : World) (v : Value) => no_raiseForm W 107 v (by decide)
  have as17 := fun (W : World) (v : Value) => is_tryForm W v
  obtain ⟨av, cv, rfl⟩ := toks_form1 hT
  obtain ⟨X, hX⟩ : ∃ X, X = w.alloc (.cells #[.string s, .iface τ0 u0, .iface τ1 u1] 107) := ⟨_, rfl⟩
  have hXs : X.heap.size = w.heap.size + 1 := by rw [hX]; simp
  have hXb : Below w.heap.size w X := by rw [hX]; exact (Below.refl _ _).alloc (Nat.le_refl _) _
  have hXT := toks_below hT hXb
  obtain ⟨g, cap2, w2, hrun, hT2, hkt⟩ := toks_more3 hXT (by omega) [[116, 114, 121], sb s] (by simp) (by simp; omega) #[.string ⟨#[116, 114, 121]⟩, .string s] (by simp [tk, sb]) 2 rfl P.length rfl
  have HR : Hid ((Builtin.append_ #[47, 47] 47 #[.slice av P.length cv, .slice (some ⟨w.heap.size + 1, 0, none⟩) 2 2]).run Tryd.prog ((w.alloc (.cells #[.string s, .iface τ0 u0, .iface τ1 u1] 107)).alloc (.cells #[.string ⟨#[116, 114, 121]⟩, .string s] 9)) = .ok (.slice (some ⟨g, 0, none⟩) (P.length + 2) cap2) w2) := by
    show _ = _
    rw [← hXs, ← hX]
    exact hrun
  have hk2 := (Kt.of_below hXb).trans hkt
  have HT2 : Hid (Toks base w2 (.slice (some ⟨g, 0, none⟩) (P.length + 2) cap2) (P ++ headM 17 n s z ⟨tK, tN, Ta⟩ Ts)) := by
    show Toks _ _ _ _
    simpa [headM, wordM] using hT2
  clear hrun hX hXs hXb hXT hkt hT2 hT
  go_enter Tryd.func21, Tryd.ntmps21
  go_wp2_with (at_builtin; refine list_run HR.out (by rfl) _ _ (by rfl) (by rfl) (by rfl) (by rfl) ?_)
  go_ret
  exact ⟨_, rfl, hk2, HT2.out⟩

end Go.Proofs.YtjikcckggifinaaDoor
