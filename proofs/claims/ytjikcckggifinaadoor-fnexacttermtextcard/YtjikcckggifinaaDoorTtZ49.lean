/-
  The law FnExactTermText's walk: whatever term lies in memory, true.
-/
import Derived.Test.YtjikcckggifinaaDoorTtZ32
import Derived.Test.YtjikcckggifinaaDoorTtZ44
import Derived.Test.YtjikcckggifinaaDoorTtZ45
import Derived.Test.YtjikcckggifinaaDoorTtToM
import Derived.Test.YtjikcckggifinaaDoorTtZ48
import Derived.Test.YtjikcckggifinaaDoorTtZ15
import Derived.Test.YtjikcckggifinaaDoorTtTr
import Derived.ProofKit
import Derived.Deep.Slices
import Derived.Deep.Strs
import Derived.ChangeOld
import Derived.OpenShut
namespace Go.Proofs.YtjikcckggifinaaDoor
open Go.RowKit
set_option linter.unusedVariables false
set_option linter.unusedSimpArgs false

set_option maxHeartbeats 1000000 in
theorem law_termText (D d L B : Nat) (t : Tm) (a1 : Option Addr) (l1 c1 : Nat) (a2 : Option Addr) (l2 c2 : Nat) (a3 : Option Addr) (l3 c3 : Nat) (w : World) (hB : B ≤ w.heap.size) (hf : Fm L B w D d t a1 l1 a2 l2 a3 l3) (hTab : TabB w.heap.size w) :
    Calls Tryd.prog 3 #[.agg #[.int .i64 t.K, .int .i64 t.N, .string t.S, .string t.Z, .int .i64 t.T.K, .int .i64 t.T.N, .slice a1 l1 c1, .slice a2 l2 c2, .slice a3 l3 c3]] w fun e w' => e = .returned (.bool true) ∧ Below w.heap.size w w' := by
  obtain ⟨X, hX⟩ : ∃ X, X = w.alloc (.cells #[.int .i64 t.K, .int .i64 t.N, .string t.S, .string t.Z, .int .i64 t.T.K, .int .i64 t.T.N, .slice a1 l1 c1, .slice a2 l2 c2, .slice a3 l3 c3] 27) := ⟨_, rfl⟩
  have hXs : X.heap.size = w.heap.size + 1 := by rw [hX]; simp
  have hXb : Below w.heap.size w X := by rw [hX]; exact (Below.refl _ _).alloc (Nat.le_refl _) _
  have hX1 : X.heap[w.heap.size]? = some (.cells #[.int .i64 t.K, .int .i64 t.N, .string t.S, .string t.Z, .int .i64 t.T.K, .int .i64 t.T.N, .slice a1 l1 c1, .slice a2 l2 c2, .slice a3 l3 c3] 27 (0, 0)) := by rw [hX]; exact heap_new rfl
  have hf1 := Fm.below hXb hB hf
  have HX : Hid (X = _) := hX
  clear hX
  by_cases hc : (cntM t : Int) ≤ 1048576
  · have hcn : cntM t ≤ 1048576 := by omega
    go_enter Tryd.func3, Tryd.ntmps3
    go_wp2_with fail
    rw [← HX.out]
    refine (szTerm_any D d L B t _ _ _ _ _ _ _ _ _ _ _ (by omega) hf1 (by omega) (by omega)).mono ?_
    rintro e w1 ⟨rfl, hb1⟩
    rw [szN_pos hc]
    have hz1 := hb1.size
    have hb1w : Below w.heap.size w w1 := hXb.trans (hb1.mono (by omega))
    have y1 := (hb1.block _ (by omega)).trans hX1
    obtain ⟨f0, f1, f2, f3, f4, f5, f6, f7, f8⟩ := Nine.box y1
    go_wp2_with fail
    refine (toTerm_any D d L B t _ _ _ _ _ _ _ _ _ _ (by omega) (Fm.below hb1w hB hf) hcn).mono ?_
    rintro e w2 ⟨g21, g22, g23, rfl, hb2, hs2⟩
    have hz2 := hb2.size
    go_wp2_with fail
    refine (sTermText_any D d _ _ t _ _ _ _ _ _ _ _ _ _ (Nat.le_refl _) hs2).mono ?_
    rintro e w3 ⟨rfl, hb3⟩
    have hz3 := hb3.size
    have hb3w : Below w.heap.size w w3 := (hb1w.trans (hb2.mono (by omega))).trans (hb3.mono (by omega))
    have y3 := (hb3.block _ (by omega)).trans ((hb2.block _ (by omega)).trans y1)
    clear f0 f1 f2 f3 f4 f5 f6 f7 f8
    obtain ⟨f0, f1, f2, f3, f4, f5, f6, f7, f8⟩ := Nine.box y3
    go_wp2_with fail
    refine (toTerm_any D d L B t _ _ _ _ _ _ _ _ _ _ (by omega) (Fm.below hb3w hB hf) hcn).mono ?_
    rintro e w4 ⟨g41, g42, g43, rfl, hb4, hs4⟩
    have hz4 := hb4.size
    go_wp2_with fail
    have hb4a : Below w4.heap.size w4 (w4.alloc (.cells #[.int .i64 t.K, .int .i64 t.N, .string t.S, .string t.Z, .int .i64 t.T.K, .int .i64 t.T.N, .slice (some ⟨g41, 0, none⟩) l1 l1, .slice (some ⟨g42, 0, none⟩) l2 l2, .slice (some ⟨g43, 0, none⟩) l3 l3] 35)) := (Below.refl _ _).alloc (Nat.le_refl _) _
    have hs4a := Fm.below hb4a (Nat.le_refl _) hs4
    refine (termText_any D d _ _ t _ _ _ _ _ _ _ _ _ _ (by simp) hs4a ((hTab.below ((hb3w.trans (hb4.mono (by omega))).trans (hb4a.mono (by omega)))).mono (by omega))).mono ?_
    rintro e w5 ⟨rfl, hb5⟩
    have hz5 := hb5.size
    simp only [World.size_alloc] at hz5
    have hb5w : Below w.heap.size w w5 := ((hb3w.trans (hb4.mono (by omega))).trans (hb4a.mono (by omega))).trans (hb5.mono (by simp; omega))
    have y5 := (hb5.block w.heap.size (by simp; omega)).trans ((hb4a.block _ (by omega)).trans ((hb4.block _ (by omega)).trans y3))
    have x5 : w5.heap[w4.heap.size]? = _ := (hb5.block w4.heap.size (by simp)).trans (heap_new rfl)
    clear f0 f1 f2 f3 f4 f5 f6 f7 f8
    obtain ⟨p0, p1, p2, p3, p4, p5, p6, p7, p8⟩ := Nine.box y5
    obtain ⟨q0, q1, q2, q3, q4, q5, q6, q7, q8⟩ := Nine.box x5
    have hs5 := Fm.below hb5 (by simp) hs4a
    have hs5' := Fm.below hb5w hB hf
    generalize (⟨(txM t).toArray⟩ : ByteArray) = ok
    clear y1 y3 y5 x5 hs4 hs4a hs2 hX1
    go_wp2_with fail
    go_region_with (first
      | (go_at_call 6; refine (toTerm_any D d L B t _ _ _ _ _ _ _ _ _ _ ?_ ?_ ?_).mono ?_; (show B ≤ w5.heap.size; omega); exact Fm.drew hs5'; exact hcn; rintro e w6 ⟨g61, g62, g63, rfl, hb6, hs6⟩; have k0 : w6.cell? ⟨w4.heap.size, 0, none⟩ = _ := (bcell hb6 hz5 0).trans q0; have k1 : w6.cell? ⟨w4.heap.size, 1, none⟩ = _ := (bcell hb6 hz5 1).trans q1; have k2 : w6.cell? ⟨w4.heap.size, 2, none⟩ = _ := (bcell hb6 hz5 2).trans q2; have k3 : w6.cell? ⟨w4.heap.size, 3, none⟩ = _ := (bcell hb6 hz5 3).trans q3; have k4 : w6.cell? ⟨w4.heap.size, 4, none⟩ = _ := (bcell hb6 hz5 4).trans q4; have k5 : w6.cell? ⟨w4.heap.size, 5, none⟩ = _ := (bcell hb6 hz5 5).trans q5; have k6 : w6.cell? ⟨w4.heap.size, 6, none⟩ = _ := (bcell hb6 hz5 6).trans q6; have k7 : w6.cell? ⟨w4.heap.size, 7, none⟩ = _ := (bcell hb6 hz5 7).trans q7; have k8 : w6.cell? ⟨w4.heap.size, 8, none⟩ = _ := (bcell hb6 hz5 8).trans q8)
      | (go_at_call 8; refine (eqTerm_any D d _ _ _ _ t _ _ _ _ _ _ _ _ _ _ _ _ _ _ _ _ _ _ _ ?_ ?_ (Fm.below hb6 (show w4.heap.size ≤ w5.heap.size by omega) (Fm.drew hs5)) hs6).mono ?_; (have h6 : w5.heap.size ≤ w6.heap.size := hb6.size; (show w4.heap.size ≤ w6.heap.size); omega); exact Nat.le_refl _; rintro e w7 ⟨rfl, hb7⟩))
    all_goals
      have hb7w : Below w.heap.size w w7 := (hb5w.drew.trans (hb6.mono hb5w.size)).trans (hb7.mono (Nat.le_trans hb5w.size hb6.size))
      go_wp2_with fail
      go_ret
      exact ⟨rfl, hb7w⟩
  · go_enter Tryd.func3, Tryd.ntmps3
    go_wp2_with fail
    rw [← HX.out]
    refine (szTerm_any D d L B t _ _ _ _ _ _ _ _ _ _ _ (by omega) hf1 (by omega) (by omega)).mono ?_
    rintro e w1 ⟨rfl, hb1⟩
    rw [szN_neg (by omega)]
    go_wp2_with fail
    go_ret
    exact ⟨rfl, hXb.trans (hb1.mono (by omega))⟩

end Go.Proofs.YtjikcckggifinaaDoor

/-
  From the reading of an argument of the laws' own type to the tree that lies there.
-/
namespace Go.Proofs.YtjikcckggifinaaDoor
open Go.RowKit
set_option linter.unusedVariables false
set_option linter.unusedSimpArgs false

theorem Tryd.cellsLTy : Tryd.prog.cellsOf 24 = 3 := by kernel_rfl
theorem Tryd.cellsLTyS : Tryd.prog.cellsOf 22 = 1 := by kernel_rfl
theorem Tryd.cellsInt : Tryd.prog.cellsOf 3 = 1 := by kernel_rfl

theorem choose_tr {n : Nat} {p : Nat → Tr → Prop} (h : ∀ i, i < n → ∃ x, p i x) : ∃ f : Nat → Tr, ∀ i, i < n → p i (f i) := by
  classical
  refine ⟨fun i => if hi : i < n then Classical.choose (h i hi) else ⟨0, 0, []⟩, fun i hi => ?_⟩
  simp only [dif_pos hi]
  exact Classical.choose_spec (h i hi)

theorem cell_spot {w : World} {a : Addr} {v : Value} (h : w.cell? a = some v) : a.spot = none ∧ a.block < w.heap.size := by
  unfold World.cell? at h
  split at h
  · rename_i c t fr hh
    refine ⟨?_, (Array.getElem?_eq_some_iff.1 hh).1⟩
    cases hs : a.spot with
    | none => rfl
    | some x => simp [hs] at h
  · cases h

theorem add_at (b o n : Nat) : Addr.add ⟨b, o, none⟩ n = ⟨b, o + n, none⟩ := by
  unfold Addr.add
  by_cases h : n = 0 <;> simp [h]

section
variable {H : Type} {enc : TypeId × Value → H} {W : World} {spare : Nat → Bool} {held : Bool}

set_option maxRecDepth 100000 in
theorem read_ty (fuel : Nat) (ih : ∀ f, f < fuel → ∀ (cs : List Value) (x : DataW H × List MemPlace), DataW.trod enc Tryd.prog W 0 spare held f 22 cs = some x → ∃ ao len cap ts, cs = [.slice ao len cap] ∧ Hs 0 W.heap.size W f ao len ts)
    (cs : List Value) (x : DataW H × List MemPlace) (h : DataW.trod enc Tryd.prog W 0 spare held fuel 24 cs = some x) :
    ∃ k n ao len cap ts, cs = [.int .i64 k, .int .i64 n, .slice ao len cap] ∧ Hs 0 W.heap.size W fuel ao len ts := by
  obtain ⟨xs, m, hm, _, hl, hlen, hf⟩ := DataW.trod_struct Tryd.underlying24 h
  rw [Tryd.cellsLTy] at hl
  match cs, hl with
  | [c0, c1, c2], _ =>
    have h0 : DataW.trod enc Tryd.prog W 0 spare held m 3 (List.take (Tryd.prog.cellsOf 3) [c0, c1, c2]) = xs[0]? := hf 0 _ rfl
    have h1 : DataW.trod enc Tryd.prog W 0 spare held m 3 (List.take (Tryd.prog.cellsOf 3) [c1, c2]) = xs[1]? := hf 1 _ rfl
    have h2 : DataW.trod enc Tryd.prog W 0 spare held m 22 (List.take (Tryd.prog.cellsOf 22) [c2]) = xs[2]? := hf 2 _ rfl
    rw [Tryd.cellsInt] at h0 h1
    rw [Tryd.cellsLTyS] at h2
    simp only [List.take_succ_cons, List.take_zero] at h0 h1 h2
    have hx : xs.length = 3 := hlen
    match xs, hx with
    | [y0, y1, y2], _ =>
      obtain ⟨k, e0, _, _⟩ := DataW.trod_int Tryd.underlying3 h0
      obtain ⟨n, e1, _, _⟩ := DataW.trod_int Tryd.underlying3 h1
      obtain ⟨ao, len, cap, ts, e2, hs⟩ := ih m (by omega) _ _ h2
      simp at e0 e1 e2
      subst e0 e1 e2
      exact ⟨k, n, ao, len, cap, ts, rfl, hs.deeper (by omega)⟩

set_option maxRecDepth 100000 in
theorem read_tys : ∀ (fuel : Nat) (cs : List Value) (x : DataW H × List MemPlace), DataW.trod enc Tryd.prog W 0 spare held fuel 22 cs = some x → ∃ ao len cap ts, cs = [.slice ao len cap] ∧ Hs 0 W.heap.size W fuel ao len ts := by
  intro fuel
  induction fuel using Nat.strongRecOn with
  | ind fuel ih =>
    intro cs x h
    rcases DataW.trod_slice Tryd.underlying22 h with ⟨rfl, _⟩ | ⟨a, len, cap, elems, rest, n, hn, rfl, _, _, hl, hm, hlen, hel, _, _⟩
    · exact ⟨none, 0, 0, [], rfl, Hs.nil _ _ _ _ _⟩
    · rw [Tryd.cellsLTy] at hel
      have key : ∀ i, i < len → ∃ t : Tr, ∃ b o, a = ⟨b, o, none⟩ ∧ b < W.heap.size ∧ El W (Hs 0 W.heap.size W n) b (o + i * 3) t := by
        intro i hi
        have h1 := hel i hi
        rw [List.getElem?_eq_getElem (by omega)] at h1
        obtain ⟨cs', h2, h3⟩ := Option.bind_eq_some_iff.1 h1
        obtain ⟨k, m, ao, len', cap', ts, rfl, hs⟩ := read_ty n (fun f hf => ih f (by omega)) _ _ h3
        obtain ⟨_, _, hc⟩ := World.cells?_some h2
        have c0 := hc 0 (by omega)
        have c1 := hc 1 (by omega)
        have c2 := hc 2 (by omega)
        simp only [List.getElem?_cons_zero, List.getElem?_cons_succ] at c0 c1 c2
        have hsp := cell_spot c1
        have ha : a.spot = none := by
          have hc0 := cell_spot c0
          by_cases hi0 : i = 0
          · subst hi0; simpa [Addr.add] using hc0.1
          · cases hsa : a.spot with
            | none => rfl
            | some y =>
              exfalso
              have g := hel 0 (by omega)
              rw [List.getElem?_eq_getElem (by omega)] at g
              obtain ⟨cs2, g2, _⟩ := Option.bind_eq_some_iff.1 g
              obtain ⟨_, gl, gc⟩ := World.cells?_some g2
              have g0 := gc 0 (by omega)
              rw [List.getElem?_eq_getElem (by omega)] at g0
              have := (cell_spot g0).1
              simp [Addr.add, hsa] at this
        obtain ⟨b, o, sp⟩ := a
        simp only at ha
        subst ha
        rw [add_at, add_at] at c0 c1 c2
        refine ⟨⟨k, m, ts⟩, b, o, rfl, (cell_spot c0).2, ao, len', cap', c0, c1, c2, hs⟩
      obtain ⟨T, hT⟩ := choose_tr key
      refine ⟨some a, len, cap, (List.range len).map T, rfl, ?_⟩
      subst hn
      refine ⟨by simp, by unfold maxLen at hm; omega, fun i hi => ?_⟩
      have hi' : i < len := by simpa using hi
      obtain ⟨b, o, rfl, hb, hE⟩ := hT i hi'
      exact ⟨b, o, rfl, Nat.zero_le _, hb, by simpa using hE⟩
end

end Go.Proofs.YtjikcckggifinaaDoor
