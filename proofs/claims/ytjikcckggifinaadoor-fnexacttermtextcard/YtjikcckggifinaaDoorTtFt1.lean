/-
  The program's 'formTokens', kind by kind.
-/
import Derived.Test.YtjikcckggifinaaDoorTtPk
import Derived.Test.YtjikcckggifinaaDoorTtTt2
import Derived.Test.YtjikcckggifinaaDoorTtTmT
import Derived.Test.YtjikcckggifinaaDoorTtZ21
import Derived.Handy
namespace Go.Proofs.YtjikcckggifinaaDoor
open Go.RowKit
set_option linter.unusedVariables false
set_option linter.unusedSimpArgs false

/-- Behind P the tokens of a term. -/
def SaidFt (l : Nat) : Prop := ∀ (L B D base : Nat) (w0 : World) (t : Tm) (v vf : Value) (P : List (List UInt8)) (m : Nat) (w : World), B ≤ base → base ≤ w.heap.size → Fv L B w0 D l t vf → nodesM l t = some m → Below B w0 w → TabB B w → Toks base w v P → P.length + 123 * m ≤ 1000000 →
    Calls Tryd.prog 19 #[v, vf, .func (.func 21) #[] #[]] w fun e w' => ∃ v' : Value, e = .returned v' ∧ Kt v w v' w' ∧ Toks base w' v' (P ++ toksM l t)

set_option maxRecDepth 100000 in
set_option maxHeartbeats 1000000 in
theorem ft_1 (l : Nat) (IH : SaidFt l) (L B D base : Nat) (w0 : World) (s z : ByteArray) (nd n tK tN : Int) (a1 : Option Addr) (l1 c1 : Nat) (a2 : Option Addr) (l2 c2 : Nat) (τ0 τ1 τ2 : TypeId) (u0 u1 u2 : Value)  (H P : List (List UInt8)) (v : Value) (w : World) (hB : B ≤ base) (hb : base ≤ w.heap.size) (hW : Below B w0 w) (hTab : TabB B w) (hT : Toks base w v P) (hlen : P.length + H.length ≤ 1000000)
    (HD : Calls Tryd.prog 21 #[v, .iface 76 (.agg #[.int .i64 n])] w fun e w' => ∃ v' : Value, e = .returned v' ∧ Kt v w v' w' ∧ Toks base w' v' (P ++ H)) :
    Calls Tryd.prog 19 #[v, .iface 76 (.agg #[.int .i64 n]), .func (.func 21) #[] #[]] w fun e w' => ∃ v' : Value, e = .returned v' ∧ Kt v w v' w' ∧ Toks base w' v' (P ++ H) := by
  have HLEN : Hid (P.length + H.length ≤ 1000000) := hlen
  clear hlen
  go_enter Tryd.func19, Tryd.ntmps19
  go_wp2_with fail
  refine HD.mono ?_
  rintro e y1 ⟨v0, rfl, hk1, hT1⟩
  clear HD
  have bw1 : Below base w y1 := hk1.below hT hb
  go_wp2_with fail
  refine (parts_1 s z nd n tK tN a1 l1 c1 a2 l2 c2 τ0 τ1 τ2 u0 u1 u2 y1).mono ?_
  rintro e X ⟨rfl, hXb⟩
  have hs0 := toks_below hT1 hXb
  have k0 : Kt v0 X v0 X := Kt.of_below (Below.refl _ _)
  go_wp2_with fail
  refine wp_loop_rounds 1 ?_
  rw [rounds_succ]
  go_wp2_with fail
  go_ret
  exact ⟨_, rfl, hk1.trans ((Kt.of_below hXb).trans k0), hs0⟩

set_option maxRecDepth 100000 in
set_option maxHeartbeats 1000000 in
theorem ft_2 (l : Nat) (IH : SaidFt l) (L B D base : Nat) (w0 : World) (s z : ByteArray) (nd n tK tN : Int) (a1 : Option Addr) (l1 c1 : Nat) (a2 : Option Addr) (l2 c2 : Nat) (τ0 τ1 τ2 : TypeId) (u0 u1 u2 : Value)  (H P : List (List UInt8)) (v : Value) (w : World) (hB : B ≤ base) (hb : base ≤ w.heap.size) (hW : Below B w0 w) (hTab : TabB B w) (hT : Toks base w v P) (hlen : P.length + H.length ≤ 1000000)
    (HD : Calls Tryd.prog 21 #[v, .iface 77 (.agg #[.int .i64 n])] w fun e w' => ∃ v' : Value, e = .returned v' ∧ Kt v w v' w' ∧ Toks base w' v' (P ++ H)) :
    Calls Tryd.prog 19 #[v, .iface 77 (.agg #[.int .i64 n]), .func (.func 21) #[] #[]] w fun e w' => ∃ v' : Value, e = .returned v' ∧ Kt v w v' w' ∧ Toks base w' v' (P ++ H) := by
  have HLEN : Hid (P.length + H.length ≤ 1000000) := hlen
  clear hlen
  go_enter Tryd.func19, Tryd.ntmps19
  go_wp2_with fail
  refine HD.mono ?_
  rintro e y1 ⟨v0, rfl, hk1, hT1⟩
  clear HD
  have bw1 : Below base w y1 := hk1.below hT hb
  go_wp2_with fail
  refine (parts_2 s z nd n tK tN a1 l1 c1 a2 l2 c2 τ0 τ1 τ2 u0 u1 u2 y1).mono ?_
  rintro e X ⟨rfl, hXb⟩
  have hs0 := toks_below hT1 hXb
  have k0 : Kt v0 X v0 X := Kt.of_below (Below.refl _ _)
  go_wp2_with fail
  refine wp_loop_rounds 1 ?_
  rw [rounds_succ]
  go_wp2_with fail
  go_ret
  exact ⟨_, rfl, hk1.trans ((Kt.of_below hXb).trans k0), hs0⟩

set_option maxRecDepth 100000 in
set_option maxHeartbeats 1000000 in
theorem ft_3 (l : Nat) (IH : SaidFt l) (L B D base : Nat) (w0 : World) (s z : ByteArray) (nd n tK tN : Int) (a1 : Option Addr) (l1 c1 : Nat) (a2 : Option Addr) (l2 c2 : Nat) (τ0 τ1 τ2 : TypeId) (u0 u1 u2 : Value)  (H P : List (List UInt8)) (v : Value) (w : World) (hB : B ≤ base) (hb : base ≤ w.heap.size) (hW : Below B w0 w) (hTab : TabB B w) (hT : Toks base w v P) (hlen : P.length + H.length ≤ 1000000)
    (HD : Calls Tryd.prog 21 #[v, .iface 79 (.agg #[.string s, .slice a2 l2 c2])] w fun e w' => ∃ v' : Value, e = .returned v' ∧ Kt v w v' w' ∧ Toks base w' v' (P ++ H)) :
    Calls Tryd.prog 19 #[v, .iface 79 (.agg #[.string s, .slice a2 l2 c2]), .func (.func 21) #[] #[]] w fun e w' => ∃ v' : Value, e = .returned v' ∧ Kt v w v' w' ∧ Toks base w' v' (P ++ H) := by
  have HLEN : Hid (P.length + H.length ≤ 1000000) := hlen
  clear hlen
  go_enter Tryd.func19, Tryd.ntmps19
  go_wp2_with fail
  refine HD.mono ?_
  rintro e y1 ⟨v0, rfl, hk1, hT1⟩
  clear HD
  have bw1 : Below base w y1 := hk1.below hT hb
  go_wp2_with fail
  refine (parts_3 s z nd n tK tN a1 l1 c1 a2 l2 c2 τ0 τ1 τ2 u0 u1 u2 y1).mono ?_
  rintro e X ⟨rfl, hXb⟩
  have hs0 := toks_below hT1 hXb
  have k0 : Kt v0 X v0 X := Kt.of_below (Below.refl _ _)
  go_wp2_with fail
  refine wp_loop_rounds 1 ?_
  rw [rounds_succ]
  go_wp2_with fail
  go_ret
  exact ⟨_, rfl, hk1.trans ((Kt.of_below hXb).trans k0), hs0⟩

set_option maxRecDepth 100000 in
set_option maxHeartbeats 1000000 in
theorem ft_4 (l : Nat) (IH : SaidFt l) (L B D base : Nat) (w0 : World) (s z : ByteArray) (nd n tK tN : Int) (a1 : Option Addr) (l1 c1 : Nat) (a2 : Option Addr) (l2 c2 : Nat) (τ0 τ1 τ2 : TypeId) (u0 u1 u2 : Value) (x0 : Tm) (m0 : Nat) (hv0 : Fv L B w0 D l x0 (.iface τ0 u0)) (hm0 : nodesM l x0 = some m0) (H P : List (List UInt8)) (v : Value) (w : World) (hB : B ≤ base) (hb : base ≤ w.heap.size) (hW : Below B w0 w) (hTab : TabB B w) (hT : Toks base w v P) (hlen : P.length + H.length + 123 * m0 ≤ 1000000)
    (HD : Calls Tryd.prog 21 #[v, .iface 82 (.agg #[.int .i64 nd, .string s, .int .i64 tK, .int .i64 tN, .slice a1 l1 c1, .iface τ0 u0])] w fun e w' => ∃ v' : Value, e = .returned v' ∧ Kt v w v' w' ∧ Toks base w' v' (P ++ H)) :
    Calls Tryd.prog 19 #[v, .iface 82 (.agg #[.int .i64 nd, .string s, .int .i64 tK, .int .i64 tN, .slice a1 l1 c1, .iface τ0 u0]), .func (.func 21) #[] #[]] w fun e w' => ∃ v' : Value, e = .returned v' ∧ Kt v w v' w' ∧ Toks base w' v' ((P ++ H) ++ toksM l x0) := by
  have HV0 : Hid (Fv L B w0 D l x0 (.iface τ0 u0)) := hv0
  have HM0 : Hid (nodesM l x0 = some m0) := hm0
  have HL0 : Hid ((toksM l x0).length ≤ 123 * m0) := toksM_len _ _ _ hm0
  clear hv0 hm0
  have HLEN : Hid (P.length + H.length + 123 * m0 ≤ 1000000) := hlen
  clear hlen
  go_enter Tryd.func19, Tryd.ntmps19
  go_wp2_with fail
  refine HD.mono ?_
  rintro e y1 ⟨v0, rfl, hk1, hT1⟩
  clear HD
  have bw1 : Below base w y1 := hk1.below hT hb
  go_wp2_with fail
  refine (parts_4 s z nd n tK tN a1 l1 c1 a2 l2 c2 τ0 τ1 τ2 u0 u1 u2 y1).mono ?_
  rintro e X ⟨g, rfl, hXb, hgw, hx⟩
  have hs0 := toks_below hT1 hXb
  have hne : v0.ownBlock ≠ some g := fun e => by have := (toks_in hT1 e).2; omega
  have hgX : g < X.heap.size := (Array.getElem?_eq_some_iff.1 hx).1
  have k0 : Kt v0 X v0 X := Kt.of_below (Below.refl _ _)
  have b0 : Below base w X := bw1.trans (hXb.mono (by have := bw1.size; omega))
  have zX : base ≤ X.heap.size := by have := b0.size; omega
  have q0_0 : X.cell? ⟨g, 0, none⟩ = some (.iface τ0 u0) := row_cell hx 0
  go_wp2_with fail
  refine wp_loop_rounds 2 ?_
  rw [rounds_succ]
  go_wp2_with fail
  refine (IH L B D base w0 x0 _ _ (P ++ H) m0 _ hB (by have := b0.size; omega) HV0.out HM0.out (hW.trans (b0.mono hB)) (hTab.below (b0.mono hB)) hs0 (by have := HLEN.out; simp only [List.length_append]; omega)).mono ?_
  rintro e w1 ⟨v1, rfl, kk1, hs1⟩
  have k1 := k0.trans kk1
  have b1 : Below base w w1 := b0.trans (k1.below hs0 zX)
  have hx1 := (k1.block g hgX hne).trans hx
  have q1_0 : w1.cell? ⟨g, 0, none⟩ = some (.iface τ0 u0) := row_cell hx1 0
  clear kk1 hx1
  go_wp2_with fail
  rw [rounds_succ]
  go_wp2_with fail
  go_ret
  exact ⟨_, rfl, hk1.trans ((Kt.of_below hXb).trans k1), hs1⟩

set_option maxRecDepth 100000 in
set_option maxHeartbeats 1000000 in
theorem ft_5 (l : Nat) (IH : SaidFt l) (L B D base : Nat) (w0 : World) (s z : ByteArray) (nd n tK tN : Int) (a1 : Option Addr) (l1 c1 : Nat) (a2 : Option Addr) (l2 c2 : Nat) (τ0 τ1 τ2 : TypeId) (u0 u1 u2 : Value) (x0 : Tm) (m0 : Nat) (hv0 : Fv L B w0 D l x0 (.iface τ0 u0)) (hm0 : nodesM l x0 = some m0) (x1 : Tm) (m1 : Nat) (hv1 : Fv L B w0 D l x1 (.iface τ1 u1)) (hm1 : nodesM l x1 = some m1) (H P : List (List UInt8)) (v : Value) (w : World) (hB : B ≤ base) (hb : base ≤ w.heap.size) (hW : Below B w0 w) (hTab : TabB B w) (hT : Toks base w v P) (hlen : P.length + H.length + 123 * m0 + 123 * m1 ≤ 1000000)
    (HD : Calls Tryd.prog 21 #[v, .iface 84 (.agg #[.int .i64 nd, .iface τ0 u0, .iface τ1 u1])] w fun e w' => ∃ v' : Value, e = .returned v' ∧ Kt v w v' w' ∧ Toks base w' v' (P ++ H)) :
    Calls Tryd.prog 19 #[v, .iface 84 (.agg #[.int .i64 nd, .iface τ0 u0, .iface τ1 u1]), .func (.func 21) #[] #[]] w fun e w' => ∃ v' : Value, e = .returned v' ∧ Kt v w v' w' ∧ Toks base w' v' (((P ++ H) ++ toksM l x0) ++ toksM l x1) := by
  have HV0 : Hid (Fv L B w0 D l x0 (.iface τ0 u0)) := hv0
  have HM0 : Hid (nodesM l x0 = some m0) := hm0
  have HL0 : Hid ((toksM l x0).length ≤ 123 * m0) := toksM_len _ _ _ hm0
  clear hv0 hm0
  have HV1 : Hid (Fv L B w0 D l x1 (.iface τ1 u1)) := hv1
  have HM1 : Hid (nodesM l x1 = some m1) := hm1
  have HL1 : Hid ((toksM l x1).length ≤ 123 * m1) := toksM_len _ _ _ hm1
  clear hv1 hm1
  have HLEN : Hid (P.length + H.length + 123 * m0 + 123 * m1 ≤ 1000000) := hlen
  clear hlen
  go_enter Tryd.func19, Tryd.ntmps19
  go_wp2_with fail
  refine HD.mono ?_
  rintro e y1 ⟨v0, rfl, hk1, hT1⟩
  clear HD
  have bw1 : Below base w y1 := hk1.below hT hb
  go_wp2_with fail
  refine (parts_5 s z nd n tK tN a1 l1 c1 a2 l2 c2 τ0 τ1 τ2 u0 u1 u2 y1).mono ?_
  rintro e X ⟨g, rfl, hXb, hgw, hx⟩
  have hs0 := toks_below hT1 hXb
  have hne : v0.ownBlock ≠ some g := fun e => by have := (toks_in hT1 e).2; omega
  have hgX : g < X.heap.size := (Array.getElem?_eq_some_iff.1 hx).1
  have k0 : Kt v0 X v0 X := Kt.of_below (Below.refl _ _)
  have b0 : Below base w X := bw1.trans (hXb.mono (by have := bw1.size; omega))
  have zX : base ≤ X.heap.size := by have := b0.size; omega
  have q0_0 : X.cell? ⟨g, 0, none⟩ = some (.iface τ0 u0) := row_cell hx 0
  have q0_1 : X.cell? ⟨g, 1, none⟩ = some (.iface τ1 u1) := row_cell hx 1
  go_wp2_with fail
  refine wp_loop_rounds 3 ?_
  rw [rounds_succ]
  go_wp2_with fail
  refine (IH L B D base w0 x0 _ _ (P ++ H) m0 _ hB (by have := b0.size; omega) HV0.out HM0.out (hW.trans (b0.mono hB)) (hTab.below (b0.mono hB)) hs0 (by have := HLEN.out; simp only [List.length_append]; omega)).mono ?_
  rintro e w1 ⟨v1, rfl, kk1, hs1⟩
  have k1 := k0.trans kk1
  have b1 : Below base w w1 := b0.trans (k1.below hs0 zX)
  have hx1 := (k1.block g hgX hne).trans hx
  have q1_0 : w1.cell? ⟨g, 0, none⟩ = some (.iface τ0 u0) := row_cell hx1 0
  have q1_1 : w1.cell? ⟨g, 1, none⟩ = some (.iface τ1 u1) := row_cell hx1 1
  clear kk1 hx1
  go_wp2_with fail
  rw [rounds_succ]
  go_wp2_with fail
  refine (IH L B D base w0 x1 _ _ ((P ++ H) ++ toksM l x0) m1 _ hB (by have := b1.size; omega) HV1.out HM1.out (hW.trans (b1.mono hB)) (hTab.below (b1.mono hB)) hs1 (by have := HLEN.out; have := HL0.out; simp only [List.length_append]; omega)).mono ?_
  rintro e w2 ⟨v2, rfl, kk2, hs2⟩
  have k2 := k1.trans kk2
  have b2 : Below base w w2 := b0.trans (k2.below hs0 zX)
  have hx2 := (k2.block g hgX hne).trans hx
  have q2_0 : w2.cell? ⟨g, 0, none⟩ = some (.iface τ0 u0) := row_cell hx2 0
  have q2_1 : w2.cell? ⟨g, 1, none⟩ = some (.iface τ1 u1) := row_cell hx2 1
  clear kk2 hx2
  go_wp2_with fail
  rw [rounds_succ]
  go_wp2_with fail
  go_ret
  exact ⟨_, rfl, hk1.trans ((Kt.of_below hXb).trans k2), hs2⟩

set_option maxRecDepth 100000 in
set_option maxHeartbeats 1000000 in
theorem ft_6 (l : Nat) (IH : SaidFt l) (L B D base : Nat) (w0 : World) (s z : ByteArray) (nd n tK tN : Int) (a1 : Option Addr) (l1 c1 : Nat) (a2 : Option Addr) (l2 c2 : Nat) (τ0 τ1 τ2 : TypeId) (u0 u1 u2 : Value) (x0 : Tm) (m0 : Nat) (hv0 : Fv L B w0 D l x0 (.iface τ0 u0)) (hm0 : nodesM l x0 = some m0) (x1 : Tm) (m1 : Nat) (hv1 : Fv L B w0 D l x1 (.iface τ1 u1)) (hm1 : nodesM l x1 = some m1) (H P : List (List UInt8)) (v : Value) (w : World) (hB : B ≤ base) (hb : base ≤ w.heap.size) (hW : Below B w0 w) (hTab : TabB B w) (hT : Toks base w v P) (hlen : P.length + H.length + 123 * m0 + 123 * m1 ≤ 1000000)
    (HD : Calls Tryd.prog 21 #[v, .iface 86 (.agg #[.string s, .int .i64 n, .iface τ0 u0, .iface τ1 u1])] w fun e w' => ∃ v' : Value, e = .returned v' ∧ Kt v w v' w' ∧ Toks base w' v' (P ++ H)) :
    Calls Tryd.prog 19 #[v, .iface 86 (.agg #[.string s, .int .i64 n, .iface τ0 u0, .iface τ1 u1]), .func (.func 21) #[] #[]] w fun e w' => ∃ v' : Value, e = .returned v' ∧ Kt v w v' w' ∧ Toks base w' v' (((P ++ H) ++ toksM l x0) ++ toksM l x1) := by
  have HV0 : Hid (Fv L B w0 D l x0 (.iface τ0 u0)) := hv0
  have HM0 : Hid (nodesM l x0 = some m0) := hm0
  have HL0 : Hid ((toksM l x0).length ≤ 123 * m0) := toksM_len _ _ _ hm0
  clear hv0 hm0
  have HV1 : Hid (Fv L B w0 D l x1 (.iface τ1 u1)) := hv1
  have HM1 : Hid (nodesM l x1 = some m1) := hm1
  have HL1 : Hid ((toksM l x1).length ≤ 123 * m1) := toksM_len _ _ _ hm1
  clear hv1 hm1
  have HLEN : Hid (P.length + H.length + 123 * m0 + 123 * m1 ≤ 1000000) := hlen
  clear hlen
  go_enter Tryd.func19, Tryd.ntmps19
  go_wp2_with fail
  refine HD.mono ?_
  rintro e y1 ⟨v0, rfl, hk1, hT1⟩
  clear HD
  have bw1 : Below base w y1 := hk1.below hT hb
  go_wp2_with fail
  refine (parts_6 s z nd n tK tN a1 l1 c1 a2 l2 c2 τ0 τ1 τ2 u0 u1 u2 y1).mono ?_
  rintro e X ⟨g, rfl, hXb, hgw, hx⟩
  have hs0 := toks_below hT1 hXb
  have hne : v0.ownBlock ≠ some g := fun e => by have := (toks_in hT1 e).2; omega
  have hgX : g < X.heap.size := (Array.getElem?_eq_some_iff.1 hx).1
  have k0 : Kt v0 X v0 X := Kt.of_below (Below.refl _ _)
  have b0 : Below base w X := bw1.trans (hXb.mono (by have := bw1.size; omega))
  have zX : base ≤ X.heap.size := by have := b0.size; omega
  have q0_0 : X.cell? ⟨g, 0, none⟩ = some (.iface τ0 u0) := row_cell hx 0
  have q0_1 : X.cell? ⟨g, 1, none⟩ = some (.iface τ1 u1) := row_cell hx 1
  go_wp2_with fail
  refine wp_loop_rounds 3 ?_
  rw [rounds_succ]
  go_wp2_with fail
  refine (IH L B D base w0 x0 _ _ (P ++ H) m0 _ hB (by have := b0.size; omega) HV0.out HM0.out (hW.trans (b0.mono hB)) (hTab.below (b0.mono hB)) hs0 (by have := HLEN.out; simp only [List.length_append]; omega)).mono ?_
  rintro e w1 ⟨v1, rfl, kk1, hs1⟩
  have k1 := k0.trans kk1
  have b1 : Below base w w1 := b0.trans (k1.below hs0 zX)
  have hx1 := (k1.block g hgX hne).trans hx
  have q1_0 : w1.cell? ⟨g, 0, none⟩ = some (.iface τ0 u0) := row_cell hx1 0
  have q1_1 : w1.cell? ⟨g, 1, none⟩ = some (.iface τ1 u1) := row_cell hx1 1
  clear kk1 hx1
  go_wp2_with fail
  rw [rounds_succ]
  go_wp2_with fail
  refine (IH L B D base w0 x1 _ _ ((P ++ H) ++ toksM l x0) m1 _ hB (by have := b1.size; omega) HV1.out HM1.out (hW.trans (b1.mono hB)) (hTab.below (b1.mono hB)) hs1 (by have := HLEN.out; have := HL0.out; simp only [List.length_append]; omega)).mono ?_
  rintro e w2 ⟨v2, rfl, kk2, hs2⟩
  have k2 := k1.trans kk2
  have b2 : Below base w w2 := b0.trans (k2.below hs0 zX)
  have hx2 := (k2.block g hgX hne).trans hx
  have q2_0 : w2.cell? ⟨g, 0, none⟩ = some (.iface τ0 u0) := row_cell hx2 0
  have q2_1 : w2.cell? ⟨g, 1, none⟩ = some (.iface τ1 u1) := row_cell hx2 1
  clear kk2 hx2
  go_wp2_with fail
  rw [rounds_succ]
  go_wp2_with fail
  go_ret
  exact ⟨_, rfl, hk1.trans ((Kt.of_below hXb).trans k2), hs2⟩

set_option maxRecDepth 100000 in
set_option maxHeartbeats 1000000 in
theorem ft_7 (l : Nat) (IH : SaidFt l) (L B D base : Nat) (w0 : World) (s z : ByteArray) (nd n tK tN : Int) (a1 : Option Addr) (l1 c1 : Nat) (a2 : Option Addr) (l2 c2 : Nat) (τ0 τ1 τ2 : TypeId) (u0 u1 u2 : Value) (x0 : Tm) (m0 : Nat) (hv0 : Fv L B w0 D l x0 (.iface τ0 u0)) (hm0 : nodesM l x0 = some m0) (x1 : Tm) (m1 : Nat) (hv1 : Fv L B w0 D l x1 (.iface τ1 u1)) (hm1 : nodesM l x1 = some m1) (H P : List (List UInt8)) (v : Value) (w : World) (hB : B ≤ base) (hb : base ≤ w.heap.size) (hW : Below B w0 w) (hTab : TabB B w) (hT : Toks base w v P) (hlen : P.length + H.length + 123 * m0 + 123 * m1 ≤ 1000000)
    (HD : Calls Tryd.prog 21 #[v, .iface 88 (.agg #[.string s, .int .i64 n, .int .i64 tK, .int .i64 tN, .slice a1 l1 c1, .iface τ0 u0, .iface τ1 u1])] w fun e w' => ∃ v' : Value, e = .returned v' ∧ Kt v w v' w' ∧ Toks base w' v' (P ++ H)) :
    Calls Tryd.prog 19 #[v, .iface 88 (.agg #[.string s, .int .i64 n, .int .i64 tK, .int .i64 tN, .slice a1 l1 c1, .iface τ0 u0, .iface τ1 u1]), .func (.func 21) #[] #[]] w fun e w' => ∃ v' : Value, e = .returned v' ∧ Kt v w v' w' ∧ Toks base w' v' (((P ++ H) ++ toksM l x0) ++ toksM l x1) := by
  have HV0 : Hid (Fv L B w0 D l x0 (.iface τ0 u0)) := hv0
  have HM0 : Hid (nodesM l x0 = some m0) := hm0
  have HL0 : Hid ((toksM l x0).length ≤ 123 * m0) := toksM_len _ _ _ hm0
  clear hv0 hm0
  have HV1 : Hid (Fv L B w0 D l x1 (.iface τ1 u1)) := hv1
  have HM1 : Hid (nodesM l x1 = some m1) := hm1
  have HL1 : Hid ((toksM l x1).length ≤ 123 * m1) := toksM_len _ _ _ hm1
  clear hv1 hm1
  have HLEN : Hid (P.length + H.length + 123 * m0 + 123 * m1 ≤ 1000000) := hlen
  clear hlen
  go_enter Tryd.func19, Tryd.ntmps19
  go_wp2_with fail
  refine HD.mono ?_
  rintro e y1 ⟨v0, rfl, hk1, hT1⟩
  clear HD
  have bw1 : Below base w y1 := hk1.below hT hb
  go_wp2_with fail
  refine (parts_7 s z nd n tK tN a1 l1 c1 a2 l2 c2 τ0 τ1 τ2 u0 u1 u2 y1).mono ?_
  rintro e X ⟨g, rfl, hXb, hgw, hx⟩
  have hs0 := toks_below hT1 hXb
  have hne : v0.ownBlock ≠ some g := fun e => by have := (toks_in hT1 e).2; omega
  have hgX : g < X.heap.size := (Array.getElem?_eq_some_iff.1 hx).1
  have k0 : Kt v0 X v0 X := Kt.of_below (Below.refl _ _)
  have b0 : Below base w X := bw1.trans (hXb.mono (by have := bw1.size; omega))
  have zX : base ≤ X.heap.size := by have := b0.size; omega
  have q0_0 : X.cell? ⟨g, 0, none⟩ = some (.iface τ0 u0) := row_cell hx 0
  have q0_1 : X.cell? ⟨g, 1, none⟩ = some (.iface τ1 u1) := row_cell hx 1
  go_wp2_with fail
  refine wp_loop_rounds 3 ?_
  rw [rounds_succ]
  go_wp2_with fail
  refine (IH L B D base w0 x0 _ _ (P ++ H) m0 _ hB (by have := b0.size; omega) HV0.out HM0.out (hW.trans (b0.mono hB)) (hTab.below (b0.mono hB)) hs0 (by have := HLEN.out; simp only [List.length_append]; omega)).mono ?_
  rintro e w1 ⟨v1, rfl, kk1, hs1⟩
  have k1 := k0.trans kk1
  have b1 : Below base w w1 := b0.trans (k1.below hs0 zX)
  have hx1 := (k1.block g hgX hne).trans hx
  have q1_0 : w1.cell? ⟨g, 0, none⟩ = some (.iface τ0 u0) := row_cell hx1 0
  have q1_1 : w1.cell? ⟨g, 1, none⟩ = some (.iface τ1 u1) := row_cell hx1 1
  clear kk1 hx1
  go_wp2_with fail
  rw [rounds_succ]
  go_wp2_with fail
  refine (IH L B D base w0 x1 _ _ ((P ++ H) ++ toksM l x0) m1 _ hB (by have := b1.size; omega) HV1.out HM1.out (hW.trans (b1.mono hB)) (hTab.below (b1.mono hB)) hs1 (by have := HLEN.out; have := HL0.out; simp only [List.length_append]; omega)).mono ?_
  rintro e w2 ⟨v2, rfl, kk2, hs2⟩
  have k2 := k1.trans kk2
  have b2 : Below base w w2 := b0.trans (k2.below hs0 zX)
  have hx2 := (k2.block g hgX hne).trans hx
  have q2_0 : w2.cell? ⟨g, 0, none⟩ = some (.iface τ0 u0) := row_cell hx2 0
  have q2_1 : w2.cell? ⟨g, 1, none⟩ = some (.iface τ1 u1) := row_cell hx2 1
  clear kk2 hx2
  go_wp2_with fail
  rw [rounds_succ]
  go_wp2_with fail
  go_ret
  exact ⟨_, rfl, hk1.trans ((Kt.of_below hXb).trans k2), hs2⟩

set_option maxRecDepth 100000 in
set_option maxHeartbeats 1000000 in
theorem ft_8 (l : Nat) (IH : SaidFt l) (L B D base : Nat) (w0 : World) (s z : ByteArray) (nd n tK tN : Int) (a1 : Option Addr) (l1 c1 : Nat) (a2 : Option Addr) (l2 c2 : Nat) (τ0 τ1 τ2 : TypeId) (u0 u1 u2 : Value) (x0 : Tm) (m0 : Nat) (hv0 : Fv L B w0 D l x0 (.iface τ0 u0)) (hm0 : nodesM l x0 = some m0) (x1 : Tm) (m1 : Nat) (hv1 : Fv L B w0 D l x1 (.iface τ1 u1)) (hm1 : nodesM l x1 = some m1) (x2 : Tm) (m2 : Nat) (hv2 : Fv L B w0 D l x2 (.iface τ2 u2)) (hm2 : nodesM l x2 = some m2) (H P : List (List UInt8)) (v : Value) (w : World) (hB : B ≤ base) (hb : base ≤ w.heap.size) (hW : Below B w0 w) (hTab : TabB B w) (hT : Toks base w v P) (hlen : P.length + H.length + 123 * m0 + 123 * m1 + 123 * m2 ≤ 1000000)
    (HD : Calls Tryd.prog 21 #[v, .iface 90 (.agg #[.iface τ0 u0, .iface τ1 u1, .iface τ2 u2])] w fun e w' => ∃ v' : Value, e = .returned v' ∧ Kt v w v' w' ∧ Toks base w' v' (P ++ H)) :
    Calls Tryd.prog 19 #[v, .iface 90 (.agg #[.iface τ0 u0, .iface τ1 u1, .iface τ2 u2]), .func (.func 21) #[] #[]] w fun e w' => ∃ v' : Value, e = .returned v' ∧ Kt v w v' w' ∧ Toks base w' v' ((((P ++ H) ++ toksM l x0) ++ toksM l x1) ++ toksM l x2) := by
  have HV0 : Hid (Fv L B w0 D l x0 (.iface τ0 u0)) := hv0
  have HM0 : Hid (nodesM l x0 = some m0) := hm0
  have HL0 : Hid ((toksM l x0).length ≤ 123 * m0) := toksM_len _ _ _ hm0
  clear hv0 hm0
  have HV1 : Hid (Fv L B w0 D l x1 (.iface τ1 u1)) := hv1
  have HM1 : Hid (nodesM l x1 = some m1) := hm1
  have HL1 : Hid ((toksM l x1).length ≤ 123 * m1) := toksM_len _ _ _ hm1
  clear hv1 hm1
  have HV2 : Hid (Fv L B w0 D l x2 (.iface τ2 u2)) := hv2
  have HM2 : Hid (nodesM l x2 = some m2) := hm2
  have HL2 : Hid ((toksM l x2).length ≤ 123 * m2) := toksM_len _ _ _ hm2
  clear hv2 hm2
  have HLEN : Hid (P.length + H.length + 123 * m0 + 123 * m1 + 123 * m2 ≤ 1000000) := hlen
  clear hlen
  go_enter Tryd.func19, Tryd.ntmps19
  go_wp2_with fail
  refine HD.mono ?_
  rintro e y1 ⟨v0, rfl, hk1, hT1⟩
  clear HD
  have bw1 : Below base w y1 := hk1.below hT hb
  go_wp2_with fail
  refine (parts_8 s z nd n tK tN a1 l1 c1 a2 l2 c2 τ0 τ1 τ2 u0 u1 u2 y1).mono ?_
  rintro e X ⟨g, rfl, hXb, hgw, hx⟩
  have hs0 := toks_below hT1 hXb
  have hne : v0.ownBlock ≠ some g := fun e => by have := (toks_in hT1 e).2; omega
  have hgX : g < X.heap.size := (Array.getElem?_eq_some_iff.1 hx).1
  have k0 : Kt v0 X v0 X := Kt.of_below (Below.refl _ _)
  have b0 : Below base w X := bw1.trans (hXb.mono (by have := bw1.size; omega))
  have zX : base ≤ X.heap.size := by have := b0.size; omega
  have q0_0 : X.cell? ⟨g, 0, none⟩ = some (.iface τ0 u0) := row_cell hx 0
  have q0_1 : X.cell? ⟨g, 1, none⟩ = some (.iface τ1 u1) := row_cell hx 1
  have q0_2 : X.cell? ⟨g, 2, none⟩ = some (.iface τ2 u2) := row_cell hx 2
  go_wp2_with fail
  refine wp_loop_rounds 4 ?_
  rw [rounds_succ]
  go_wp2_with fail
  refine (IH L B D base w0 x0 _ _ (P ++ H) m0 _ hB (by have := b0.size; omega) HV0.out HM0.out (hW.trans (b0.mono hB)) (hTab.below (b0.mono hB)) hs0 (by have := HLEN.out; simp only [List.length_append]; omega)).mono ?_
  rintro e w1 ⟨v1, rfl, kk1, hs1⟩
  have k1 := k0.trans kk1
  have b1 : Below base w w1 := b0.trans (k1.below hs0 zX)
  have hx1 := (k1.block g hgX hne).trans hx
  have q1_0 : w1.cell? ⟨g, 0, none⟩ = some (.iface τ0 u0) := row_cell hx1 0
  have q1_1 : w1.cell? ⟨g, 1, none⟩ = some (.iface τ1 u1) := row_cell hx1 1
  have q1_2 : w1.cell? ⟨g, 2, none⟩ = some (.iface τ2 u2) := row_cell hx1 2
  clear kk1 hx1
  go_wp2_with fail
  rw [rounds_succ]
  go_wp2_with fail
  refine (IH L B D base w0 x1 _ _ ((P ++ H) ++ toksM l x0) m1 _ hB (by have := b1.size; omega) HV1.out HM1.out (hW.trans (b1.mono hB)) (hTab.below (b1.mono hB)) hs1 (by have := HLEN.out; have := HL0.out; simp only [List.length_append]; omega)).mono ?_
  rintro e w2 ⟨v2, rfl, kk2, hs2⟩
  have k2 := k1.trans kk2
  have b2 : Below base w w2 := b0.trans (k2.below hs0 zX)
  have hx2 := (k2.block g hgX hne).trans hx
  have q2_0 : w2.cell? ⟨g, 0, none⟩ = some (.iface τ0 u0) := row_cell hx2 0
  have q2_1 : w2.cell? ⟨g, 1, none⟩ = some (.iface τ1 u1) := row_cell hx2 1
  have q2_2 : w2.cell? ⟨g, 2, none⟩ = some (.iface τ2 u2) := row_cell hx2 2
  clear kk2 hx2
  go_wp2_with fail
  rw [rounds_succ]
  go_wp2_with fail
  refine (IH L B D base w0 x2 _ _ (((P ++ H) ++ toksM l x0) ++ toksM l x1) m2 _ hB (by have := b2.size; omega) HV2.out HM2.out (hW.trans (b2.mono hB)) (hTab.below (b2.mono hB)) hs2 (by have := HLEN.out; have := HL0.out; have := HL1.out; simp only [List.length_append]; omega)).mono ?_
  rintro e w3 ⟨v3, rfl, kk3, hs3⟩
  have k3 := k2.trans kk3
  have b3 : Below base w w3 := b0.trans (k3.below hs0 zX)
  have hx3 := (k3.block g hgX hne).trans hx
  have q3_0 : w3.cell? ⟨g, 0, none⟩ = some (.iface τ0 u0) := row_cell hx3 0
  have q3_1 : w3.cell? ⟨g, 1, none⟩ = some (.iface τ1 u1) := row_cell hx3 1
  have q3_2 : w3.cell? ⟨g, 2, none⟩ = some (.iface τ2 u2) := row_cell hx3 2
  clear kk3 hx3
  go_wp2_with fail
  rw [rounds_succ]
  go_wp2_with fail
  go_ret
  exact ⟨_, rfl, hk1.trans ((Kt.of_below hXb).trans k3), hs3⟩

set_option maxRecDepth 100000 in
set_option maxHeartbeats 1000000 in
theorem ft_9 (l : Nat) (IH : SaidFt l) (L B D base : Nat) (w0 : World) (s z : ByteArray) (nd n tK tN : Int) (a1 : Option Addr) (l1 c1 : Nat) (a2 : Option Addr) (l2 c2 : Nat) (τ0 τ1 τ2 : TypeId) (u0 u1 u2 : Value) (x0 : Tm) (m0 : Nat) (hv0 : Fv L B w0 D l x0 (.iface τ0 u0)) (hm0 : nodesM l x0 = some m0) (x1 : Tm) (m1 : Nat) (hv1 : Fv L B w0 D l x1 (.iface τ1 u1)) (hm1 : nodesM l x1 = some m1) (H P : List (List UInt8)) (v : Value) (w : World) (hB : B ≤ base) (hb : base ≤ w.heap.size) (hW : Below B w0 w) (hTab : TabB B w) (hT : Toks base w v P) (hlen : P.length + H.length + 123 * m0 + 123 * m1 ≤ 1000000)
    (HD : Calls Tryd.prog 21 #[v, .iface 92 (.agg #[.iface τ0 u0, .iface τ1 u1])] w fun e w' => ∃ v' : Value, e = .returned v' ∧ Kt v w v' w' ∧ Toks base w' v' (P ++ H)) :
    Calls Tryd.prog 19 #[v, .iface 92 (.agg #[.iface τ0 u0, .iface τ1 u1]), .func (.func 21) #[] #[]] w fun e w' => ∃ v' : Value, e = .returned v' ∧ Kt v w v' w' ∧ Toks base w' v' (((P ++ H) ++ toksM l x0) ++ toksM l x1) := by
  have HV0 : Hid (Fv L B w0 D l x0 (.iface τ0 u0)) := hv0
  have HM0 : Hid (nodesM l x0 = some m0) := hm0
  have HL0 : Hid ((toksM l x0).length ≤ 123 * m0) := toksM_len _ _ _ hm0
  clear hv0 hm0
  have HV1 : Hid (Fv L B w0 D l x1 (.iface τ1 u1)) := hv1
  have HM1 : Hid (nodesM l x1 = some m1) := hm1
  have HL1 : Hid ((toksM l x1).length ≤ 123 * m1) := toksM_len _ _ _ hm1
  clear hv1 hm1
  have HLEN : Hid (P.length + H.length + 123 * m0 + 123 * m1 ≤ 1000000) := hlen
  clear hlen
  go_enter Tryd.func19, Tryd.ntmps19
  go_wp2_with fail
  refine HD.mono ?_
  rintro e y1 ⟨v0, rfl, hk1, hT1⟩
  clear HD
  have bw1 : Below base w y1 := hk1.below hT hb
  go_wp2_with fail
  refine (parts_9 s z nd n tK tN a1 l1 c1 a2 l2 c2 τ0 τ1 τ2 u0 u1 u2 y1).mono ?_
  rintro e X ⟨g, rfl, hXb, hgw, hx⟩
  have hs0 := toks_below hT1 hXb
  have hne : v0.ownBlock ≠ some g := fun e => by have := (toks_in hT1 e).2; omega
  have hgX : g < X.heap.size := (Array.getElem?_eq_some_iff.1 hx).1
  have k0 : Kt v0 X v0 X := Kt.of_below (Below.refl _ _)
  have b0 : Below base w X := bw1.trans (hXb.mono (by have := bw1.size; omega))
  have zX : base ≤ X.heap.size := by have := b0.size; omega
  have q0_0 : X.cell? ⟨g, 0, none⟩ = some (.iface τ0 u0) := row_cell hx 0
  have q0_1 : X.cell? ⟨g, 1, none⟩ = some (.iface τ1 u1) := row_cell hx 1
  go_wp2_with fail
  refine wp_loop_rounds 3 ?_
  rw [rounds_succ]
  go_wp2_with fail
  refine (IH L B D base w0 x0 _ _ (P ++ H) m0 _ hB (by have := b0.size; omega) HV0.out HM0.out (hW.trans (b0.mono hB)) (hTab.below (b0.mono hB)) hs0 (by have := HLEN.out; simp only [List.length_append]; omega)).mono ?_
  rintro e w1 ⟨v1, rfl, kk1, hs1⟩
  have k1 := k0.trans kk1
  have b1 : Below base w w1 := b0.trans (k1.below hs0 zX)
  have hx1 := (k1.block g hgX hne).trans hx
  have q1_0 : w1.cell? ⟨g, 0, none⟩ = some (.iface τ0 u0) := row_cell hx1 0
  have q1_1 : w1.cell? ⟨g, 1, none⟩ = some (.iface τ1 u1) := row_cell hx1 1
  clear kk1 hx1
  go_wp2_with fail
  rw [rounds_succ]
  go_wp2_with fail
  refine (IH L B D base w0 x1 _ _ ((P ++ H) ++ toksM l x0) m1 _ hB (by have := b1.size; omega) HV1.out HM1.out (hW.trans (b1.mono hB)) (hTab.below (b1.mono hB)) hs1 (by have := HLEN.out; have := HL0.out; simp only [List.length_append]; omega)).mono ?_
  rintro e w2 ⟨v2, rfl, kk2, hs2⟩
  have k2 := k1.trans kk2
  have b2 : Below base w w2 := b0.trans (k2.below hs0 zX)
  have hx2 := (k2.block g hgX hne).trans hx
  have q2_0 : w2.cell? ⟨g, 0, none⟩ = some (.iface τ0 u0) := row_cell hx2 0
  have q2_1 : w2.cell? ⟨g, 1, none⟩ = some (.iface τ1 u1) := row_cell hx2 1
  clear kk2 hx2
  go_wp2_with fail
  rw [rounds_succ]
  go_wp2_with fail
  go_ret
  exact ⟨_, rfl, hk1.trans ((Kt.of_below hXb).trans k2), hs2⟩

set_option maxRecDepth 100000 in
set_option maxHeartbeats 1000000 in
theorem ft_10 (l : Nat) (IH : SaidFt l) (L B D base : Nat) (w0 : World) (s z : ByteArray) (nd n tK tN : Int) (a1 : Option Addr) (l1 c1 : Nat) (a2 : Option Addr) (l2 c2 : Nat) (τ0 τ1 τ2 : TypeId) (u0 u1 u2 : Value) (x0 : Tm) (m0 : Nat) (hv0 : Fv L B w0 D l x0 (.iface τ0 u0)) (hm0 : nodesM l x0 = some m0) (H P : List (List UInt8)) (v : Value) (w : World) (hB : B ≤ base) (hb : base ≤ w.heap.size) (hW : Below B w0 w) (hTab : TabB B w) (hT : Toks base w v P) (hlen : P.length + H.length + 123 * m0 ≤ 1000000)
    (HD : Calls Tryd.prog 21 #[v, .iface 94 (.agg #[.iface τ0 u0])] w fun e w' => ∃ v' : Value, e = .returned v' ∧ Kt v w v' w' ∧ Toks base w' v' (P ++ H)) :
    Calls Tryd.prog 19 #[v, .iface 94 (.agg #[.iface τ0 u0]), .func (.func 21) #[] #[]] w fun e w' => ∃ v' : Value, e = .returned v' ∧ Kt v w v' w' ∧ Toks base w' v' ((P ++ H) ++ toksM l x0) := by
  have HV0 : Hid (Fv L B w0 D l x0 (.iface τ0 u0)) := hv0
  have HM0 : Hid (nodesM l x0 = some m0) := hm0
  have HL0 : Hid ((toksM l x0).length ≤ 123 * m0) := toksM_len _ _ _ hm0
  clear hv0 hm0
  have HLEN : Hid (P.length + H.length + 123 * m0 ≤ 1000000) := hlen
  clear hlen
  go_enter Tryd.func19, Tryd.ntmps19
  go_wp2_with fail
  refine HD.mono ?_
  rintro e y1 ⟨v0, rfl, hk1, hT1⟩
  clear HD
  have bw1 : Below base w y1 := hk1.below hT hb
  go_wp2_with fail
  refine (parts_10 s z nd n tK tN a1 l1 c1 a2 l2 c2 τ0 τ1 τ2 u0 u1 u2 y1).mono ?_
  rintro e X ⟨g, rfl, hXb, hgw, hx⟩
  have hs0 := toks_below hT1 hXb
  have hne : v0.ownBlock ≠ some g := fun e => by have := (toks_in hT1 e).2; omega
  have hgX : g < X.heap.size := (Array.getElem?_eq_some_iff.1 hx).1
  have k0 : Kt v0 X v0 X := Kt.of_below (Below.refl _ _)
  have b0 : Below base w X := bw1.trans (hXb.mono (by have := bw1.size; omega))
  have zX : base ≤ X.heap.size := by have := b0.size; omega
  have q0_0 : X.cell? ⟨g, 0, none⟩ = some (.iface τ0 u0) := row_cell hx 0
  go_wp2_with fail
  refine wp_loop_rounds 2 ?_
  rw [rounds_succ]
  go_wp2_with fail
  refine (IH L B D base w0 x0 _ _ (P ++ H) m0 _ hB (by have := b0.size; omega) HV0.out HM0.out (hW.trans (b0.mono hB)) (hTab.below (b0.mono hB)) hs0 (by have := HLEN.out; simp only [List.length_append]; omega)).mono ?_
  rintro e w1 ⟨v1, rfl, kk1, hs1⟩
  have k1 := k0.trans kk1
  have b1 : Below base w w1 := b0.trans (k1.below hs0 zX)
  have hx1 := (k1.block g hgX hne).trans hx
  have q1_0 : w1.cell? ⟨g, 0, none⟩ = some (.iface τ0 u0) := row_cell hx1 0
  clear kk1 hx1
  go_wp2_with fail
  rw [rounds_succ]
  go_wp2_with fail
  go_ret
  exact ⟨_, rfl, hk1.trans ((Kt.of_below hXb).trans k1), hs1⟩

set_option maxRecDepth 100000 in
set_option maxHeartbeats 1000000 in
theorem ft_11 (l : Nat) (IH : SaidFt l) (L B D base : Nat) (w0 : World) (s z : ByteArray) (nd n tK tN : Int) (a1 : Option Addr) (l1 c1 : Nat) (a2 : Option Addr) (l2 c2 : Nat) (τ0 τ1 τ2 : TypeId) (u0 u1 u2 : Value) (x0 : Tm) (m0 : Nat) (hv0 : Fv L B w0 D l x0 (.iface τ0 u0)) (hm0 : nodesM l x0 = some m0) (H P : List (List UInt8)) (v : Value) (w : World) (hB : B ≤ base) (hb : base ≤ w.heap.size) (hW : Below B w0 w) (hTab : TabB B w) (hT : Toks base w v P) (hlen : P.length + H.length + 123 * m0 ≤ 1000000)
    (HD : Calls Tryd.prog 21 #[v, .iface 95 (.agg #[.iface τ0 u0])] w fun e w' => ∃ v' : Value, e = .returned v' ∧ Kt v w v' w' ∧ Toks base w' v' (P ++ H)) :
    Calls Tryd.prog 19 #[v, .iface 95 (.agg #[.iface τ0 u0]), .func (.func 21) #[] #[]] w fun e w' => ∃ v' : Value, e = .returned v' ∧ Kt v w v' w' ∧ Toks base w' v' ((P ++ H) ++ toksM l x0) := by
  have HV0 : Hid (Fv L B w0 D l x0 (.iface τ0 u0)) := hv0
  have HM0 : Hid (nodesM l x0 = some m0) := hm0
  have HL0 : Hid ((toksM l x0).length ≤ 123 * m0) := toksM_len _ _ _ hm0
  clear hv0 hm0
  have HLEN : Hid (P.length + H.length + 123 * m0 ≤ 1000000) := hlen
  clear hlen
  go_enter Tryd.func19, Tryd.ntmps19
  go_wp2_with fail
  refine HD.mono ?_
  rintro e y1 ⟨v0, rfl, hk1, hT1⟩
  clear HD
  have bw1 : Below base w y1 := hk1.below hT hb
  go_wp2_with fail
  refine (parts_11 s z nd n tK tN a1 l1 c1 a2 l2 c2 τ0 τ1 τ2 u0 u1 u2 y1).mono ?_
  rintro e X ⟨g, rfl, hXb, hgw, hx⟩
  have hs0 := toks_below hT1 hXb
  have hne : v0.ownBlock ≠ some g := fun e => by have := (toks_in hT1 e).2; omega
  have hgX : g < X.heap.size := (Array.getElem?_eq_some_iff.1 hx).1
  have k0 : Kt v0 X v0 X := Kt.of_below (Below.refl _ _)
  have b0 : Below base w X := bw1.trans (hXb.mono (by have := bw1.size; omega))
  have zX : base ≤ X.heap.size := by have := b0.size; omega
  have q0_0 : X.cell? ⟨g, 0, none⟩ = some (.iface τ0 u0) := row_cell hx 0
  go_wp2_with fail
  refine wp_loop_rounds 2 ?_
  rw [rounds_succ]
  go_wp2_with fail
  refine (IH L B D base w0 x0 _ _ (P ++ H) m0 _ hB (by have := b0.size; omega) HV0.out HM0.out (hW.trans (b0.mono hB)) (hTab.below (b0.mono hB)) hs0 (by have := HLEN.out; simp only [List.length_append]; omega)).mono ?_
  rintro e w1 ⟨v1, rfl, kk1, hs1⟩
  have k1 := k0.trans kk1
  have b1 : Below base w w1 := b0.trans (k1.below hs0 zX)
  have hx1 := (k1.block g hgX hne).trans hx
  have q1_0 : w1.cell? ⟨g, 0, none⟩ = some (.iface τ0 u0) := row_cell hx1 0
  clear kk1 hx1
  go_wp2_with fail
  rw [rounds_succ]
  go_wp2_with fail
  go_ret
  exact ⟨_, rfl, hk1.trans ((Kt.of_below hXb).trans k1), hs1⟩

set_option maxRecDepth 100000 in
set_option maxHeartbeats 1000000 in
theorem ft_12 (l : Nat) (IH : SaidFt l) (L B D base : Nat) (w0 : World) (s z : ByteArray) (nd n tK tN : Int) (a1 : Option Addr) (l1 c1 : Nat) (a2 : Option Addr) (l2 c2 : Nat) (τ0 τ1 τ2 : TypeId) (u0 u1 u2 : Value)  (H P : List (List UInt8)) (v : Value) (w : World) (hB : B ≤ base) (hb : base ≤ w.heap.size) (hW : Below B w0 w) (hTab : TabB B w) (hT : Toks base w v P) (hlen : P.length + H.length ≤ 1000000)
    (HD : Calls Tryd.prog 21 #[v, .iface 97 (.agg #[.int .i64 tK, .int .i64 tN, .slice a1 l1 c1])] w fun e w' => ∃ v' : Value, e = .returned v' ∧ Kt v w v' w' ∧ Toks base w' v' (P ++ H)) :
    Calls Tryd.prog 19 #[v, .iface 97 (.agg #[.int .i64 tK, .int .i64 tN, .slice a1 l1 c1]), .func (.func 21) #[] #[]] w fun e w' => ∃ v' : Value, e = .returned v' ∧ Kt v w v' w' ∧ Toks base w' v' (P ++ H) := by
  have HLEN : Hid (P.length + H.length ≤ 1000000) := hlen
  clear hlen
  go_enter Tryd.func19, Tryd.ntmps19
  go_wp2_with fail
  refine HD.mono ?_
  rintro e y1 ⟨v0, rfl, hk1, hT1⟩
  clear HD
  have bw1 : Below base w y1 := hk1.below hT hb
  go_wp2_with fail
  refine (parts_12 s z nd n tK tN a1 l1 c1 a2 l2 c2 τ0 τ1 τ2 u0 u1 u2 y1).mono ?_
  rintro e X ⟨rfl, hXb⟩
  have hs0 := toks_below hT1 hXb
  have k0 : Kt v0 X v0 X := Kt.of_below (Below.refl _ _)
  go_wp2_with fail
  refine wp_loop_rounds 1 ?_
  rw [rounds_succ]
  go_wp2_with fail
  go_ret
  exact ⟨_, rfl, hk1.trans ((Kt.of_below hXb).trans k0), hs0⟩

set_option maxRecDepth 100000 in
set_option maxHeartbeats 1000000 in
theorem ft_13 (l : Nat) (IH : SaidFt l) (L B D base : Nat) (w0 : World) (s z : ByteArray) (nd n tK tN : Int) (a1 : Option Addr) (l1 c1 : Nat) (a2 : Option Addr) (l2 c2 : Nat) (τ0 τ1 τ2 : TypeId) (u0 u1 u2 : Value) (x0 : Tm) (m0 : Nat) (hv0 : Fv L B w0 D l x0 (.iface τ0 u0)) (hm0 : nodesM l x0 = some m0) (x1 : Tm) (m1 : Nat) (hv1 : Fv L B w0 D l x1 (.iface τ1 u1)) (hm1 : nodesM l x1 = some m1) (H P : List (List UInt8)) (v : Value) (w : World) (hB : B ≤ base) (hb : base ≤ w.heap.size) (hW : Below B w0 w) (hTab : TabB B w) (hT : Toks base w v P) (hlen : P.length + H.length + 123 * m0 + 123 * m1 ≤ 1000000)
    (HD : Calls Tryd.prog 21 #[v, .iface 99 (.agg #[.iface τ0 u0, .iface τ1 u1])] w fun e w' => ∃ v' : Value, e = .returned v' ∧ Kt v w v' w' ∧ Toks base w' v' (P ++ H)) :
    Calls Tryd.prog 19 #[v, .iface 99 (.agg #[.iface τ0 u0, .iface τ1 u1]), .func (.func 21) #[] #[]] w fun e w' => ∃ v' : Value, e = .returned v' ∧ Kt v w v' w' ∧ Toks base w' v' (((P ++ H) ++ toksM l x0) ++ toksM l x1) := by
  have HV0 : Hid (Fv L B w0 D l x0 (.iface τ0 u0)) := hv0
  have HM0 : Hid (nodesM l x0 = some m0) := hm0
  have HL0 : Hid ((toksM l x0).length ≤ 123 * m0) := toksM_len _ _ _ hm0
  clear hv0 hm0
  have HV1 : Hid (Fv L B w0 D l x1 (.iface τ1 u1)) := hv1
  have HM1 : Hid (nodesM l x1 = some m1) := hm1
  have HL1 : Hid ((toksM l x1).length ≤ 123 * m1) := toksM_len _ _ _ hm1
  clear hv1 hm1
  have HLEN : Hid (P.length + H.length + 123 * m0 + 123 * m1 ≤ 1000000) := hlen
  clear hlen
  go_enter Tryd.func19, Tryd.ntmps19
  go_wp2_with fail
  refine HD.mono ?_
  rintro e y1 ⟨v0, rfl, hk1, hT1⟩
  clear HD
  have bw1 : Below base w y1 := hk1.below hT hb
  go_wp2_with fail
  refine (parts_13 s z nd n tK tN a1 l1 c1 a2 l2 c2 τ0 τ1 τ2 u0 u1 u2 y1).mono ?_
  rintro e X ⟨g, rfl, hXb, hgw, hx⟩
  have hs0 := toks_below hT1 hXb
  have hne : v0.ownBlock ≠ some g := fun e => by have := (toks_in hT1 e).2; omega
  have hgX : g < X.heap.size := (Array.getElem?_eq_some_iff.1 hx).1
  have k0 : Kt v0 X v0 X := Kt.of_below (Below.refl _ _)
  have b0 : Below base w X := bw1.trans (hXb.mono (by have := bw1.size; omega))
  have zX : base ≤ X.heap.size := by have := b0.size; omega
  have q0_0 : X.cell? ⟨g, 0, none⟩ = some (.iface τ0 u0) := row_cell hx 0
  have q0_1 : X.cell? ⟨g, 1, none⟩ = some (.iface τ1 u1) := row_cell hx 1
  go_wp2_with fail
  refine wp_loop_rounds 3 ?_
  rw [rounds_succ]
  go_wp2_with fail
  refine (IH L B D base w0 x0 _ _ (P ++ H) m0 _ hB (by have := b0.size; omega) HV0.out HM0.out (hW.trans (b0.mono hB)) (hTab.below (b0.mono hB)) hs0 (by have := HLEN.out; simp only [List.length_append]; omega)).mono ?_
  rintro e w1 ⟨v1, rfl, kk1, hs1⟩
  have k1 := k0.trans kk1
  have b1 : Below base w w1 := b0.trans (k1.below hs0 zX)
  have hx1 := (k1.block g hgX hne).trans hx
  have q1_0 : w1.cell? ⟨g, 0, none⟩ = some (.iface τ0 u0) := row_cell hx1 0
  have q1_1 : w1.cell? ⟨g, 1, none⟩ = some (.iface τ1 u1) := row_cell hx1 1
  clear kk1 hx1
  go_wp2_with fail
  rw [rounds_succ]
  go_wp2_with fail
  refine (IH L B D base w0 x1 _ _ ((P ++ H) ++ toksM l x0) m1 _ hB (by have := b1.size; omega) HV1.out HM1.out (hW.trans (b1.mono hB)) (hTab.below (b1.mono hB)) hs1 (by have := HLEN.out; have := HL0.out; simp only [List.length_append]; omega)).mono ?_
  rintro e w2 ⟨v2, rfl, kk2, hs2⟩
  have k2 := k1.trans kk2
  have b2 : Below base w w2 := b0.trans (k2.below hs0 zX)
  have hx2 := (k2.block g hgX hne).trans hx
  have q2_0 : w2.cell? ⟨g, 0, none⟩ = some (.iface τ0 u0) := row_cell hx2 0
  have q2_1 : w2.cell? ⟨g, 1, none⟩ = some (.iface τ1 u1) := row_cell hx2 1
  clear kk2 hx2
  go_wp2_with fail
  rw [rounds_succ]
  go_wp2_with fail
  go_ret
  exact ⟨_, rfl, hk1.trans ((Kt.of_below hXb).trans k2), hs2⟩

set_option maxRecDepth 100000 in
set_option maxHeartbeats 1000000 in
theorem ft_14 (l : Nat) (IH : SaidFt l) (L B D base : Nat) (w0 : World) (s z : ByteArray) (nd n tK tN : Int) (a1 : Option Addr) (l1 c1 : Nat) (a2 : Option Addr) (l2 c2 : Nat) (τ0 τ1 τ2 : TypeId) (u0 u1 u2 : Value) (x0 : Tm) (m0 : Nat) (hv0 : Fv L B w0 D l x0 (.iface τ0 u0)) (hm0 : nodesM l x0 = some m0) (x1 : Tm) (m1 : Nat) (hv1 : Fv L B w0 D l x1 (.iface τ1 u1)) (hm1 : nodesM l x1 = some m1) (x2 : Tm) (m2 : Nat) (hv2 : Fv L B w0 D l x2 (.iface τ2 u2)) (hm2 : nodesM l x2 = some m2) (H P : List (List UInt8)) (v : Value) (w : World) (hB : B ≤ base) (hb : base ≤ w.heap.size) (hW : Below B w0 w) (hTab : TabB B w) (hT : Toks base w v P) (hlen : P.length + H.length + 123 * m0 + 123 * m1 + 123 * m2 ≤ 1000000)
    (HD : Calls Tryd.prog 21 #[v, .iface 101 (.agg #[.string s, .string z, .iface τ0 u0, .iface τ1 u1, .iface τ2 u2])] w fun e w' => ∃ v' : Value, e = .returned v' ∧ Kt v w v' w' ∧ Toks base w' v' (P ++ H)) :
    Calls Tryd.prog 19 #[v, .iface 101 (.agg #[.string s, .string z, .iface τ0 u0, .iface τ1 u1, .iface τ2 u2]), .func (.func 21) #[] #[]] w fun e w' => ∃ v' : Value, e = .returned v' ∧ Kt v w v' w' ∧ Toks base w' v' ((((P ++ H) ++ toksM l x0) ++ toksM l x1) ++ toksM l x2) := by
  have HV0 : Hid (Fv L B w0 D l x0 (.iface τ0 u0)) := hv0
  have HM0 : Hid (nodesM l x0 = some m0) := hm0
  have HL0 : Hid ((toksM l x0).length ≤ 123 * m0) := toksM_len _ _ _ hm0
  clear hv0 hm0
  have HV1 : Hid (Fv L B w0 D l x1 (.iface τ1 u1)) := hv1
  have HM1 : Hid (nodesM l x1 = some m1) := hm1
  have HL1 : Hid ((toksM l x1).length ≤ 123 * m1) := toksM_len _ _ _ hm1
  clear hv1 hm1
  have HV2 : Hid (Fv L B w0 D l x2 (.iface τ2 u2)) := hv2
  have HM2 : Hid (nodesM l x2 = some m2) := hm2
  have HL2 : Hid ((toksM l x2).length ≤ 123 * m2) := toksM_len _ _ _ hm2
  clear hv2 hm2
  have HLEN : Hid (P.length + H.length + 123 * m0 + 123 * m1 + 123 * m2 ≤ 1000000) := hlen
  clear hlen
  go_enter Tryd.func19, Tryd.ntmps19
  go_wp2_with fail
  refine HD.mono ?_
  rintro e y1 ⟨v0, rfl, hk1, hT1⟩
  clear HD
  have bw1 : Below base w y1 := hk1.below hT hb
  go_wp2_with fail
  refine (parts_14 s z nd n tK tN a1 l1 c1 a2 l2 c2 τ0 τ1 τ2 u0 u1 u2 y1).mono ?_
  rintro e X ⟨g, rfl, hXb, hgw, hx⟩
  have hs0 := toks_below hT1 hXb
  have hne : v0.ownBlock ≠ some g := fun e => by have := (toks_in hT1 e).2; omega
  have hgX : g < X.heap.size := (Array.getElem?_eq_some_iff.1 hx).1
  have k0 : Kt v0 X v0 X := Kt.of_below (Below.refl _ _)
  have b0 : Below base w X := bw1.trans (hXb.mono (by have := bw1.size; omega))
  have zX : base ≤ X.heap.size := by have := b0.size; omega
  have q0_0 : X.cell? ⟨g, 0, none⟩ = some (.iface τ0 u0) := row_cell hx 0
  have q0_1 : X.cell? ⟨g, 1, none⟩ = some (.iface τ1 u1) := row_cell hx 1
  have q0_2 : X.cell? ⟨g, 2, none⟩ = some (.iface τ2 u2) := row_cell hx 2
  go_wp2_with fail
  refine wp_loop_rounds 4 ?_
  rw [rounds_succ]
  go_wp2_with fail
  refine (IH L B D base w0 x0 _ _ (P ++ H) m0 _ hB (by have := b0.size; omega) HV0.out HM0.out (hW.trans (b0.mono hB)) (hTab.below (b0.mono hB)) hs0 (by have := HLEN.out; simp only [List.length_append]; omega)).mono ?_
  rintro e w1 ⟨v1, rfl, kk1, hs1⟩
  have k1 := k0.trans kk1
  have b1 : Below base w w1 := b0.trans (k1.below hs0 zX)
  have hx1 := (k1.block g hgX hne).trans hx
  have q1_0 : w1.cell? ⟨g, 0, none⟩ = some (.iface τ0 u0) := row_cell hx1 0
  have q1_1 : w1.cell? ⟨g, 1, none⟩ = some (.iface τ1 u1) := row_cell hx1 1
  have q1_2 : w1.cell? ⟨g, 2, none⟩ = some (.iface τ2 u2) := row_cell hx1 2
  clear kk1 hx1
  go_wp2_with fail
  rw [rounds_succ]
  go_wp2_with fail
  refine (IH L B D base w0 x1 _ _ ((P ++ H) ++ toksM l x0) m1 _ hB (by have := b1.size; omega) HV1.out HM1.out (hW.trans (b1.mono hB)) (hTab.below (b1.mono hB)) hs1 (by have := HLEN.out; have := HL0.out; simp only [List.length_append]; omega)).mono ?_
  rintro e w2 ⟨v2, rfl, kk2, hs2⟩
  have k2 := k1.trans kk2
  have b2 : Below base w w2 := b0.trans (k2.below hs0 zX)
  have hx2 := (k2.block g hgX hne).trans hx
  have q2_0 : w2.cell? ⟨g, 0, none⟩ = some (.iface τ0 u0) := row_cell hx2 0
  have q2_1 : w2.cell? ⟨g, 1, none⟩ = some (.iface τ1 u1) := row_cell hx2 1
  have q2_2 : w2.cell? ⟨g, 2, none⟩ = some (.iface τ2 u2) := row_cell hx2 2
  clear kk2 hx2
  go_wp2_with fail
  rw [rounds_succ]
  go_wp2_with fail
  refine (IH L B D base w0 x2 _ _ (((P ++ H) ++ toksM l x0) ++ toksM l x1) m2 _ hB (by have := b2.size; omega) HV2.out HM2.out (hW.trans (b2.mono hB)) (hTab.below (b2.mono hB)) hs2 (by have := HLEN.out; have := HL0.out; have := HL1.out; simp only [List.length_append]; omega)).mono ?_
  rintro e w3 ⟨v3, rfl, kk3, hs3⟩
  have k3 := k2.trans kk3
  have b3 : Below base w w3 := b0.trans (k3.below hs0 zX)
  have hx3 := (k3.block g hgX hne).trans hx
  have q3_0 : w3.cell? ⟨g, 0, none⟩ = some (.iface τ0 u0) := row_cell hx3 0
  have q3_1 : w3.cell? ⟨g, 1, none⟩ = some (.iface τ1 u1) := row_cell hx3 1
  have q3_2 : w3.cell? ⟨g, 2, none⟩ = some (.iface τ2 u2) := row_cell hx3 2
  clear kk3 hx3
  go_wp2_with fail
  rw [rounds_succ]
  go_wp2_with fail
  go_ret
  exact ⟨_, rfl, hk1.trans ((Kt.of_below hXb).trans k3), hs3⟩

set_option maxRecDepth 100000 in
set_option maxHeartbeats 1000000 in
theorem ft_15 (l : Nat) (IH : SaidFt l) (L B D base : Nat) (w0 : World) (s z : ByteArray) (nd n tK tN : Int) (a1 : Option Addr) (l1 c1 : Nat) (a2 : Option Addr) (l2 c2 : Nat) (τ0 τ1 τ2 : TypeId) (u0 u1 u2 : Value) (x0 : Tm) (m0 : Nat) (hv0 : Fv L B w0 D l x0 (.iface τ0 u0)) (hm0 : nodesM l x0 = some m0) (x1 : Tm) (m1 : Nat) (hv1 : Fv L B w0 D l x1 (.iface τ1 u1)) (hm1 : nodesM l x1 = some m1) (H P : List (List UInt8)) (v : Value) (w : World) (hB : B ≤ base) (hb : base ≤ w.heap.size) (hW : Below B w0 w) (hTab : TabB B w) (hT : Toks base w v P) (hlen : P.length + H.length + 123 * m0 + 123 * m1 ≤ 1000000)
    (HD : Calls Tryd.prog 21 #[v, .iface 103 (.agg #[.int .i64 n, .iface τ0 u0, .iface τ1 u1])] w fun e w' => ∃ v' : Value, e = .returned v' ∧ Kt v w v' w' ∧ Toks base w' v' (P ++ H)) :
    Calls Tryd.prog 19 #[v, .iface 103 (.agg #[.int .i64 n, .iface τ0 u0, .iface τ1 u1]), .func (.func 21) #[] #[]] w fun e w' => ∃ v' : Value, e = .returned v' ∧ Kt v w v' w' ∧ Toks base w' v' (((P ++ H) ++ toksM l x0) ++ toksM l x1) := by
  have HV0 : Hid (Fv L B w0 D l x0 (.iface τ0 u0)) := hv0
  have HM0 : Hid (nodesM l x0 = some m0) := hm0
  have HL0 : Hid ((toksM l x0).length ≤ 123 * m0) := toksM_len _ _ _ hm0
  clear hv0 hm0
  have HV1 : Hid (Fv L B w0 D l x1 (.iface τ1 u1)) := hv1
  have HM1 : Hid (nodesM l x1 = some m1) := hm1
  have HL1 : Hid ((toksM l x1).length ≤ 123 * m1) := toksM_len _ _ _ hm1
  clear hv1 hm1
  have HLEN : Hid (P.length + H.length + 123 * m0 + 123 * m1 ≤ 1000000) := hlen
  clear hlen
  go_enter Tryd.func19, Tryd.ntmps19
  go_wp2_with fail
  refine HD.mono ?_
  rintro e y1 ⟨v0, rfl, hk1, hT1⟩
  clear HD
  have bw1 : Below base w y1 := hk1.below hT hb
  go_wp2_with fail
  refine (parts_15 s z nd n tK tN a1 l1 c1 a2 l2 c2 τ0 τ1 τ2 u0 u1 u2 y1).mono ?_
  rintro e X ⟨g, rfl, hXb, hgw, hx⟩
  have hs0 := toks_below hT1 hXb
  have hne : v0.ownBlock ≠ some g := fun e => by have := (toks_in hT1 e).2; omega
  have hgX : g < X.heap.size := (Array.getElem?_eq_some_iff.1 hx).1
  have k0 : Kt v0 X v0 X := Kt.of_below (Below.refl _ _)
  have b0 : Below base w X := bw1.trans (hXb.mono (by have := bw1.size; omega))
  have zX : base ≤ X.heap.size := by have := b0.size; omega
  have q0_0 : X.cell? ⟨g, 0, none⟩ = some (.iface τ0 u0) := row_cell hx 0
  have q0_1 : X.cell? ⟨g, 1, none⟩ = some (.iface τ1 u1) := row_cell hx 1
  go_wp2_with fail
  refine wp_loop_rounds 3 ?_
  rw [rounds_succ]
  go_wp2_with fail
  refine (IH L B D base w0 x0 _ _ (P ++ H) m0 _ hB (by have := b0.size; omega) HV0.out HM0.out (hW.trans (b0.mono hB)) (hTab.below (b0.mono hB)) hs0 (by have := HLEN.out; simp only [List.length_append]; omega)).mono ?_
  rintro e w1 ⟨v1, rfl, kk1, hs1⟩
  have k1 := k0.trans kk1
  have b1 : Below base w w1 := b0.trans (k1.below hs0 zX)
  have hx1 := (k1.block g hgX hne).trans hx
  have q1_0 : w1.cell? ⟨g, 0, none⟩ = some (.iface τ0 u0) := row_cell hx1 0
  have q1_1 : w1.cell? ⟨g, 1, none⟩ = some (.iface τ1 u1) := row_cell hx1 1
  clear kk1 hx1
  go_wp2_with fail
  rw [rounds_succ]
  go_wp2_with fail
  refine (IH L B D base w0 x1 _ _ ((P ++ H) ++ toksM l x0) m1 _ hB (by have := b1.size; omega) HV1.out HM1.out (hW.trans (b1.mono hB)) (hTab.below (b1.mono hB)) hs1 (by have := HLEN.out; have := HL0.out; simp only [List.length_append]; omega)).mono ?_
  rintro e w2 ⟨v2, rfl, kk2, hs2⟩
  have k2 := k1.trans kk2
  have b2 : Below base w w2 := b0.trans (k2.below hs0 zX)
  have hx2 := (k2.block g hgX hne).trans hx
  have q2_0 : w2.cell? ⟨g, 0, none⟩ = some (.iface τ0 u0) := row_cell hx2 0
  have q2_1 : w2.cell? ⟨g, 1, none⟩ = some (.iface τ1 u1) := row_cell hx2 1
  clear kk2 hx2
  go_wp2_with fail
  rw [rounds_succ]
  go_wp2_with fail
  go_ret
  exact ⟨_, rfl, hk1.trans ((Kt.of_below hXb).trans k2), hs2⟩

set_option maxRecDepth 100000 in
set_option maxHeartbeats 1000000 in
theorem ft_16 (l : Nat) (IH : SaidFt l) (L B D base : Nat) (w0 : World) (s z : ByteArray) (nd n tK tN : Int) (a1 : Option Addr) (l1 c1 : Nat) (a2 : Option Addr) (l2 c2 : Nat) (τ0 τ1 τ2 : TypeId) (u0 u1 u2 : Value) (x0 : Tm) (m0 : Nat) (hv0 : Fv L B w0 D l x0 (.iface τ0 u0)) (hm0 : nodesM l x0 = some m0) (H P : List (List UInt8)) (v : Value) (w : World) (hB : B ≤ base) (hb : base ≤ w.heap.size) (hW : Below B w0 w) (hTab : TabB B w) (hT : Toks base w v P) (hlen : P.length + H.length + 123 * m0 ≤ 1000000)
    (HD : Calls Tryd.prog 21 #[v, .iface 105 (.agg #[.int .i64 tK, .int .i64 tN, .slice a1 l1 c1, .iface τ0 u0])] w fun e w' => ∃ v' : Value, e = .returned v' ∧ Kt v w v' w' ∧ Toks base w' v' (P ++ H)) :
    Calls Tryd.prog 19 #[v, .iface 105 (.agg #[.int .i64 tK, .int .i64 tN, .slice a1 l1 c1, .iface τ0 u0]), .func (.func 21) #[] #[]] w fun e w' => ∃ v' : Value, e = .returned v' ∧ Kt v w v' w' ∧ Toks base w' v' ((P ++ H) ++ toksM l x0) := by
  have HV0 : Hid (Fv L B w0 D l x0 (.iface τ0 u0)) := hv0
  have HM0 : Hid (nodesM l x0 = some m0) := hm0
  have HL0 : Hid ((toksM l x0).length ≤ 123 * m0) := toksM_len _ _ _ hm0
  clear hv0 hm0
  have HLEN : Hid (P.length + H.length + 123 * m0 ≤ 1000000) := hlen
  clear hlen
  go_enter Tryd.func19, Tryd.ntmps19
  go_wp2_with fail
  refine HD.mono ?_
  rintro e y1 ⟨v0, rfl, hk1, hT1⟩
  clear HD
  have bw1 : Below base w y1 := hk1.below hT hb
  go_wp2_with fail
  refine (parts_16 s z nd n tK tN a1 l1 c1 a2 l2 c2 τ0 τ1 τ2 u0 u1 u2 y1).mono ?_
  rintro e X ⟨g, rfl, hXb, hgw, hx⟩
  have hs0 := toks_below hT1 hXb
  have hne : v0.ownBlock ≠ some g := fun e => by have := (toks_in hT1 e).2; omega
  have hgX : g < X.heap.size := (Array.getElem?_eq_some_iff.1 hx).1
  have k0 : Kt v0 X v0 X := Kt.of_below (Below.refl _ _)
  have b0 : Below base w X := bw1.trans (hXb.mono (by have := bw1.size; omega))
  have zX : base ≤ X.heap.size := by have := b0.size; omega
  have q0_0 : X.cell? ⟨g, 0, none⟩ = some (.iface τ0 u0) := row_cell hx 0
  go_wp2_with fail
  refine wp_loop_rounds 2 ?_
  rw [rounds_succ]
  go_wp2_with fail
  refine (IH L B D base w0 x0 _ _ (P ++ H) m0 _ hB (by have := b0.size; omega) HV0.out HM0.out (hW.trans (b0.mono hB)) (hTab.below (b0.mono hB)) hs0 (by have := HLEN.out; simp only [List.length_append]; omega)).mono ?_
  rintro e w1 ⟨v1, rfl, kk1, hs1⟩
  have k1 := k0.trans kk1
  have b1 : Below base w w1 := b0.trans (k1.below hs0 zX)
  have hx1 := (k1.block g hgX hne).trans hx
  have q1_0 : w1.cell? ⟨g, 0, none⟩ = some (.iface τ0 u0) := row_cell hx1 0
  clear kk1 hx1
  go_wp2_with fail
  rw [rounds_succ]
  go_wp2_with fail
  go_ret
  exact ⟨_, rfl, hk1.trans ((Kt.of_below hXb).trans k1), hs1⟩

set_option maxRecDepth 100000 in
set_option maxHeartbeats 1000000 in
theorem ft_17 (l : Nat) (IH : SaidFt l) (L B D base : Nat) (w0 : World) (s z : ByteArray) (nd n tK tN : Int) (a1 : Option Addr) (l1 c1 : Nat) (a2 : Option Addr) (l2 c2 : Nat) (τ0 τ1 τ2 : TypeId) (u0 u1 u2 : Value) (x0 : Tm) (m0 : Nat) (hv0 : Fv L B w0 D l x0 (.iface τ0 u0)) (hm0 : nodesM l x0 = some m0) (x1 : Tm) (m1 : Nat) (hv1 : Fv L B w0 D l x1 (.iface τ1 u1)) (hm1 : nodesM l x1 = some m1) (H P : List (List UInt8)) (v : Value) (w : World) (hB : B ≤ base) (hb : base ≤ w.heap.size) (hW : Below B w0 w) (hTab : TabB B w) (hT : Toks base w v P) (hlen : P.length + H.length + 123 * m0 + 123 * m1 ≤ 1000000)
    (HD : Calls Tryd.prog 21 #[v, .iface 107 (.agg #[.string s, .iface τ0 u0, .iface τ1 u1])] w fun e w' => ∃ v' : Value, e = .returned v' ∧ Kt v w v' w' ∧ Toks base w' v' (P ++ H)) :
    Calls Tryd.prog 19 #[v, .iface 107 (.agg #[.string s, .iface τ0 u0, .iface τ1 u1]), .func (.func 21) #[] #[]] w fun e w' => ∃ v' : Value, e = .returned v' ∧ Kt v w v' w' ∧ Toks base w' v' (((P ++ H) ++ toksM l x0) ++ toksM l x1) := by
  have HV0 : Hid (Fv L B w0 D l x0 (.iface τ0 u0)) := hv0
  have HM0 : Hid (nodesM l x0 = some m0) := hm0
  have HL0 : Hid ((toksM l x0).length ≤ 123 * m0) := toksM_len _ _ _ hm0
  clear hv0 hm0
  have HV1 : Hid (Fv L B w0 D l x1 (.iface τ1 u1)) := hv1
  have HM1 : Hid (nodesM l x1 = some m1) := hm1
  have HL1 : Hid ((toksM l x1).length ≤ 123 * m1) := toksM_len _ _ _ hm1
  clear hv1 hm1
  have HLEN : Hid (P.length + H.length + 123 * m0 + 123 * m1 ≤ 1000000) := hlen
  clear hlen
  go_enter Tryd.func19, Tryd.ntmps19
  go_wp2_with fail
  refine HD.mono ?_
  rintro e y1 ⟨v0, rfl, hk1, hT1⟩
  clear HD
  have bw1 : Below base w y1 := hk1.below hT hb
  go_wp2_with fail
  refine (parts_17 s z nd n tK tN a1 l1 c1 a2 l2 c2 τ0 τ1 τ2 u0 u1 u2 y1).mono ?_
  rintro e X ⟨g, rfl, hXb, hgw, hx⟩
  have hs0 := toks_below hT1 hXb
  have hne : v0.ownBlock ≠ some g := fun e => by have := (toks_in hT1 e).2; omega
  have hgX : g < X.heap.size := (Array.getElem?_eq_some_iff.1 hx).1
  have k0 : Kt v0 X v0 X := Kt.of_below (Below.refl _ _)
  have b0 : Below base w X := bw1.trans (hXb.mono (by have := bw1.size; omega))
  have zX : base ≤ X.heap.size := by have := b0.size; omega
  have q0_0 : X.cell? ⟨g, 0, none⟩ = some (.iface τ0 u0) := row_cell hx 0
  have q0_1 : X.cell? ⟨g, 1, none⟩ = some (.iface τ1 u1) := row_cell hx 1
  go_wp2_with fail
  refine wp_loop_rounds 3 ?_
  rw [rounds_succ]
  go_wp2_with fail
  refine (IH L B D base w0 x0 _ _ (P ++ H) m0 _ hB (by have := b0.size; omega) HV0.out HM0.out (hW.trans (b0.mono hB)) (hTab.below (b0.mono hB)) hs0 (by have := HLEN.out; simp only [List.length_append]; omega)).mono ?_
  rintro e w1 ⟨v1, rfl, kk1, hs1⟩
  have k1 := k0.trans kk1
  have b1 : Below base w w1 := b0.trans (k1.below hs0 zX)
  have hx1 := (k1.block g hgX hne).trans hx
  have q1_0 : w1.cell? ⟨g, 0, none⟩ = some (.iface τ0 u0) := row_cell hx1 0
  have q1_1 : w1.cell? ⟨g, 1, none⟩ = some (.iface τ1 u1) := row_cell hx1 1
  clear kk1 hx1
  go_wp2_with fail
  rw [rounds_succ]
  go_wp2_with fail
  refine (IH L B D base w0 x1 _ _ ((P ++ H) ++ toksM l x0) m1 _ hB (by have := b1.size; omega) HV1.out HM1.out (hW.trans (b1.mono hB)) (hTab.below (b1.mono hB)) hs1 (by have := HLEN.out; have := HL0.out; simp only [List.length_append]; omega)).mono ?_
  rintro e w2 ⟨v2, rfl, kk2, hs2⟩
  have k2 := k1.trans kk2
  have b2 : Below base w w2 := b0.trans (k2.below hs0 zX)
  have hx2 := (k2.block g hgX hne).trans hx
  have q2_0 : w2.cell? ⟨g, 0, none⟩ = some (.iface τ0 u0) := row_cell hx2 0
  have q2_1 : w2.cell? ⟨g, 1, none⟩ = some (.iface τ1 u1) := row_cell hx2 1
  clear kk2 hx2
  go_wp2_with fail
  rw [rounds_succ]
  go_wp2_with fail
  go_ret
  exact ⟨_, rfl, hk1.trans ((Kt.of_below hXb).trans k2), hs2⟩

end Go.Proofs.YtjikcckggifinaaDoor
