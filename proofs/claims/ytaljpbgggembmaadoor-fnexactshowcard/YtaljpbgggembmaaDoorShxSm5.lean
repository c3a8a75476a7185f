/-
  The model's 'l12Show' at a pair.
-/
import Derived.Test.YtaljpbgggembmaaDoorShxSm4
namespace Go.Proofs.YtaljpbgggembmaaDoor
open Go.RowKit
set_option linter.unusedVariables false
set_option linter.unusedSimpArgs false

/-- What a region that shows a part of an object reads. -/
def RdP (R b p : Nat) (s : Int) (ao : Option Addr) (len cap a : Nat) (x : Wrd) (w' : World) : Prop :=
  w'.cell? ⟨R, 0, none⟩ = some (.int .i64 s) ∧ w'.cell? ⟨R, 1, none⟩ = some (.slice ao len cap) ∧ w'.cell? ⟨R + 1, 1, none⟩ = some (.int .i64 (a : Int)) ∧ w'.cell? ⟨b, p, none⟩ = some (.int .i64 x.K) ∧ w'.cell? ⟨b, p + 1, none⟩ = some (.int .i64 x.N)
theorem Ob.rd {w Z : World} {M : Nat} {s : Int} {b o len cap a : Nat} {y : Wrd} {n : Int} {v : Value} {T : List UInt8} {l : List Wrd} (h : Ob w Z M s b o len cap a y n v T) (hs : Ws 0 M w (some ⟨b, o, none⟩) len l) (j : Nat) (hj : j < l.length) : RdP w.heap.size b (o + j * 2) s (some ⟨b, o, none⟩) len cap a (l.getD j wz) Z := by
  obtain ⟨p0, p1⟩ := cells2 h.bx.b0
  obtain ⟨q0, q1⟩ := cells2 h.bx.b1
  obtain ⟨_, d0, d1⟩ := ws_two (hs.sg h.sg) j hj
  exact ⟨p0, p1, q1, d0, d1⟩
theorem RdP.below {R b p : Nat} {s : Int} {ao : Option Addr} {len cap a : Nat} {x : Wrd} {w w' : World} (h : RdP R b p s ao len cap a x w) (hb : Below w.heap.size w w') : RdP R b p s ao len cap a x w' := by
  obtain ⟨h0, h1, h2, h3, h4⟩ := h
  have lt : ∀ {q o : Nat} {u : Value}, w.cell? ⟨q, o, none⟩ = some u → w'.cell? ⟨q, o, none⟩ = some u := fun {q o u} hq => (hb.cell (p := ⟨q, o, none⟩) (World.block_lt_of_cell? _ _ hq)).trans hq
  exact ⟨lt h0, lt h1, lt h2, lt h3, lt h4⟩

set_option maxRecDepth 100000 in
set_option maxHeartbeats 4000000 in
theorem sShow_pair {s : Int} {M b o len cap n a : Nat} {l : List Wrd} {T : List UInt8} {v : Value} {w : World} (f : Nat) (IH : SaidM M s (some ⟨b, o, none⟩) len cap l f) (hok : okH s l = true) (h : Ml w M ((n + 1 : Nat) : Int) v T) (hs : Ws 0 M w (some ⟨b, o, none⟩) len l) (ha : (a, 2) ∈ allO l) (N' : Int) (hy : l.getD a wz = ⟨5, N'⟩) (hnf : n < f) (hn : n ≤ 100000) (hl : T.length + 32 * (n + 1) + 2 ≤ 900000) (hlen : len ≤ 1048576) :
    Calls Tryd.prog 12 #[vH s (some ⟨b, o, none⟩) len cap, vW ⟨4, (a : Int)⟩, .pointer (some ⟨M, 0, none⟩), v] w fun e w' => ∃ v', e = .returned v' ∧ Sg M w w' ∧
      Ml w' M ((shw l f (shw l f n (l.getD (a + 1) wz)).2 (l.getD (a + 2) wz)).2 : Int) v' (T ++ ([40] ++ (shw l f n (l.getD (a + 1) wz)).1 ++ [44] ++ (shw l f (shw l f n (l.getD (a + 1) wz)).2 (l.getD (a + 2) wz)).1 ++ [41])) := by
  have hbd := vis_bound (vis_all l).1 _ ha
  have hle := endO_le l
  simp only at hbd
  have hlt : a + 2 < l.length := by omega
  obtain ⟨c0, f0, hZ⟩ := Stz.start h s (some ⟨b, o, none⟩) len cap 4 (a : Int)
  have hO := Ob.start (s := s) (b := b) (o := o) (len := len) (cap := cap) (a := a) (y := ⟨5, N'⟩) h
  have hM := h.lt
  obtain ⟨vo, vc, hve⟩ := byr_form h.row
  subst hve
  obtain ⟨q0, q1⟩ := cells2 hZ.bx.b1
  obtain ⟨p0, p1⟩ := cells2 hZ.bx.b0
  obtain ⟨r0, r1⟩ := cells2 hO.hd
  have hsZ := hs.sg hZ.sg
  obtain ⟨hbM, d0, d1⟩ := ws_two hsZ a (by omega)
  rw [hy] at d0 d1
  have hlE := hs.1
  have hi1 : (a : Int) < (len : Int) := by omega
  have hj0 : (0 : Int) ≤ (a : Int) + 1 := by omega
  have hj1 : (a : Int) + 1 < (len : Int) := by omega
  have hj2 : (0 : Int) ≤ (a : Int) + 2 := by omega
  have hj3 : (a : Int) + 2 < (len : Int) := by omega
  have ht1 : ((a : Int) + 1).toNat = a + 1 := by omega
  have ht2 : ((a : Int) + 2).toNat = a + 2 := by omega
  have hwr1 : IntKind.i64.wrap ((a : Int) + 1) = (a : Int) + 1 := by rw [IntKind.wrap_i64]; omega
  have hwr2 : IntKind.i64.wrap ((a : Int) + 2) = (a : Int) + 2 := by rw [IntKind.wrap_i64]; omega
  have hne : ¬ ((n + 1 : Nat) : Int) = 0 := by omega
  have hsub : ((n + 1 : Nat) : Int) - 1 = (n : Int) := by omega
  have c9 := h.cell
  have f9 := row_free h.blk 0
  have hr1 : rgt (heads l) (l.getD (a + 1) wz) = true := fld_rgt hok ha 0 (by omega)
  have hr2 : rgt (heads l) (l.getD (a + 2) wz) = true := fld_rgt hok ha 1 (by omega)
  have hw1 := (shw_le l f).1 n (l.getD (a + 1) wz)
  have hl1 := (shw_len hok f).1 n (l.getD (a + 1) wz) hr1
  have hw2 := (shw_le l f).1 (shw l f n (l.getD (a + 1) wz)).2 (l.getD (a + 2) wz)
  have hl2 := (shw_len hok f).1 (shw l f n (l.getD (a + 1) wz)).2 (l.getD (a + 2) wz) hr2
  generalize hX1 : shw l f n (l.getD (a + 1) wz) = X1 at *
  generalize hX2 : shw l f X1.2 (l.getD (a + 2) wz) = X2 at *
  have HX1 : Hid (shw l f n (l.getD (a + 1) wz) = X1) := hX1
  have HX2 : Hid (shw l f X1.2 (l.getD (a + 2) wz) = X2) := hX2
  clear hX1 hX2
  generalize ((n + 1 : Nat) : Int) = m at *
  have HRD1 : Hid (∀ {Z : World} {n' : Int} {v' : Value} {T' : List UInt8}, Ob w Z M s b o len cap a ⟨5, N'⟩ n' v' T' → RdP w.heap.size b (o + (a + 1) * 2) s (some ⟨b, o, none⟩) len cap a (l.getD (a + 1) wz) Z) := fun hq => hq.rd hs (a + 1) (by omega)
  have HRD2 : Hid (∀ {Z : World} {n' : Int} {v' : Value} {T' : List UInt8}, Ob w Z M s b o len cap a ⟨5, N'⟩ n' v' T' → RdP w.heap.size b (o + (a + 2) * 2) s (some ⟨b, o, none⟩) len cap a (l.getD (a + 2) wz) Z) := fun hq => hq.rd hs (a + 2) (by omega)
  have HK : Hid (SaidM M s (some ⟨b, o, none⟩) len cap l f) := IH
  have HWS : Hid (∀ w', Sg M w w' → Ws 0 M w' (some ⟨b, o, none⟩) len l) := fun w' hg => hs.sg hg
  unfold box3 at *
  unfold box2 at *
  clear h hZ hs hsZ hy hlE IH
  go_enter Tryd.func12, Tryd.ntmps12
  go_wp2_with fail
  generalize hZZ : ((((w.setCell ⟨M, 0, none⟩ (.int .i64 (n : Int))).alloc (.cells #[.int .i64 s, .slice (some ⟨b, o, none⟩) len cap] 31)).alloc (.cells #[.int .i64 4, .int .i64 (a : Int)] 33)).alloc (.cells #[.int .i64 5, .int .i64 N'] 33)) = Z at *
  clear hZZ c0 f0 q0 q1 p0 p1 r0 r1 d0 d1 c9 f9
  have hO1 := hO.drew
  obtain ⟨g2, cp2, w2, hrun, hM2, hg2⟩ := hO1.ml.add [40] (by simp) [.int .u8 40] rfl 1 rfl (by simp; omega)
  have hO2 := hO1.step hM hg2 hM2
  have hRd1 := HRD1.out hO1
  have hAb : Below Z.heap.size Z ((Z.alloc (.cells #[.int .u8 40] 5)).drew) := ((Below.refl _ _).alloc (Nat.le_refl _) _).drew
  have hRdA : RdP w.heap.size b (o + (a + 1) * 2) s (some ⟨b, o, none⟩) len cap a (l.getD (a + 1) wz) ((Z.alloc (.cells #[.int .u8 40] 5)).drew) := (HRD1.out hO).below hAb
  have hRd2 := HRD1.out hO2
  have HR : Hid ((Builtin.append_ #[39, 39] 39 #[.slice vo T.length vc, .slice (some ⟨Z.heap.size, 0, none⟩) 1 1]).run Tryd.prog ((Z.alloc (.cells #[.int .u8 40] 5)).drew) = .ok (.slice (some ⟨g2, 0, none⟩) (T.length + 1) cp2) w2) := hrun
  have KS := HK.out n (l.getD (a + 1) wz) (T ++ [40]) _ w2 hnf hr1 hM2 (HWS.out w2 hO2.sg) (by simp; omega)
  rw [HX1.out] at KS
  generalize l.getD (a + 1) wz = F1 at *
  generalize l.getD (a + 2) wz = F2 at *
  unfold vW at KS
  unfold RdP at hRd1 hRdA hRd2
  clear hrun hAb hg2 hO hM2
  go_region_held3 (fun w' => w'.cell? ⟨w.heap.size, 0, none⟩ = some (.int .i64 s) ∧ w'.cell? ⟨w.heap.size, 1, none⟩ = some (.slice (some ⟨b, o, none⟩) len cap) ∧ w'.cell? ⟨w.heap.size + 1, 1, none⟩ = some (.int .i64 (a : Int)) ∧ w'.cell? ⟨b, o + (a + 1) * 2, none⟩ = some (.int .i64 F1.K) ∧ w'.cell? ⟨b, o + (a + 1) * 2 + 1, none⟩ = some (.int .i64 F1.N))
    (first | with_reducible exact hRd3 | with_reducible exact hRd2 | with_reducible exact hRdA | with_reducible exact hRd1)
    (first
      | (go_at_call 12; refine KS.mono ?_; rintro e w3 ⟨v3, rfl, hg3, hM3⟩; have hO3 := hO2.step hM hg3 hM3; have hRd3 := HRD1.out hO3; unfold RdP at hRd3)
      | (refine step_run HR.out (by rfl) _ _ (by rfl) (by rfl) (by rfl) (by rfl) ?_))
  all_goals
    clear KS HR hRd1 hRdA hRd2 hRd3 HRD1
    obtain ⟨vo3, vc3, hve3⟩ := byr_form hM3.row
    subst hve3
    have hLq : (T ++ [40] ++ X1.1).length + 32 * X1.2 + 8 ≤ 900000 := by simp; omega
    have HTE : Hid (T ++ ([40] ++ X1.1 ++ [44] ++ X2.1 ++ [41]) = T ++ [40] ++ X1.1 ++ [44] ++ X2.1 ++ [41]) := by show _ = _; simp only [List.append_assoc]
    generalize hTq : T ++ [40] ++ X1.1 = Tq at *
    have hO4 := hO3.drew
    obtain ⟨g5, cp5, w5, hrun, hM5, hg5⟩ := hO4.ml.add [44] (by simp) [.int .u8 44] rfl 1 rfl (by simp; omega)
    have hO5 := hO4.step hM hg5 hM5
    have hRd4 := HRD2.out hO4
    have hAb : Below w3.heap.size w3 ((w3.alloc (.cells #[.int .u8 44] 5)).drew) := ((Below.refl _ _).alloc (Nat.le_refl _) _).drew
    have hRdA : RdP w.heap.size b (o + (a + 2) * 2) s (some ⟨b, o, none⟩) len cap a F2 ((w3.alloc (.cells #[.int .u8 44] 5)).drew) := (HRD2.out hO3).below hAb
    have hRd5 := HRD2.out hO5
    have HR : Hid ((Builtin.append_ #[39, 39] 39 #[.slice vo3 Tq.length vc3, .slice (some ⟨w3.heap.size, 0, none⟩) 1 1]).run Tryd.prog ((w3.alloc (.cells #[.int .u8 44] 5)).drew) = .ok (.slice (some ⟨g5, 0, none⟩) (Tq.length + 1) cp5) w5) := hrun
    have KS := HK.out X1.2 F2 (Tq ++ [44]) _ w5 (by omega) hr2 hM5 (HWS.out w5 hO5.sg) (by simp; omega)
    rw [HX2.out] at KS
    unfold vW at KS
    unfold RdP at hRd4 hRdA hRd5
    clear hrun hAb hg5 hO3 hM3 hM5 hg3 hO1 hO2
    go_wp2_with fail
    go_region_held3 (fun w' => w'.cell? ⟨w.heap.size, 0, none⟩ = some (.int .i64 s) ∧ w'.cell? ⟨w.heap.size, 1, none⟩ = some (.slice (some ⟨b, o, none⟩) len cap) ∧ w'.cell? ⟨w.heap.size + 1, 1, none⟩ = some (.int .i64 (a : Int)) ∧ w'.cell? ⟨b, o + (a + 2) * 2, none⟩ = some (.int .i64 F2.K) ∧ w'.cell? ⟨b, o + (a + 2) * 2 + 1, none⟩ = some (.int .i64 F2.N))
      (first | with_reducible exact hRd6 | with_reducible exact hRd5 | with_reducible exact hRdA | with_reducible exact hRd4)
      (first
        | (go_at_call 12; refine KS.mono ?_; rintro e w6 ⟨v6, rfl, hg6, hM6⟩; have hO6 := hO5.step hM hg6 hM6; have hRd6 := HRD2.out hO6; unfold RdP at hRd6)
        | (refine step_run HR.out (by rfl) _ _ (by rfl) (by rfl) (by rfl) (by rfl) ?_))
    all_goals
      clear KS HR hRd4 hRdA hRd5 hRd6
      obtain ⟨vo6, vc6, hve6⟩ := byr_form hM6.row
      subst hve6
      have hLr : (Tq ++ [44] ++ X2.1).length ≤ 900000 := by simp; omega
      obtain ⟨g7, cp7, w7, hrun, hM7, hg7⟩ := hM6.add [41] (by simp) [.int .u8 41] rfl 1 rfl (by simp at hLr ⊢; omega)
      have hG := hO6.sg.trans hg7
      rw [← HTE.out] at hM7
      generalize (Tq ++ [44] ++ X2.1).length = Lr at *
      have HR : Hid (_ = _) := hrun
      clear hrun hO6 hM6 hg6 hg7 hO5 hO4
      go_wp2_with (at_builtin; refine list_run2 HR.out (by rfl) _ _ (by rfl) (by rfl) (by rfl) (by rfl) ?_)
      go_ret
      exact ⟨_, rfl, hG, hM7⟩

end Go.Proofs.YtaljpbgggembmaaDoor
