/-
  What the program's 'PutFor' comes to.
-/
import Derived.Test.YtbdmdgghhefmcaaPfoZ28
import Derived.Test.YtbdmdgghhefmcaaPfoZ24
namespace Go.Proofs.Ytbdmdgghhefmcaa
open Go.RowKit
set_option linter.unusedVariables false
set_option linter.unusedSimpArgs false

theorem usesP_names (s : List UInt8) : ∀ (l : Nat) (t : Tm) (q : Way9), q ∈ usesP s l t → q.2.length ≤ 2 * l := by
  intro l
  induction l with
  | zero => intro t q h; simp [usesP] at h
  | succ l ih =>
    intro t q h
    by_cases hv : t.K = 3 ∧ bs t.S = s
    · rw [usesP_var hv] at h
      simp only [List.mem_cons, List.not_mem_nil, or_false] at h
      subst h
      simp
    · rw [usesP_not hv] at h
      obtain ⟨i, hi, h1⟩ := catU_mem h
      obtain ⟨hi', q', h2, rfl⟩ := partP_mem h1
      have h3 := ih _ _ h2
      have h4 := bindsW_len t.K (bs t.S) (bs t.Z) i
      simp only [List.length_append]
      omega

/-- A term put for a name. -/
def putT (s : List UInt8) (t x : Tm) : Tm × Bool := if okM t = true ∧ okM x = true ∧ putOk (freeT x) (usesP s 24 t) = true ∧ okM (putF t (usesP s 24 t) x) = true then (putF t (usesP s 24 t) x, true) else (zTm, false)
theorem putT_no {s : List UInt8} {t x : Tm} (h : ¬ (okM t = true ∧ okM x = true ∧ putOk (freeT x) (usesP s 24 t) = true ∧ okM (putF t (usesP s 24 t) x) = true)) : putT s t x = (zTm, false) := by unfold putT; rw [if_neg h]
theorem putT_yes {s : List UInt8} {t x : Tm} (h : okM t = true ∧ okM x = true ∧ putOk (freeT x) (usesP s 24 t) = true ∧ okM (putF t (usesP s 24 t) x) = true) : putT s t x = (putF t (usesP s 24 t) x, true) := by unfold putT; rw [if_pos h]

def PutE (w w' : World) (e : Ending) (r : Tm × Bool) : Prop := ∃ D d, TellM w w' D d e r.1 r.2

/-- Nothing told: the result's block as it was made. -/
theorem put_none {w w' : World} {r : Nat} (hb : Below w.heap.size w w') (hr : w.heap.size ≤ r) (hrow : w'.heap[r]? = some (.cells #[.int .i64 0, .int .i64 0, .string ⟨#[]⟩, .string ⟨#[]⟩, .int .i64 0, .int .i64 0, .slice none 0 0, .slice none 0 0, .slice none 0 0] 35 (0, 0))) :
    PutE w (((((((((w'.setCell ⟨r, 0, none⟩ (.int .i64 0)).setCell ⟨r, 1, none⟩ (.int .i64 0)).setCell ⟨r, 2, none⟩ (.string ⟨#[]⟩)).setCell ⟨r, 3, none⟩ (.string ⟨#[]⟩)).setCell ⟨r, 4, none⟩ (.int .i64 0)).setCell ⟨r, 5, none⟩ (.int .i64 0)).setCell ⟨r, 6, none⟩ (.slice none 0 0)).setCell ⟨r, 7, none⟩ (.slice none 0 0)).setCell ⟨r, 8, none⟩ (.slice none 0 0)) (.returned (.tuple #[.agg #[.int .i64 0, .int .i64 0, .string ⟨#[]⟩, .string ⟨#[]⟩, .int .i64 0, .int .i64 0, .slice none 0 0, .slice none 0 0, .slice none 0 0], .bool false])) (zTm, false) := by
  have hz := hb.size
  have hb2 : Below w.heap.size w (set9 w' r 0 (.int .i64 0) (.int .i64 0) (.string ⟨#[]⟩) (.string ⟨#[]⟩) (.int .i64 0) (.int .i64 0) (.slice none 0 0) (.slice none 0 0) (.slice none 0 0)) := set9_below hb hr
  refine ⟨0, 0, none, 0, 0, none, 0, 0, none, 0, 0, rfl, hb2, zTm_fmO _ _ _ _ _ hb2.size⟩

set_option maxRecDepth 100000 in
set_option maxHeartbeats 4000000 in
theorem putFor_any (D d L B D0 d0 L0 B0 : Nat) (t x : Tm) (a1 : Option Addr) (l1 c1 : Nat) (a2 : Option Addr) (l2 c2 : Nat) (a3 : Option Addr) (l3 c3 : Nat) (b1 : Option Addr) (m1 e1 : Nat) (b2 : Option Addr) (m2 e2 : Nat) (b3 : Option Addr) (m3 e3 : Nat) (s : ByteArray) (w : World) (hB : B ≤ w.heap.size) (hB0 : B0 ≤ w.heap.size)
    (hf : Fm L B w D d t a1 l1 a2 l2 a3 l3) (hx : Fm L0 B0 w D0 d0 x b1 m1 b2 m2 b3 m3) (hct : cntM t ≤ 1048576) (hcx : cntM x ≤ 1048576) :
    Calls Try.prog 11 #[.agg #[.int .i64 t.K, .int .i64 t.N, .string t.S, .string t.Z, .int .i64 t.T.K, .int .i64 t.T.N, .slice a1 l1 c1, .slice a2 l2 c2, .slice a3 l3 c3], .string s, .agg #[.int .i64 x.K, .int .i64 x.N, .string x.S, .string x.Z, .int .i64 x.T.K, .int .i64 x.T.N, .slice b1 m1 e1, .slice b2 m2 e2, .slice b3 m3 e3]] w fun e w' => PutE w w' e (putT (bs s) t x) := by
  obtain ⟨X, hX⟩ : ∃ X, X = ((w.alloc (.cells #[.int .i64 t.K, .int .i64 t.N, .string t.S, .string t.Z, .int .i64 t.T.K, .int .i64 t.T.N, .slice a1 l1 c1, .slice a2 l2 c2, .slice a3 l3 c3] 35)).alloc (.cells #[.int .i64 x.K, .int .i64 x.N, .string x.S, .string x.Z, .int .i64 x.T.K, .int .i64 x.T.N, .slice b1 m1 e1, .slice b2 m2 e2, .slice b3 m3 e3] 35)).alloc (.cells #[.int .i64 0, .int .i64 0, .string ⟨#[]⟩, .string ⟨#[]⟩, .int .i64 0, .int .i64 0, .slice none 0 0, .slice none 0 0, .slice none 0 0] 35) := ⟨_, rfl⟩
  have hXs : X.heap.size = w.heap.size + 3 := by rw [hX]; simp
  have hXb : Below w.heap.size w X := by rw [hX]; exact (((Below.refl _ _).alloc (Nat.le_refl _) _).alloc (by simp) _).alloc (by simp; omega) _
  have hX0 : X.heap[w.heap.size]? = some (.cells #[.int .i64 t.K, .int .i64 t.N, .string t.S, .string t.Z, .int .i64 t.T.K, .int .i64 t.T.N, .slice a1 l1 c1, .slice a2 l2 c2, .slice a3 l3 c3] 35 (0, 0)) := by rw [hX, Below.heap_alloc _ _ _ (by simp; omega), Below.heap_alloc _ _ _ (by simp)]; exact heap_new rfl
  have hX1 : X.heap[w.heap.size + 1]? = some (.cells #[.int .i64 x.K, .int .i64 x.N, .string x.S, .string x.Z, .int .i64 x.T.K, .int .i64 x.T.N, .slice b1 m1 e1, .slice b2 m2 e2, .slice b3 m3 e3] 35 (0, 0)) := by rw [hX, Below.heap_alloc _ _ _ (by simp)]; exact heap_new (by simp)
  have hX2 : X.heap[w.heap.size + 2]? = some (.cells #[.int .i64 0, .int .i64 0, .string ⟨#[]⟩, .string ⟨#[]⟩, .int .i64 0, .int .i64 0, .slice none 0 0, .slice none 0 0, .slice none 0 0] 35 (0, 0)) := by rw [hX]; exact heap_new (by simp)
  have HX : Hid (X = _) := hX
  clear hX
  have hBX : B ≤ X.heap.size := by omega
  obtain ⟨x0, x1, x2, x3, x4, x5, x6, x7, x8⟩ := Nine.box hX0
  have K1 := termOk_any D d L B t a1 l1 c1 a2 l2 c2 a3 l3 c3 X hBX (Fm.below hXb hB hf)
  have HNO : Hid (∀ W, Below X.heap.size X W → ¬ (okM t = true ∧ okM x = true ∧ putOk (freeT x) (usesP (bs s) 24 t) = true ∧ okM (putF t (usesP (bs s) 24 t) x) = true) → PutE w (((((((((W.setCell ⟨w.heap.size + 2, 0, none⟩ (.int .i64 0)).setCell ⟨w.heap.size + 2, 1, none⟩ (.int .i64 0)).setCell ⟨w.heap.size + 2, 2, none⟩ (.string ⟨#[]⟩)).setCell ⟨w.heap.size + 2, 3, none⟩ (.string ⟨#[]⟩)).setCell ⟨w.heap.size + 2, 4, none⟩ (.int .i64 0)).setCell ⟨w.heap.size + 2, 5, none⟩ (.int .i64 0)).setCell ⟨w.heap.size + 2, 6, none⟩ (.slice none 0 0)).setCell ⟨w.heap.size + 2, 7, none⟩ (.slice none 0 0)).setCell ⟨w.heap.size + 2, 8, none⟩ (.slice none 0 0)) (.returned (.tuple #[.agg #[.int .i64 0, .int .i64 0, .string ⟨#[]⟩, .string ⟨#[]⟩, .int .i64 0, .int .i64 0, .slice none 0 0, .slice none 0 0, .slice none 0 0], .bool false])) (putT (bs s) t x)) := fun W hW hno => by
    rw [putT_no hno]
    exact put_none (hXb.trans (hW.mono (by omega))) (by omega) ((hW.block _ (by omega)).trans hX2)
  cases hot : okM t with
  | false =>
    have HF : Hid (okM t = false) := hot
    rw [HF.out] at K1
    clear hot
    go_enter Try.func11, Try.ntmps11
    go_upto_region 1 with fail
    rw [← HX.out]
    go_wp2_with fail
    refine K1.mono ?_
    rintro e w1 ⟨rfl, hb1⟩
    have r1 := (hb1.block _ (by omega)).trans hX2
    obtain ⟨y0, y1, y2, y3, y4, y5, y6, y7, y8⟩ := Nine.box r1
    have yf := row_free r1
    go_wp2_with fail
    refine bodyPost_ret (v := .tuple #[.agg #[.int .i64 0, .int .i64 0, .string ⟨#[]⟩, .string ⟨#[]⟩, .int .i64 0, .int .i64 0, .slice none 0 0, .slice none 0 0, .slice none 0 0], .bool false]) (by simp [results, Try.results11, go_sem, y0, y1, y2, y3, y4, y5, y6, y7, y8]) rfl ?_
    exact HNO.out w1 hb1 (fun h => by have := h.1; rw [HF.out] at this; cases this)
  | true =>
    have HT : Hid (okM t = true) := hot
    rw [HT.out] at K1
    clear hot
    go_enter Try.func11, Try.ntmps11
    go_upto_region 1 with fail
    rw [← HX.out]
    go_wp2_with fail
    refine K1.mono ?_
    rintro e w1 ⟨rfl, hb1⟩
    have z1 := hb1.size
    have p1 := (hb1.block w.heap.size (by omega)).trans hX0
    have q1 := (hb1.block (w.heap.size + 1) (by omega)).trans hX1
    have hbw1 : Below w.heap.size w w1 := hXb.trans (hb1.mono (by omega))
    have K2 := termOk_any D0 d0 L0 B0 x b1 m1 e1 b2 m2 e2 b3 m3 e3 w1 (by omega) (Fm.below hbw1 hB0 hx)
    clear x0 x1 x2 x3 x4 x5 x6 x7 x8
    obtain ⟨x0, x1, x2, x3, x4, x5, x6, x7, x8⟩ := Nine.box q1
    cases hov : okM x with
    | false =>
      have HF : Hid (okM x = false) := hov
      rw [HF.out] at K2
      clear hov
      go_wp2_with fail
      refine K2.mono ?_
      rintro e w2 ⟨rfl, hb2⟩
      have hb2X : Below X.heap.size X w2 := hb1.trans (hb2.mono z1)
      have r2 := (hb2X.block _ (by omega)).trans hX2
      obtain ⟨y0, y1, y2, y3, y4, y5, y6, y7, y8⟩ := Nine.box r2
      have yf := row_free r2
      go_wp2_with fail
      refine bodyPost_ret (v := .tuple #[.agg #[.int .i64 0, .int .i64 0, .string ⟨#[]⟩, .string ⟨#[]⟩, .int .i64 0, .int .i64 0, .slice none 0 0, .slice none 0 0, .slice none 0 0], .bool false]) (by simp [results, Try.results11, go_sem, y0, y1, y2, y3, y4, y5, y6, y7, y8]) rfl ?_
      exact HNO.out w2 hb2X (fun h => by have := h.2.1; rw [HF.out] at this; cases this)
    | true =>
      have HTX : Hid (okM x = true) := hov
      rw [HTX.out] at K2
      obtain ⟨m, hm, hm6⟩ := okM_some HT.out
      clear hov
      go_wp2_with fail
      refine K2.mono ?_
      rintro e w2 ⟨rfl, hb2⟩
      have z2 := hb2.size
      have hb2X : Below X.heap.size X w2 := hb1.trans (hb2.mono z1)
      have hbw2 : Below w.heap.size w w2 := hbw1.trans (hb2.mono (by omega))
      have p2 := (hb2.block w.heap.size (by omega)).trans p1
      have K3 := ct_any D d L B t a1 l1 c1 a2 l2 c2 a3 l3 c3 w2 (by omega) (Fm.below hbw2 hB hf) hct
      clear x0 x1 x2 x3 x4 x5 x6 x7 x8
      obtain ⟨x0, x1, x2, x3, x4, x5, x6, x7, x8⟩ := Nine.box p2
      go_wp2_with fail
      refine K3.mono ?_
      rintro e w3 ⟨r1, s1, v1, r2, v2, r3, v3, rfl, hb3, hO3⟩
      have z3 := hb3.size
      obtain ⟨Y, hY⟩ : ∃ Y, Y = w3.alloc (.cells #[.int .i64 t.K, .int .i64 t.N, .string t.S, .string t.Z, .int .i64 t.T.K, .int .i64 t.T.N, .slice r1 s1 v1, .slice r2 l2 v2, .slice r3 l3 v3] 35) := ⟨_, rfl⟩
      have hYb : Below w3.heap.size w3 Y := by rw [hY]; exact (Below.refl _ _).alloc (Nat.le_refl _) _
      have hYs : Y.heap.size = w3.heap.size + 1 := by rw [hY]; simp
      have hY0 : Y.heap[w3.heap.size]? = some (.cells #[.int .i64 t.K, .int .i64 t.N, .string t.S, .string t.Z, .int .i64 t.T.K, .int .i64 t.T.N, .slice r1 s1 v1, .slice r2 l2 v2, .slice r3 l3 v3] 35 (0, 0)) := by rw [hY]; exact heap_new rfl
      have HY : Hid (Y = _) := hY
      have hb3X : Below X.heap.size X Y := hb2X.trans ((hb3.trans (hYb.mono z3)).mono (by omega))
      have hbwY : Below w.heap.size w Y := hXb.trans (hb3X.mono (by omega))
      have hfm3 : Fm w2.heap.size w3.heap.size Y (D + 1) d t r1 s1 r2 l2 r3 l3 := Fm.below hYb (Nat.le_refl _) hO3.fm
      obtain ⟨bs0, hfO, hnd0, hrg0⟩ := hO3
      have hOw : Own9 Y (max (D + 1) (D0 + 1)) d w3.heap.size 0 t bs0 := ⟨r1, s1, v1, r2, l2, v2, r3, l3, v3, Nine.box hY0, (FldO.keep (fun k hk => hYb.block k (hrg0 k hk).2) hfO).map (fun _ _ _ _ _ hr => hr.deeper (Nat.le_max_left _ _)) (fun _ _ _ _ _ hr => OwM.deep2D (Nat.le_max_left _ _) hr)⟩
      have hnb0 : w3.heap.size ∉ bs0 := fun h => by have := (hrg0 _ h).2; omega
      obtain ⟨qs, hqs⟩ : ∃ qs, usesP (bs s) 24 t = qs := ⟨_, rfl⟩
      have KU := up_any 24 (D + 1) d w2.heap.size w3.heap.size t r1 s1 v1 r2 l2 v2 r3 l3 v3 w3.heap.size 0 m Y.heap.size s [] none 0 0 Y.drew (by omega) (by omega) (Nat.le_refl _) (Nine.box hY0) (Fm.drew hfm3) hm (by omega) ⟨rfl, fun j hj => by simp at hj⟩ (by omega)
      have hap := usesP_apart (bs s) 24 t
      have hgt := usesP_get (bs s) 24 t
      have hnms := usesP_names (bs s) 24 t
      have hqn := usesP_len (bs s) 24 t
      have hun := usesN_nodes (bs s) 24 t m hm
      rw [hqs] at KU hap hgt hnms hqn HNO
      have HQS : Hid (usesP (bs s) 24 t = qs) := hqs
      have HPF : Hid (∀ (W : World) (us : List Use) (uo : Option Addr) (un uc : Nat), Below Y.heap.size Y.drew W → UsR W Y.heap.size w3.heap.size 0 [] us qs → Uss Y.heap.size W (.slice uo un uc) us → Calls Try.prog 30 #[.slice uo un uc, .agg #[.int .i64 x.K, .int .i64 x.N, .string x.S, .string x.Z, .int .i64 x.T.K, .int .i64 x.T.N, .slice b1 m1 e1, .slice b2 m2 e2, .slice b3 m3 e3]] W fun e w' => PfE W w' (max (D + 1) (D0 + 1)) w3.heap.size w2.heap.size t x qs e) := fun W us uo un uc hW hR hU => by
        have hYW : Below Y.heap.size Y W := ((Below.refl _ _).drew).trans hW
        have hzW := hYW.size
        exact putForAll_any (max (D + 1) (D0 + 1)) D0 d0 L0 B0 d w3.heap.size w2.heap.size Y.heap.size Y.heap.size bs0 t x b1 m1 e1 b2 m2 e2 b3 m3 e3 us qs uo un uc W (by omega) (Fm.below (hbwY.trans (hYW.mono hbwY.size)) hB0 hx) hcx (Nat.le_max_right _ _) hU hR hzW (hOw.keep (fun i _ => bcell hYW (by omega) _) (fun k hk => hYW.block k (by have := (hrg0 k hk).2; omega))) hnd0 hnb0 (fun g hg => by have := hrg0 g hg; omega) (by omega) (by omega) ⟨_, (hYW.block _ (by omega)).trans hY0, by simp⟩ hap hgt (by omega) (fun q hq => by have := hnms q hq; omega)
      have qY := (hb3X.block (w.heap.size + 1) (by omega)).trans hX1
      have hqYl : w.heap.size + 1 < Y.heap.size := by omega
      obtain ⟨z0, z1', z2', z3', z4, z5, z6, z7, z8⟩ := Nine.box qY
      clear hY hqs hfO hfm3 hOw hap hgt hnms K3 x0 x1 x2 x3 x4 x5 x6 x7 x8
      have HYX : Hid (∀ W, W.os = Y.os → W.tape = Y.tape → W.output = Y.output → Y.heap.size ≤ W.heap.size → (∀ g, g < w2.heap.size → W.heap[g]? = Y.heap[g]?) → Below X.heap.size X W) := fun W h1 h2 h3 h4 h5 => ⟨h1.trans hb3X.os, h2.trans hb3X.tape, h3.trans hb3X.output, by omega, fun g hg => (h5 g (by omega)).trans (hb3X.block g hg)⟩
      cases hpo : putOk (freeT x) qs with
      | false =>
        have HP : Hid (putOk (freeT x) qs = false) := hpo
        clear hpo
        go_upto_region 4 with fail
        rw [← HY.out]
        go_region_law (first
          | (go_simp; go_at_call 23; refine KU.mono ?_; rintro e w5 ⟨uv, us, rfl, hR5, hU5, hb5⟩; obtain ⟨uo, uc, rfl⟩ := uss_form hU5; have hY5 : Below Y.heap.size Y w5 := ((Below.refl _ _).drew).trans hb5; have KP := HPF.out w5 us uo _ uc hb5 hR5 hU5; have z50 := (bcell hY5 hqYl 0).trans z0; have z51 := (bcell hY5 hqYl 1).trans z1'; have z52 := (bcell hY5 hqYl 2).trans z2'; have z53 := (bcell hY5 hqYl 3).trans z3'; have z54 := (bcell hY5 hqYl 4).trans z4; have z55 := (bcell hY5 hqYl 5).trans z5; have z56 := (bcell hY5 hqYl 6).trans z6; have z57 := (bcell hY5 hqYl 7).trans z7; have z58 := (bcell hY5 hqYl 8).trans z8)
          | (go_simp; go_at_call 30; refine KP.mono ?_; rintro e w6 ⟨he, g1, g2, g3, g4, g5, g6, g7⟩; rw [HP.out] at he; subst he; have hb6X : Below X.heap.size X w6 := HYX.out w6 (g1.trans hY5.os) (g2.trans hY5.tape) (g3.trans hY5.output) (Nat.le_trans hY5.size g4) (fun g hg => (g5 g hg).trans (hY5.block g (by omega)))))
        all_goals
          have rr := (hb6X.block _ (by omega)).trans hX2
          obtain ⟨y0, y1, y2, y3, y4, y5, y6, y7, y8⟩ := Nine.box rr
          have yf := row_free rr
          go_wp2_with fail
          refine bodyPost_ret (v := .tuple #[.agg #[.int .i64 0, .int .i64 0, .string ⟨#[]⟩, .string ⟨#[]⟩, .int .i64 0, .int .i64 0, .slice none 0 0, .slice none 0 0, .slice none 0 0], .bool false]) (by simp [results, Try.results11, go_sem, y0, y1, y2, y3, y4, y5, y6, y7, y8]) rfl ?_
          exact HNO.out w6 hb6X (fun h => by have := h.2.2.1; rw [HP.out] at this; cases this)
      | true =>
        have HP : Hid (putOk (freeT x) qs = true) := hpo
        clear hpo
        cases hoT : okM (putF t qs x) with
        | false =>
          have HO : Hid (okM (putF t qs x) = false) := hoT
          clear hoT
          go_upto_region 4 with fail
          rw [← HY.out]
          go_region_law (first
            | (go_simp; go_at_call 23; refine KU.mono ?_; rintro e w5 ⟨uv, us, rfl, hR5, hU5, hb5⟩; obtain ⟨uo, uc, rfl⟩ := uss_form hU5; have hY5 : Below Y.heap.size Y w5 := ((Below.refl _ _).drew).trans hb5; have KP := HPF.out w5 us uo _ uc hb5 hR5 hU5; have z50 := (bcell hY5 hqYl 0).trans z0; have z51 := (bcell hY5 hqYl 1).trans z1'; have z52 := (bcell hY5 hqYl 2).trans z2'; have z53 := (bcell hY5 hqYl 3).trans z3'; have z54 := (bcell hY5 hqYl 4).trans z4; have z55 := (bcell hY5 hqYl 5).trans z5; have z56 := (bcell hY5 hqYl 6).trans z6; have z57 := (bcell hY5 hqYl 7).trans z7; have z58 := (bcell hY5 hqYl 8).trans z8)
            | (go_simp; go_at_call 30; refine KP.mono ?_; rintro e w6 ⟨he, g1, g2, g3, g4, g5, g6, g7⟩; rw [HP.out] at he; subst he; have hb6X : Below X.heap.size X w6 := HYX.out w6 (g1.trans hY5.os) (g2.trans hY5.tape) (g3.trans hY5.output) (Nat.le_trans hY5.size g4) (fun g hg => (g5 g hg).trans (hY5.block g (by omega))); obtain ⟨bsT, dT, ⟨k1, j1, i1, k2, j2, i2, k3, j3, i3, h9T, hfT⟩, hndT, hnbT, hrgT⟩ := g7 HP.out; have hfmT := hfT.fm2 hrgT; have hbT6 : w3.heap.size < w6.heap.size := Nat.lt_of_lt_of_le (by omega) (Nat.le_trans hY5.size g4); obtain ⟨t0, t1, t2, t3, t4, t5, t6, t7, t8⟩ := h9T; have K4 := termOk_any (max (D + 1) (D0 + 1)) dT w2.heap.size w6.heap.size (putF t qs x) k1 j1 i1 k2 j2 i2 k3 j3 i3 w6 (Nat.le_refl _) hfmT; rw [HO.out] at K4)
            | (go_simp; go_at_call 22; refine K4.mono ?_; rintro e w7 ⟨rfl, hb7⟩; have hb7X : Below X.heap.size X w7 := hb6X.trans (hb7.mono hb6X.size)))
          all_goals
            have rr := (hb7X.block _ (by omega)).trans hX2
            obtain ⟨y0, y1, y2, y3, y4, y5, y6, y7, y8⟩ := Nine.box rr
            have yf := row_free rr
            go_wp2_with fail
            refine bodyPost_ret (v := .tuple #[.agg #[.int .i64 0, .int .i64 0, .string ⟨#[]⟩, .string ⟨#[]⟩, .int .i64 0, .int .i64 0, .slice none 0 0, .slice none 0 0, .slice none 0 0], .bool false]) (by simp [results, Try.results11, go_sem, y0, y1, y2, y3, y4, y5, y6, y7, y8]) rfl ?_
            exact HNO.out w7 hb7X (fun h => by have := h.2.2.2; rw [HO.out] at this; cases this)
        | true =>
          have HO : Hid (okM (putF t qs x) = true) := hoT
          clear hoT
          go_upto_region 4 with fail
          rw [← HY.out]
          go_region_law (first
            | (go_simp; go_at_call 23; refine KU.mono ?_; rintro e w5 ⟨uv, us, rfl, hR5, hU5, hb5⟩; obtain ⟨uo, uc, rfl⟩ := uss_form hU5; have hY5 : Below Y.heap.size Y w5 := ((Below.refl _ _).drew).trans hb5; have KP := HPF.out w5 us uo _ uc hb5 hR5 hU5; have z50 := (bcell hY5 hqYl 0).trans z0; have z51 := (bcell hY5 hqYl 1).trans z1'; have z52 := (bcell hY5 hqYl 2).trans z2'; have z53 := (bcell hY5 hqYl 3).trans z3'; have z54 := (bcell hY5 hqYl 4).trans z4; have z55 := (bcell hY5 hqYl 5).trans z5; have z56 := (bcell hY5 hqYl 6).trans z6; have z57 := (bcell hY5 hqYl 7).trans z7; have z58 := (bcell hY5 hqYl 8).trans z8)
            | (go_simp; go_at_call 30; refine KP.mono ?_; rintro e w6 ⟨he, g1, g2, g3, g4, g5, g6, g7⟩; rw [HP.out] at he; subst he; have hb6X : Below X.heap.size X w6 := HYX.out w6 (g1.trans hY5.os) (g2.trans hY5.tape) (g3.trans hY5.output) (Nat.le_trans hY5.size g4) (fun g hg => (g5 g hg).trans (hY5.block g (by omega))); obtain ⟨bsT, dT, ⟨k1, j1, i1, k2, j2, i2, k3, j3, i3, h9T, hfT⟩, hndT, hnbT, hrgT⟩ := g7 HP.out; have hfmT := hfT.fm2 hrgT; have hbT6 : w3.heap.size < w6.heap.size := Nat.lt_of_lt_of_le (by omega) (Nat.le_trans hY5.size g4); obtain ⟨t0, t1, t2, t3, t4, t5, t6, t7, t8⟩ := h9T; have K4 := termOk_any (max (D + 1) (D0 + 1)) dT w2.heap.size w6.heap.size (putF t qs x) k1 j1 i1 k2 j2 i2 k3 j3 i3 w6 (Nat.le_refl _) hfmT; rw [HO.out] at K4)
            | (go_simp; go_at_call 22; refine K4.mono ?_; rintro e w7 ⟨rfl, hb7⟩; have hb7X : Below X.heap.size X w7 := hb6X.trans (hb7.mono hb6X.size)))
          all_goals
            have rr := (hb7X.block _ (by omega)).trans hX2
            obtain ⟨y0, y1, y2, y3, y4, y5, y6, y7, y8⟩ := Nine.box rr
            have yf := row_free rr
            obtain ⟨t70, t71, t72, t73, t74, t75, t76, t77, t78⟩ := (Nine.below ⟨t0, t1, t2, t3, t4, t5, t6, t7, t8⟩ hb7 hbT6)
            have hz7 := hb7.size
            have HFIN : Hid (∀ W', W' = set9 w7 (w.heap.size + 2) 0 (.int .i64 (putF t qs x).K) (.int .i64 (putF t qs x).N) (.string (putF t qs x).S) (.string (putF t qs x).Z) (.int .i64 (putF t qs x).T.K) (.int .i64 (putF t qs x).T.N) (.slice k1 j1 i1) (.slice k2 j2 i2) (.slice k3 j3 i3) → PutE w W' (.returned (.tuple #[.agg #[.int .i64 (putF t qs x).K, .int .i64 (putF t qs x).N, .string (putF t qs x).S, .string (putF t qs x).Z, .int .i64 (putF t qs x).T.K, .int .i64 (putF t qs x).T.N, .slice k1 j1 i1, .slice k2 j2 i2, .slice k3 j3 i3], .bool true])) (putT (bs s) t x)) := fun W' hW' => by
              rw [putT_yes ⟨HT.out, HTX.out, by rw [HQS.out]; exact HP.out, by rw [HQS.out]; exact HO.out⟩, HQS.out]
              have hWb : Below w.heap.size w W' := by rw [hW']; exact set9_below (hXb.trans (hb7X.mono (by omega))) (by omega)
              have hWs : W'.heap.size = w7.heap.size := by rw [hW']; exact set9_size _ _ _ _ _ _ _ _ _ _ _ _
              have hWo : ∀ g, g ≠ w.heap.size + 2 → W'.heap[g]? = w7.heap[g]? := fun g hg => by rw [hW']; exact set9_other g hg
              refine ⟨max (D + 1) (D0 + 1), dT, k1, j1, i1, k2, j2, i2, k3, j3, i3, rfl, hWb, bsT, FldO.keep (fun g hg => ?_) hfT, hndT, fun g hg => ?_⟩
              · have := hrgT g hg
                exact (hWo g (by omega)).trans (hb7.block g this.2)
              · have := hrgT g hg
                omega
            clear t0 t1 t2 t3 t4 t5 t6 t7 t8 hfT hfmT hrgT hndT hnbT K4 KP g7
            go_wp2_with fail
            refine bodyPost_ret (v := .tuple #[.agg #[.int .i64 (putF t qs x).K, .int .i64 (putF t qs x).N, .string (putF t qs x).S, .string (putF t qs x).Z, .int .i64 (putF t qs x).T.K, .int .i64 (putF t qs x).T.N, .slice k1 j1 i1, .slice k2 j2 i2, .slice k3 j3 i3], .bool true]) (by simp [results, Try.results11, go_sem, y0, y1, y2, y3, y4, y5, y6, y7, y8]) rfl ?_
            exact HFIN.out _ rfl

end Go.Proofs.Ytbdmdgghhefmcaa
