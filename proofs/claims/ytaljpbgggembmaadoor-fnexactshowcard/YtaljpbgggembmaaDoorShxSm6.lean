/-
  The model's 'l12Show' at a list.
-/
import Derived.Test.YtaljpbgggembmaaDoorShxSm5
namespace Go.Proofs.YtaljpbgggembmaaDoor
open Go.RowKit
set_option linter.unusedVariables false
set_option linter.unusedSimpArgs false

theorem Sg.setNew {M : Nat} {a w : World} (h : Sg M a w) (q o : Nat) (v : Value) (hq : a.heap.size ≤ q) (hM : M ≤ a.heap.size) : Sg M a (w.setCell ⟨q, o, none⟩ v) :=
  ⟨h.bel.setCell (p := ⟨q, o, none⟩) (show M ≤ q by omega) v, fun k x hk hb hx => (row_other _ _ _ (by show k ≠ q; have := (Array.getElem?_eq_some_iff.1 hk).1; omega)).trans (h.oth k x hk hb hx)⟩

/-- The state of the loop over a list's parts. -/
structure Lst (w Z : World) (M : Nat) (s : Int) (b o len cap : Nat) (r : Wrd) (n : Int) (v : Value) (T : List UInt8) : Prop where
  ml : Ml Z M n v T
  sg : Sg M w Z
  bx : Bx w Z s (some ⟨b, o, none⟩) len cap r.K r.N
theorem Lst.step {w Z Z' : World} {M : Nat} {s : Int} {b o len cap : Nat} {r : Wrd} {n n' : Int} {v v' : Value} {T T' : List UInt8} (h : Lst w Z M s b o len cap r n v T) (hM : M < w.heap.size) (hg : Sg M Z Z') (hm : Ml Z' M n' v' T') : Lst w Z' M s b o len cap r n' v' T' :=
  ⟨hm, h.sg.trans hg, h.bx.sg hM hg⟩
theorem Lst.drew {w Z : World} {M : Nat} {s : Int} {b o len cap : Nat} {r : Wrd} {n : Int} {v : Value} {T : List UInt8} (h : Lst w Z M s b o len cap r n v T) : Lst w Z.drew M s b o len cap r n v T := ⟨h.ml.drew, h.sg.drewS, ⟨h.bx.b0, h.bx.b1⟩⟩
theorem Lst.rd {w Z : World} {M : Nat} {s : Int} {b o len cap a : Nat} {r : Wrd} {n : Int} {v : Value} {T : List UInt8} {l : List Wrd} (h : Lst w Z M s b o len cap r n v T) (ha : r.N = (a : Int)) (hs : Ws 0 M w (some ⟨b, o, none⟩) len l) (j : Nat) (hj : j < l.length) : RdP w.heap.size b (o + j * 2) s (some ⟨b, o, none⟩) len cap a (l.getD j wz) Z := by
  obtain ⟨p0, p1⟩ := cells2 h.bx.b0
  obtain ⟨q0, q1⟩ := cells2 h.bx.b1
  obtain ⟨_, d0, d1⟩ := ws_two (hs.sg h.sg) j hj
  rw [ha] at q1
  exact ⟨p0, p1, q1, d0, d1⟩
/-- Another word is laid into the box. -/
theorem Lst.put {w Z : World} {M : Nat} {s : Int} {b o len cap : Nat} {r : Wrd} {n : Int} {v : Value} {T : List UInt8} (h : Lst w Z M s b o len cap r n v T) (hM : M < w.heap.size) (r' : Wrd) :
    Lst w ((Z.setCell ⟨w.heap.size + 1, 0, none⟩ (.int .i64 r'.K)).setCell ⟨w.heap.size + 1, 1, none⟩ (.int .i64 r'.N)) M s b o len cap r' n v T := by
  have e1 : (Z.setCell ⟨w.heap.size + 1, 0, none⟩ (.int .i64 r'.K)).heap[w.heap.size + 1]? = some (.cells #[.int .i64 r'.K, .int .i64 r.N] 33 (0, 0)) := by rw [row_set h.bx.b1]; rfl
  have e2 : ((Z.setCell ⟨w.heap.size + 1, 0, none⟩ (.int .i64 r'.K)).setCell ⟨w.heap.size + 1, 1, none⟩ (.int .i64 r'.N)).heap[w.heap.size + 1]? = some (.cells #[.int .i64 r'.K, .int .i64 r'.N] 33 (0, 0)) := by rw [row_set e1]; rfl
  refine ⟨(h.ml.other h.bx.b1 (by omega) tyW 0 _).other e1 (by omega) tyW 1 _, (h.sg.setNew _ _ _ (by omega) (by omega)).setNew _ _ _ (by omega) (by omega), ⟨?_, e2⟩⟩
  exact (row_other _ _ _ (by show w.heap.size ≠ w.heap.size + 1; omega)).trans ((row_other _ _ _ (by show w.heap.size ≠ w.heap.size + 1; omega)).trans h.bx.b0)

/-- What is still to be told. -/
def remL (l : List Wrd) (k f n : Nat) (r : Wrd) : List UInt8 × Nat :=
  if k = 0 then ((shw l f n (l.getD (r.N.toNat + 1) wz)).1 ++ (shr l f (shw l f n (l.getD (r.N.toNat + 1) wz)).2 (l.getD (r.N.toNat + 2) wz)).1, (shr l f (shw l f n (l.getD (r.N.toNat + 1) wz)).2 (l.getD (r.N.toNat + 2) wz)).2) else shr l f n r
structure LtS (w wr : World) (M : Nat) (s : Int) (b o len cap : Nat) (l : List Wrd) (F : Nat) (k : Nat) (r : Wrd) (f n : Nat) (v : Value) (T TF : List UInt8) (nF : Nat) : Prop where
  st : Lst w wr M s b o len cap r (n : Int) v T
  rg : rgt (heads l) r = true
  go0 : k = 0 → goesOn l r = true
  lt : n < f
  le : f ≤ F
  kn : k + n ≤ 100001
  len_ : T.length + 32 * n + 4 ≤ 900000
  len0 : k = 0 → T.length + 32 * n + 6 ≤ 900000
  txt : T ++ (remL l k f n r).1 = TF
  num : (remL l k f n r).2 = nF

set_option maxRecDepth 100000 in
set_option maxHeartbeats 4000000 in
theorem sShow_cons {s : Int} {M b o len cap n a : Nat} {l : List Wrd} {T : List UInt8} {v : Value} {w : World} (f : Nat) (IH : ∀ f', f' ≤ f → SaidM M s (some ⟨b, o, none⟩) len cap l f') (hok : okH s l = true) (h : Ml w M ((n + 1 : Nat) : Int) v T) (hs : Ws 0 M w (some ⟨b, o, none⟩) len l) (ha : (a, 2) ∈ allO l) (N' : Int) (hy : l.getD a wz = ⟨6, N'⟩) (hrx : rgt (heads l) ⟨4, (a : Int)⟩ = true) (hnf : n < f) (hn : n ≤ 100000) (hl : T.length + 32 * (n + 1) + 2 ≤ 900000) (hlen : len ≤ 1048576) :
    Calls Tryd.prog 12 #[vH s (some ⟨b, o, none⟩) len cap, vW ⟨4, (a : Int)⟩, .pointer (some ⟨M, 0, none⟩), v] w fun e w' => ∃ v', e = .returned v' ∧ Sg M w w' ∧
      Ml w' M ((remL l 0 f n ⟨4, (a : Int)⟩).2 : Int) v' (T ++ [91] ++ (remL l 0 f n ⟨4, (a : Int)⟩).1 ++ [93]) := by
  have hbd := vis_bound (vis_all l).1 _ ha
  have hle := endO_le l
  simp only at hbd
  have hlt : a + 2 < l.length := by omega
  obtain ⟨c0, f0, hZ⟩ := Stz.start h s (some ⟨b, o, none⟩) len cap 4 (a : Int)
  have hO := Ob.start (s := s) (b := b) (o := o) (len := len) (cap := cap) (a := a) (y := ⟨6, N'⟩) h
  have hM := h.lt
  obtain ⟨vo, vc, hve⟩ := byr_form h.row
  subst hve
  obtain ⟨q0, q1⟩ := cells2 hZ.bx.b1
  obtain ⟨p0, p1⟩ := cells2 hZ.bx.b0
  obtain ⟨r0, r1⟩ := cells2 hO.hd
  have hsZ := hs.sg hZ.sg
  obtain ⟨hbM, d0, d1⟩ := ws_two hsZ a (by omega)
  rw [hy] at d0 d1
  have hlE := hs.1
  have HLE : Hid (len = l.length) := hs.1
  have hi1 : (a : Int) < (len : Int) := by omega
  have hne : ¬ ((n + 1 : Nat) : Int) = 0 := by omega
  have hsub : ((n + 1 : Nat) : Int) - 1 = (n : Int) := by omega
  have c9 := h.cell
  have f9 := row_free h.blk 0
  obtain ⟨TF, hTF⟩ : ∃ TF, TF = T ++ [91] ++ (remL l 0 f n ⟨4, (a : Int)⟩).1 := ⟨_, rfl⟩
  obtain ⟨nF, hnF⟩ : ∃ nF, nF = (remL l 0 f n ⟨4, (a : Int)⟩).2 := ⟨_, rfl⟩
  rw [← hTF, ← hnF]
  have HTF : Hid (TF = _) := hTF
  have HNF : Hid (nF = _) := hnF
  have hgo : goesOn l ⟨4, (a : Int)⟩ = true := by
    unfold goesOn
    rw [decide_eq_true_eq]
    refine ⟨rfl, ?_⟩
    show (l.getD (a : Int).toNat wz).K = 6
    rw [Int.toNat_natCast, hy]
  have HGO : Hid (goesOn l ⟨4, (a : Int)⟩ = true) := hgo
  have HIH : Hid (∀ f', f' ≤ f → SaidM M s (some ⟨b, o, none⟩) len cap l f') := IH
  have HS : Hid (Ws 0 M w (some ⟨b, o, none⟩) len l) := hs
  have HTL : Hid ((T ++ [91]).length + 32 * n + 6 ≤ 900000) := by show _ ≤ _; simp; omega
  generalize ((n + 1 : Nat) : Int) = m at *
  obtain ⟨g2, cp2, w2, hrun, hM2, hg2⟩ := hO.ml.add [91] (by simp) [.int .u8 91] rfl 1 rfl (by simp; omega)
  have hO2 := hO.step hM hg2 hM2
  have hL2 : Lst w w2 M s b o len cap ⟨4, (a : Int)⟩ (n : Int) (.slice (some ⟨g2, 0, none⟩) (T.length + 1) cp2) (T ++ [91]) := ⟨hO2.ml, hO2.sg, hO2.bx⟩
  unfold box3 at *
  unfold box2 at *
  simp only [World.size_alloc, World.size_setCell] at hrun
  have HR : Hid (_ = _) := hrun
  clear h hZ hs hsZ hy hlE IH hTF hnF hgo hrun hO hO2 hM2 hg2 hbd hle
  go_enter Tryd.func12, Tryd.ntmps12
  go_wp2_with (at_builtin; refine list_run2 HR.out (by rfl) _ _ (by rfl) (by rfl) (by rfl) (by rfl) ?_)
  clear HR c0 f0 q0 q1 p0 p1 r0 r1 d0 d1 c9 f9
  go_loopw [3, 10] (fun v3 v10 wr => ∃ (k : Nat) (r : Wrd) (f' n' : Nat) (v' : Value) (T' : List UInt8), v10 = .int .i64 k ∧ v3 = v' ∧ LtS w wr M s b o len cap l f k r f' n' v' T' TF nF) (fun _ v10 wr => leftM M wr + (if intOf v10 = 0 then 1 else 0))
  case atStart => exact ⟨0, _, f, n, _, _, rfl, rfl, hL2, hrx, fun _ => HGO.out, hnf, Nat.le_refl _, by omega, by have := HTL.out; omega, fun _ => HTL.out, HTF.out.symm, HNF.out.symm⟩
  case round =>
    clear hL2
    obtain ⟨k, r, f', n', v', T', rfl, rfl, hP⟩ := hrel
    obtain ⟨vo', vc', hve'⟩ := byr_form hP.st.ml.row
    subst hve'
    have hleft := hP.st.ml.left
    cases hgo : goesOn l r with
    | false =>
      have hk0 : k ≠ 0 := fun e => by have := hP.go0 e; rw [hgo] at this; cases this
      have h1 := hP.txt
      have h2 := hP.num
      unfold remL at h1 h2
      rw [if_neg hk0, shr_stop hgo] at h1 h2
      simp only [List.append_nil] at h1
      simp only at h2
      subst h1
      subst h2
      obtain ⟨q0, q1⟩ := cells2 hP.st.bx.b1
      obtain ⟨p0, p1⟩ := cells2 hP.st.bx.b0
      by_cases hk4 : r.K = 4
      · obtain ⟨a', c', hN, hm, hac, hob, hcn, hkk, hc2⟩ := rg4 hok hP.rg hk4
        have hn6 : ¬ (l.getD a' wz).K = 6 := by
          unfold goesOn at hgo
          rw [decide_eq_false_iff_not] at hgo
          intro e
          exact hgo ⟨hk4, by rw [show r.N.toNat = a' by omega]; exact e⟩
        obtain ⟨_, d0, d1⟩ := ws_two (HS.out.sg hP.st.sg) a' (by omega)
        have hi2 : (a' : Int) < (len : Int) := by have := HLE.out; omega
        rw [hN] at q1
        rw [hk4] at q0
        generalize (l.getD a' wz).K = hK at *
        clear hkk hc2 hcn hob hm hN hk4 hgo
        obtain ⟨g3, cp3, w3, hrun, hM3, hg3⟩ := hP.st.ml.add [93] (by simp) [.int .u8 93] rfl 1 rfl (by have := hP.len_; simp; omega)
        have hG := hP.st.sg.trans hg3
        have HR : Hid (_ = _) := hrun
        clear hrun hg3 hP
        go_wp2_with (at_builtin; refine list_run2 HR.out (by rfl) _ _ (by rfl) (by rfl) (by rfl) (by rfl) ?_)
        go_ret
        exact ⟨_, rfl, hG, hM3⟩
      · clear hgo
        obtain ⟨g3, cp3, w3, hrun, hM3, hg3⟩ := hP.st.ml.add [93] (by simp) [.int .u8 93] rfl 1 rfl (by have := hP.len_; simp; omega)
        have hG := hP.st.sg.trans hg3
        have HR : Hid (_ = _) := hrun
        clear hrun hg3 hP
        go_wp2_with (at_builtin; refine list_run2 HR.out (by rfl) _ _ (by rfl) (by rfl) (by rfl) (by rfl) ?_)
        go_ret
        exact ⟨_, rfl, hG, hM3⟩
    | true =>
      have hr4 : r.K = 4 ∧ (l.getD r.N.toNat wz).K = 6 := by unfold goesOn at hgo; rw [decide_eq_true_eq] at hgo; exact hgo
      obtain ⟨a', c', hN, hm, hac, hob, hcn, hkk, hc2⟩ := rg4 hok hP.rg hr4.1
      obtain ⟨rK, rN⟩ := r
      simp only at hr4 hN
      obtain ⟨hrK, hr6⟩ := hr4
      subst hrK
      subst hN
      rw [Int.toNat_natCast] at hr6
      have hc2' := hc2 (by omega)
      subst hc2'
      have hr1 : rgt (heads l) (l.getD (a' + 1) wz) = true := fld_rgt hok hm 0 (by omega)
      have hr2 : rgt (heads l) (l.getD (a' + 2) wz) = true := fld_rgt hok hm 1 (by omega)
      have hlt2 := hP.lt
      have hle2 := hP.le
      have hkn2 := hP.kn
      have hlen2 := hP.len_
      have hL := hP.st
      obtain ⟨q0, q1⟩ := cells2 hL.bx.b1
      obtain ⟨p0, p1⟩ := cells2 hL.bx.b0
      obtain ⟨_, d0, d1⟩ := ws_two (HS.out.sg hL.sg) a' (by omega)
      rw [hr6] at d0
      have hi2 : (a' : Int) < (len : Int) := by have := HLE.out; omega
      have hj0 : (0 : Int) ≤ (a' : Int) + 1 := by omega
      have hj1 : (a' : Int) + 1 < (len : Int) := by have := HLE.out; omega
      have hj2 : (0 : Int) ≤ (a' : Int) + 2 := by omega
      have hj3 : (a' : Int) + 2 < (len : Int) := by have := HLE.out; omega
      have ht1 : ((a' : Int) + 1).toNat = a' + 1 := by omega
      have ht2 : ((a' : Int) + 2).toNat = a' + 2 := by omega
      have hwr1 : IntKind.i64.wrap ((a' : Int) + 1) = (a' : Int) + 1 := by rw [IntKind.wrap_i64]; omega
      have hwr2 : IntKind.i64.wrap ((a' : Int) + 2) = (a' : Int) + 2 := by rw [IntKind.wrap_i64]; omega
      have h1 := hP.txt
      have h2 := hP.num
      unfold remL at h1 h2
      by_cases hk0 : k = 0
      · have hlen0 := hP.len0 hk0
        subst hk0
        rw [if_pos rfl] at h1 h2
        simp only [Int.toNat_natCast] at h1 h2
        have hw1 := (shw_le l f').1 n' (l.getD (a' + 1) wz)
        have hl1 := (shw_len hok f').1 n' (l.getD (a' + 1) wz) hr1
        generalize hX1 : shw l f' n' (l.getD (a' + 1) wz) = X1 at *
        have HX1 : Hid (shw l f' n' (l.getD (a' + 1) wz) = X1) := hX1
        have HFX : Hid (LtS w = LtS w) := rfl
        clear hX1 hP hkk hc2 hcn hob hgo hr6
        have hLd := hL.drew
        have hRd1 := hLd.rd (a := a') rfl HS.out (a' + 1) (by omega)
        have KS := HIH.out f' (by omega) n' (l.getD (a' + 1) wz) T' _ wr.drew (by omega) hr1 hLd.ml (HS.out.sg hLd.sg) (by have := hlen2; simp at this ⊢; omega)
        have HRd : Hid (∀ {Z : World} {n9 : Int} {v9 : Value} {T9 : List UInt8}, Lst w Z M s b o len cap ⟨4, (a' : Int)⟩ n9 v9 T9 → RdP w.heap.size b (o + (a' + 1) * 2) s (some ⟨b, o, none⟩) len cap a' (l.getD (a' + 1) wz) Z) := fun hq => hq.rd rfl HS.out (a' + 1) (by omega)
        have HRd2 : Hid (∀ {Z : World} {n9 : Int} {v9 : Value} {T9 : List UInt8}, Lst w Z M s b o len cap ⟨4, (a' : Int)⟩ n9 v9 T9 → RdP w.heap.size b (o + (a' + 2) * 2) s (some ⟨b, o, none⟩) len cap a' (l.getD (a' + 2) wz) Z) := fun hq => hq.rd rfl HS.out (a' + 2) (by omega)
        rw [HX1.out] at KS
        generalize l.getD (a' + 1) wz = F1 at *
        generalize l.getD (a' + 2) wz = F2 at *
        unfold vW at KS
        unfold RdP at hRd1
        go_wp2_with fail
        go_region_held3 (fun w' => w'.cell? ⟨w.heap.size, 0, none⟩ = some (.int .i64 s) ∧ w'.cell? ⟨w.heap.size, 1, none⟩ = some (.slice (some ⟨b, o, none⟩) len cap) ∧ w'.cell? ⟨w.heap.size + 1, 1, none⟩ = some (.int .i64 (a' : Int)) ∧ w'.cell? ⟨b, o + (a' + 1) * 2, none⟩ = some (.int .i64 F1.K) ∧ w'.cell? ⟨b, o + (a' + 1) * 2 + 1, none⟩ = some (.int .i64 F1.N))
          (first | with_reducible exact hRd3 | with_reducible exact hRd1)
          (first
            | (go_at_call 12; refine KS.mono ?_; rintro e w4 ⟨v4, rfl, hg4, hM4⟩; have hL4 := hLd.step hM hg4 hM4; have hRd3 := HRd.out hL4; unfold RdP at hRd3))
        all_goals
          clear KS hRd1 hRd3 HRd hLd hg4
          obtain ⟨vo4, vc4, hve4⟩ := byr_form hM4.row
          subst hve4
          have hRd4 := HRd2.out hL4
          unfold RdP at hRd4
          obtain ⟨e0, e1, e2, e3, e4⟩ := hRd4
          have e5 := (cells2 hL4.bx.b1).1
          have e6 := row_free hL4.bx.b1
          have hbR : ¬ b = w.heap.size + 1 := by omega
          have hbR2 : ¬ w.heap.size + 1 = b := by omega
          have hLp := hL4.put hM F2
          have hl4 := hLp.ml.left
          clear hL4 hM4 HRd2
          go_wp2_with fail
          go_roundw
          case rel => exact ⟨1, F2, f', X1.2, _, _, by go_num, rfl, hLp, hr2, fun e => absurd e (by omega), by omega, hle2, by omega, by simp; omega, fun e => absurd e (by omega), by unfold remL; rw [if_neg (by omega)]; rw [← h1]; simp only [List.append_assoc], by unfold remL; rw [if_neg (by omega)]; exact h2⟩
          case measure => rw [hl4, hleft]; simp [intOf]; omega
      · rw [if_neg hk0] at h1 h2
        obtain ⟨g, hg⟩ : ∃ g, f' = g + 1 := ⟨f' - 1, by omega⟩
        subst hg
        have hk1 : (0 : Int) < (k : Int) := by omega
        obtain ⟨g3, cp3, w3, hrun, hM3, hg3⟩ := hL.ml.add [44] (by simp) [.int .u8 44] rfl 1 rfl (by simp; omega)
        have hL3 := hL.step hM hg3 hM3
        have HR : Hid (_ = _) := hrun
        have c9 := hM3.cell
        have f9 := row_free hM3.blk 0
        cases n' with
        | zero =>
          rw [shr_zero hgo] at h1 h2
          simp only at h2
          subst h2
          subst h1
          obtain ⟨g4, cp4, w4, hrun4, hM4, hg4⟩ := hM3.add [46, 93] (by simp) [.int .u8 46, .int .u8 93] rfl 2 rfl (by simp; omega)
          have hG := hL3.sg.trans hg4
          have hM4' : Ml w4 M ((0 : Nat) : Int) (.slice (some ⟨g4, 0, none⟩) ((T' ++ [44]).length + 2) cp4) (T' ++ [44, 46] ++ [93]) := by
            have e : T' ++ [44] ++ [46, 93] = T' ++ [44, 46] ++ [93] := by simp
            rw [e] at hM4
            exact hM4
          have hTl : (T' ++ [44]).length = T'.length + 1 := by simp
          rw [hTl] at hM4' hrun4
          have HR4 : Hid (_ = _) := hrun4
          clear hrun hrun4 hM4 hg4 hg3 hM3 hL3 hP hkk hc2 hcn hob hgo hr6 hL hTl
          go_wp2_with (at_builtin; first | (refine list_run2 HR.out (by rfl) _ _ (by rfl) (by rfl) (by rfl) (by rfl) ?_; clear HR) | (refine list_run2 HR4.out (by rfl) _ _ (by rfl) (by rfl) (by rfl) (by rfl) ?_))
          go_ret
          have hM4'' : Ml w4 M 0 (.slice (some ⟨g4, 0, none⟩) (T'.length + 1 + 2) cp4) (T' ++ [44, 46, 93]) := by
            have e : T' ++ [44, 46] ++ [93] = T' ++ [44, 46, 93] := by simp
            rw [e] at hM4'
            exact hM4'
          exact ⟨_, rfl, hG, hM4''⟩
        | succ j =>
          rw [shr_succ hgo] at h1 h2
          simp only [Int.toNat_natCast] at h1 h2
          have hw1 := (shw_le l g).1 j (l.getD (a' + 1) wz)
          have hl1 := (shw_len hok g).1 j (l.getD (a' + 1) wz) hr1
          generalize hX1 : shw l g j (l.getD (a' + 1) wz) = X1 at *
          have HX1 : Hid (shw l g j (l.getD (a' + 1) wz) = X1) := hX1
          obtain ⟨k1, k2⟩ := hM3.setN (j : Int)
          have hL5 := hL3.step hM k2 k1
          have hne5 : ¬ ((j + 1 : Nat) : Int) = 0 := by omega
          have hsub5 : ((j + 1 : Nat) : Int) - 1 = (j : Int) := by omega
          generalize ((j + 1 : Nat) : Int) = m5 at *
          clear hX1 hrun hg3 hM3 hL3 hP hkk hc2 hcn hob hgo hr6 hL k1 k2
          go_wp2_with (at_builtin; refine list_run2 HR.out (by rfl) _ _ (by rfl) (by rfl) (by rfl) (by rfl) ?_)
          generalize hW5 : w3.setCell ⟨M, 0, none⟩ (.int .i64 (j : Int)) = W5 at *
          clear hW5 HR c9 f9 q0 q1 p0 p1 d0 d1
          have hLd := hL5.drew
          have hRd1 := hLd.rd (a := a') rfl HS.out (a' + 1) (by omega)
          have KS := HIH.out g (by omega) j (l.getD (a' + 1) wz) (T' ++ [44]) _ W5.drew (by omega) hr1 hLd.ml (HS.out.sg hLd.sg) (by have := hlen2; simp at this ⊢; omega)
          have HRd : Hid (∀ {Z : World} {n9 : Int} {v9 : Value} {T9 : List UInt8}, Lst w Z M s b o len cap ⟨4, (a' : Int)⟩ n9 v9 T9 → RdP w.heap.size b (o + (a' + 1) * 2) s (some ⟨b, o, none⟩) len cap a' (l.getD (a' + 1) wz) Z) := fun hq => hq.rd rfl HS.out (a' + 1) (by omega)
          have HRd2 : Hid (∀ {Z : World} {n9 : Int} {v9 : Value} {T9 : List UInt8}, Lst w Z M s b o len cap ⟨4, (a' : Int)⟩ n9 v9 T9 → RdP w.heap.size b (o + (a' + 2) * 2) s (some ⟨b, o, none⟩) len cap a' (l.getD (a' + 2) wz) Z) := fun hq => hq.rd rfl HS.out (a' + 2) (by omega)
          rw [HX1.out] at KS
          generalize l.getD (a' + 1) wz = F1 at *
          generalize l.getD (a' + 2) wz = F2 at *
          unfold vW at KS
          unfold RdP at hRd1
          go_wp2_with fail
          go_region_held3 (fun w' => w'.cell? ⟨w.heap.size, 0, none⟩ = some (.int .i64 s) ∧ w'.cell? ⟨w.heap.size, 1, none⟩ = some (.slice (some ⟨b, o, none⟩) len cap) ∧ w'.cell? ⟨w.heap.size + 1, 1, none⟩ = some (.int .i64 (a' : Int)) ∧ w'.cell? ⟨b, o + (a' + 1) * 2, none⟩ = some (.int .i64 F1.K) ∧ w'.cell? ⟨b, o + (a' + 1) * 2 + 1, none⟩ = some (.int .i64 F1.N))
            (first | with_reducible exact hRd3 | with_reducible exact hRd1)
            (first
              | (go_at_call 12; refine KS.mono ?_; rintro e w4 ⟨v4, rfl, hg4, hM4⟩; have hL4 := hLd.step hM hg4 hM4; have hRd3 := HRd.out hL4; unfold RdP at hRd3))
          all_goals
            clear KS hRd1 hRd3 HRd hLd hg4
            obtain ⟨vo4, vc4, hve4⟩ := byr_form hM4.row
            subst hve4
            have hRd4 := HRd2.out hL4
            unfold RdP at hRd4
            obtain ⟨e0, e1, e2, e3, e4⟩ := hRd4
            have e5 := (cells2 hL4.bx.b1).1
            have e6 := row_free hL4.bx.b1
            have hbR : ¬ b = w.heap.size + 1 := by omega
            have hbR2 : ¬ w.heap.size + 1 = b := by omega
            have hLp := hL4.put hM F2
            have hl4 := hLp.ml.left
            clear hL4 hM4 HRd2
            go_wp2_with fail
            go_roundw
            case rel => exact ⟨k + 1, F2, g, X1.2, _, _, by go_num, rfl, hLp, hr2, fun e => absurd e (by omega), by omega, by omega, by omega, by simp; omega, fun e => absurd e (by omega), by unfold remL; rw [if_neg (by omega)]; rw [← h1]; simp only [List.append_assoc], by unfold remL; rw [if_neg (by omega)]; exact h2⟩
            case measure => rw [hl4, hleft]; have e9 : ¬ ((k : Int) + 1 = 0) := (by omega); simp [intOf, e9, hk0]; omega

end Go.Proofs.YtaljpbgggembmaaDoor
