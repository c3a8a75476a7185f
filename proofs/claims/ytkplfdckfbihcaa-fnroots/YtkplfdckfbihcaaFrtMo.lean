/-
  The model's 'l12Roots', 'l12Move'.
-/
import Derived.Test.YtkplfdckfbihcaaFrtRc2
import Derived.Test.YtkplfdckfbihcaaFrtSh3
import Derived.Test.YtkplfdckfbihcaaFrtCw
import Derived.Test.YtkplfdckfbihcaaFrtNm
import Derived.Test.YtkplfdckfbihcaaFrtZ15
namespace Go.Proofs.Ytkplfdckfbihcaa
open Go.RowKit
set_option linter.unusedVariables false
set_option linter.unusedSimpArgs false

theorem nums_put {base : Nat} {w : World} {g n cap : Nat} {P : List Int} (h : Nums base w (.slice (some ⟨g, 0, none⟩) n cap) P) (j : Nat) (hj : j < P.length) (x : Int) :
    Nums base (w.setCell ⟨g, j, none⟩ (ik x)) (.slice (some ⟨g, 0, none⟩) n cap) (P.set j x) ∧ w.frozen? ⟨g, j, none⟩ = false := by
  rcases h.2 with ⟨e, hn⟩ | ⟨g', cap', cur, e, hg, hh, h1, h2, h3, h4⟩
  · cases e
  · injection e with e1 e2 e3
    injection e1 with e1
    injection e1 with e1
    subst e1
    subst e3
    refine ⟨⟨by simp, Or.inr ⟨g, _, cur.setIfInBounds j (ik x), by rw [e2]; simp, hg, row_set hh j (ik x), by simpa using h1, h2, by simpa using h3, ?_⟩⟩, row_free hh j⟩
    simp only [List.length_set, Array.toList_setIfInBounds]
    rw [List.take_set, h4, List.map_set]

theorem nums_cell {base : Nat} {w : World} {g n cap : Nat} {P : List Int} (h : Nums base w (.slice (some ⟨g, 0, none⟩) n cap) P) (j : Nat) (hj : j < P.length) : w.cell? ⟨g, j, none⟩ = some (ik P[j]) := by
  obtain ⟨g', c', e, _, _, hc⟩ := nums_at h j hj
  injection e with e1 e2 e3
  injection e1 with e1
  injection e1 with e1
  subst e1
  rw [Nat.zero_add] at hc
  exact hc

/-- Nothing has changed but two rows. -/
structure ChM (vt vc vc' : Value) (W W' : World) : Prop where
  os : W'.os = W.os
  tape : W'.tape = W.tape
  output : W'.output = W.output
  size : W.heap.size ≤ W'.heap.size
  block : ∀ k, k < W.heap.size → vt.ownBlock ≠ some k → vc.ownBlock ≠ some k → W'.heap[k]? = W.heap[k]?
  new : ∀ k, vc'.ownBlock = some k → vc.ownBlock = some k ∨ W.heap.size ≤ k
theorem ChM.of_below {vt vc : Value} {W W' : World} (h : Below W.heap.size W W') : ChM vt vc vc W W' := ⟨h.os, h.tape, h.output, h.size, fun k hk _ _ => h.block k hk, fun _ h => Or.inl h⟩

theorem ws_obj {L B : Nat} {w : World} {b o len : Nat} {l : List Wrd} (h : Ws L B w (some ⟨b, o, none⟩) len l) {a c : Nat} (hob : ob l a = some c) : Ws L B w (some ⟨b, o + a * 2, none⟩) (c + 1) (objW l a) := by
  have hl := objW_len hob
  obtain ⟨h1, _, h2⟩ := ob_some hob
  refine ⟨hl.symm, by have := h.2.1; have := h.1; omega, fun i hi => ?_⟩
  have e := objW_get hob (show i ≤ c by omega)
  rw [List.getElem?_eq_getElem hi, List.getElem?_eq_getElem (by omega)] at e
  injection e with e
  obtain ⟨b', o', e1, e2, e3, e4⟩ := h.2.2 (a + i) (by omega)
  injection e1 with e1
  injection e1 with e5 e6
  subst e5 e6
  refine ⟨b, _, rfl, e2, e3, ?_⟩
  rw [e, show o + a * 2 + i * 2 = o + (a + i) * 2 by omega]
  exact e4

set_option maxRecDepth 100000 in
set_option maxHeartbeats 4000000 in
theorem l12Move_any (L B bt bc : Nat) (ao : Option Addr) (len cap : Nat) (l : List Wrd) (vt : Value) (va : Option Addr) (vn vcp : Nat) (Cc : List Wrd) (ps : List Nat) (x : Wrd) (w : World) (hB : B ≤ w.heap.size) (hs : Ws L B w ao len l) (hl : len ≤ 1048576) (hcap : len ≤ cap) (hP : PL l ps) (hx : RW l x) (hT : Nums bt w vt (toL len l ps)) (hC : Wors bc w (.slice va vn vcp) Cc) (hvn : vn = Cc.length) (hCl : Cc.length = wrds l ps) (hcb : Cc.length ≤ 2000000) (hap : ∀ k, vt.ownBlock = some k → (Value.slice va vn vcp).ownBlock ≠ some k) (hbt : B ≤ bt) (hbc : B ≤ bc) (hbcw : bc ≤ w.heap.size) :
    Calls Try.prog 49 #[.slice ao len cap, vt, .slice va vn vcp, vW x] w fun e w' => ∃ va' vn' vcp', e = .returned (.tuple #[.slice va' vn' vcp', vW (mvW l (meet1 ps x) x)]) ∧ vn' = (Cc ++ newO l ps x).length ∧ Nums bt w' vt (toL len l (meet1 ps x)) ∧ Wors bc w' (.slice va' vn' vcp') (Cc ++ newO l ps x) ∧ ChM vt (.slice va vn vcp) (.slice va' vn' vcp') w w' := by
  have HL : Hid (len = l.length) := hs.1
  obtain ⟨X, hX⟩ : ∃ X, X = (w.alloc (.cells #[.int .i64 x.K, .int .i64 x.N] 28)).alloc (.cells #[.int .i64 0, .int .i64 0] 28) := ⟨_, rfl⟩
  have hXs : X.heap.size = w.heap.size + 2 := by rw [hX]; simp
  have hXb : Below w.heap.size w X := by rw [hX]; exact ((Below.refl _ _).alloc (Nat.le_refl _) _).alloc (by simp) _
  have x0 : X.heap[w.heap.size]? = some (.cells #[.int .i64 x.K, .int .i64 x.N] 28 (0, 0)) := by
    rw [hX, Below.heap_alloc _ _ _ (by simp)]; exact heap_new (by simp)
  have x1 : X.heap[w.heap.size + 1]? = some (.cells #[.int .i64 0, .int .i64 0] 28 (0, 0)) := by
    rw [hX]; exact heap_new (by simp)
  have HX : Hid (X = _) := hX
  by_cases hk4 : x.K = 4
  · obtain ⟨a, c, hxa, _, hob⟩ := hx hk4
    obtain ⟨hal, hcnt, hacl⟩ := ob_some hob
    have haL : a < len := by have := HL.out; omega
    obtain ⟨xK, xN⟩ := x
    simp only at hk4 hxa
    subst hk4 hxa
    obtain ⟨g, tc, e, hgb, hgw, hgc⟩ := nums_at hT a (by rw [toL_len]; exact haL)
    rw [toL_len] at e
    subst e
    rw [toL_get, Nat.zero_add] at hgc
    unfold ik at hgc
    by_cases hin : a ∈ ps
    · rw [if_pos hin] at hgc
      have HE : Hid (meet1 ps ⟨4, (a : Int)⟩ = ps ∧ newO l ps ⟨4, (a : Int)⟩ = [] ∧ mvW l ps ⟨4, (a : Int)⟩ = ⟨4, (offN l ps a : Int)⟩) := by
        refine ⟨?_, ?_, ?_⟩
        · unfold meet1; rw [if_neg (by simp [hin])]
        · unfold newO; rw [if_neg (by simp [hin])]
        · unfold mvW; simp
      rw [HE.out.1, HE.out.2.1, HE.out.2.2, List.append_nil]
      have FIN : Hid (∀ Z : World, Below w.heap.size w Z → Nums bt Z (.slice (some ⟨g, 0, none⟩) len tc) (toL len l ps) ∧ Wors bc Z (.slice va vn vcp) Cc ∧ ChM (.slice (some ⟨g, 0, none⟩) len tc) (.slice va vn vcp) (.slice va vn vcp) w Z) := fun Z hZ => ⟨nums_bel hT hZ, wors_bel hC hZ, ChM.of_below hZ⟩
      have HVN : Hid (vn = Cc.length) := hvn
      have hcX := (bcell hXb hgw a).trans hgc
      obtain ⟨of, hof⟩ : ∃ of, offN l ps a = of := ⟨_, rfl⟩
      rw [hof] at hgc hcX ⊢
      have hz0 : w.heap.size < X.heap.size := by omega
      have hz1 : w.heap.size + 1 < X.heap.size := by omega
      obtain ⟨f0, f1⟩ := cells2 x0
      obtain ⟨f2, f3⟩ := cells2 x1
      have f4 := row_free x1
      have LAY : Hid (∀ Z, _ → _) := lay_two x1 (Nat.le_succ _) hXb (.int .i64 4) (.int .i64 (of : Int))
      clear hvn hX hXs hCl hcb hof
      go_enter Try.func49, Try.ntmps49
      go_wp2_with fail
      rw [← HX.out]
      go_region
      all_goals
        go_wp2_with fail
        obtain ⟨z1, z2, z3, z4⟩ := LAY.out _ rfl
        obtain ⟨j0, j1⟩ := cells2 z1
        obtain ⟨t1, t2, t3⟩ := FIN.out _ z2.drew
        refine bodyPost_ret (v := .tuple #[.slice va vn vcp, vW ⟨4, (of : Int)⟩]) (by simp [results, Try.results49, go_sem, j0, j1]) rfl ?_
        exact ⟨va, vn, vcp, rfl, HVN.out, t1, t2, t3⟩
    · rw [if_neg hin] at hgc
      obtain ⟨b, o, rfl, _, hbB, htw⟩ := hs.2.2 a hal
      have HE : Hid (meet1 ps ⟨4, (a : Int)⟩ = ps ++ [a] ∧ newO l ps ⟨4, (a : Int)⟩ = objW l a ∧ mvW l (ps ++ [a]) ⟨4, (a : Int)⟩ = ⟨4, (vn : Int)⟩) := by
        refine ⟨?_, ?_, ?_⟩
        · unfold meet1; rw [if_pos (by simp [hin])]; simp
        · unfold newO; rw [if_pos (by simp [hin])]; simp
        · unfold mvW; rw [if_pos rfl]; simp only [Int.toNat_natCast]; rw [offN_new hin, hvn, hCl]
      rw [HE.out.1, HE.out.2.1, HE.out.2.2]
      have hbg : b ≠ g := by omega
      obtain ⟨hT1, hgf⟩ := nums_put hT a (by rw [toL_len]; exact haL) (vn : Int)
      unfold ik at hT1
      rw [hvn, hCl, ← toL_set hin, ← hCl, ← hvn] at hT1
      obtain ⟨V, hV⟩ : ∃ V, V = ((w.setCell ⟨g, a, none⟩ (.int .i64 (vn : Int))).alloc (.cells #[.int .i64 4, .int .i64 (a : Int)] 28)).alloc (.cells #[.int .i64 0, .int .i64 0] 28) := ⟨_, rfl⟩
      have hVs : V.heap.size = w.heap.size + 2 := by rw [hV]; simp
      have hVs0 : Below w.heap.size (w.setCell ⟨g, a, none⟩ (.int .i64 (vn : Int))) V := by rw [hV]; exact ((Below.refl _ _).alloc (by simp) _).alloc (by simp) _
      have hVo : ∀ q, q < w.heap.size → q ≠ g → V.heap[q]? = w.heap[q]? := fun q hq hne => (hVs0.block q hq).trans (row_other _ _ _ hne)
      have v0 : V.heap[w.heap.size]? = some (.cells #[.int .i64 4, .int .i64 (a : Int)] 28 (0, 0)) := by
        rw [hV, Below.heap_alloc _ _ _ (by simp)]; exact heap_new (by simp)
      have v1 : V.heap[w.heap.size + 1]? = some (.cells #[.int .i64 0, .int .i64 0] 28 (0, 0)) := by
        rw [hV]; exact heap_new (by simp)
      have hgo : (Value.slice (some ⟨g, 0, none⟩) len tc).ownBlock = some g := rfl
      have hgq : ∀ q, (Value.slice (some ⟨g, 0, none⟩) len tc).ownBlock = some q → q < w.heap.size := fun q hq => by
        have : g = q := by simpa [Value.ownBlock] using hq
        omega
      have hTV : Nums bt V (.slice (some ⟨g, 0, none⟩) len tc) (toL len l (ps ++ [a])) := nums_keep hT1 (fun q hq => hVs0.block q (hgq q hq))
      have hsV : Ws L B V (some ⟨b, o, none⟩) len l := hs.keep (fun k _ hk => hVo k (by omega) (by omega)) (Nat.le_refl _) (Nat.le_refl _)
      have hCV : Wors bc V (.slice va vn vcp) Cc := wors_keep hC (fun q hq => hVo q (wors_own hC hq).2 (fun e => hap g hgo (by rw [← e]; exact hq)))
      have K := l12Fields_any l[a] V
      have hci : cntI l[a] = (c : Int) := by unfold cntI; rw [hcnt]
      rw [hci] at K
      obtain ⟨e0, e1⟩ := htw.block (hVo b (by omega) hbg)
      obtain ⟨e0w, e1w⟩ := htw
      generalize l[a] = xa at *
      have e0s := e0
      have e1s := e1
      rw [hV] at e0s e1s
      have HV : Hid (V = _) := hV
      have HCL : Hid (Cc.length = wrds l ps) := hCl
      have HVN : Hid (vn = Cc.length) := hvn
      have hz0 : w.heap.size < V.heap.size := by omega
      have hz1 : w.heap.size + 1 < V.heap.size := by omega
      obtain ⟨f0, f1⟩ := cells2 v0
      have hvb : vn ≤ 2000000 := by rw [hvn]; exact hcb
      clear hX hXs hXb x0 x1 HX hci hV hgq hvn hCl hcb
      go_enter Try.func49, Try.ntmps49
      go_wp2_with fail
      rw [← HV.out]
      refine K.mono ?_
      rintro e w3 ⟨rfl, hb3⟩
      clear K e0s e1s
      have hz3 := hb3.size
      obtain ⟨p0, p1⟩ := cells2 ((hb3.block _ hz0).trans v0)
      have q1 := (hb3.block _ hz1).trans v1
      have hobj := ws_obj (hsV.below hb3 (by omega)) hob
      have hC3 := wors_bel hCV hb3
      have hac2 : a + c + 1 ≤ len := by have := HL.out; omega
      have hc99 := cntH_le hcnt
      rw [show c + 1 = a + c + 1 - a by omega] at hobj
      obtain ⟨ao2, cap2, w4, r4, hN4, hg4, ho4⟩ := wors_app2 hC3 (by omega) (cap - a) hobj (by rw [← HVN.out]; omega)
      rw [← HVN.out] at r4 hN4 ho4
      have HR4 : Hid (_ = _) := r4
      have hown : ∀ q, (Value.slice va vn vcp).ownBlock = some q → q < w.heap.size ∧ q ≠ g := fun q hq => ⟨(wors_own hC hq).2, fun e => hap g hgo (by rw [← e]; exact hq)⟩
      have hz4 := hg4.size
      have y0 : w4.heap[w.heap.size]? = some (.cells #[.int .i64 4, .int .i64 (a : Int)] 28 (0, 0)) := (hg4.block _ (by omega) (fun e => by have := (hown _ e.symm).1; omega)).trans ((hb3.block _ hz0).trans v0)
      have y1 : w4.heap[w.heap.size + 1]? = some (.cells #[.int .i64 0, .int .i64 0] 28 (0, 0)) := (hg4.block _ (by omega) (fun e => by have := (hown _ e.symm).1; omega)).trans q1
      have hgq2 : ∀ q, (Value.slice (some ⟨g, 0, none⟩) len tc).ownBlock = some q → q = g := fun q hq => by simpa [Value.ownBlock] using hq.symm
      have hT4 : Nums bt w4 (.slice (some ⟨g, 0, none⟩) len tc) (toL len l (ps ++ [a])) := nums_keep (nums_bel hTV hb3) (fun q hq => hg4.block q (by have := hgq2 q hq; omega) (fun e => (hown _ e.symm).2 (hgq2 q hq)))
      have hgc4 := nums_cell hT4 a (by rw [toL_len]; exact haL)
      rw [toL_get, if_pos (by simp), offN_new hin, ← HCL.out, ← HVN.out] at hgc4
      unfold ik at hgc4
      obtain ⟨n0, n1⟩ := cells2 y0
      obtain ⟨n2, n3⟩ := cells2 y1
      have n4 := row_free y1
      have hw4 : Below 0 w w4 := ⟨hg4.os.trans (hb3.os.trans (by rw [HV.out]; rfl)), hg4.tape.trans (hb3.tape.trans (by rw [HV.out]; rfl)), hg4.output.trans (hb3.output.trans (by rw [HV.out]; rfl)), by omega, fun q hq => absurd hq (Nat.not_lt_zero _)⟩
      have FIN : Hid (∀ Z, Z = (w4.setCell ⟨w.heap.size + 1, 0, none⟩ (.int .i64 4)).setCell ⟨w.heap.size + 1, 1, none⟩ (.int .i64 (vn : Int)) →
          Z.heap[w.heap.size + 1]? = some (.cells #[.int .i64 4, .int .i64 (vn : Int)] 28 (0, 0)) ∧ Nums bt Z (.slice (some ⟨g, 0, none⟩) len tc) (toL len l (ps ++ [a])) ∧ Wors bc Z (.slice ao2 (vn + (a + c + 1 - a)) cap2) (Cc ++ objW l a) ∧ ChM (.slice (some ⟨g, 0, none⟩) len tc) (.slice va vn vcp) (.slice ao2 (vn + (a + c + 1 - a)) cap2) w Z) := by
        intro Z hZ
        obtain ⟨z1, z2, z3, z4⟩ := lay_two y1 (Nat.zero_le _) hw4 (.int .i64 4) (.int .i64 (vn : Int)) Z hZ
        refine ⟨z1, nums_keep hT4 (fun q hq => z3 q ?_), wors_keep hN4 (fun q hq => z3 q ?_), ⟨z2.os, z2.tape, z2.output, by omega, fun q hq h1 h2 => ?_, fun q hq => ?_⟩⟩
        · have : g = q := by simpa [Value.ownBlock] using hq
          omega
        · rcases ho4 q hq with h | h
          · have := (hown q h).1; omega
          · omega
        · have hqg : q ≠ g := fun e => h1 (by rw [e]; rfl)
          exact (z3 q (by omega)).trans ((hg4.block q (by omega) (fun e => h2 e.symm)).trans ((hb3.block q (by omega)).trans (hVo q hq hqg)))
        · rcases ho4 q hq with h | h
          · exact Or.inl h
          · exact Or.inr (by omega)
      have HNL : Hid (vn + (a + c + 1 - a) = (Cc ++ objW l a).length) := by show _ = _; rw [List.length_append, objW_len hob, ← HVN.out]; omega
      clear r4 hN4 hg4 ho4 hT4 y0 y1 q1 hobj hC3 hCV hTV hsV hVo hVs0 v0 v1 hown hw4
      go_wp2_with (first | (at_builtin; refine list_run HR4.out (by rfl) _ _ (by rfl) (by rfl) (by rfl) (by rfl) ?_; clear HR4))
      go_region
      all_goals
        go_wp2_with fail
        obtain ⟨z1, t1, t2, t3⟩ := FIN.out _ rfl
        obtain ⟨j0, j1⟩ := cells2 z1
        refine bodyPost_ret (v := .tuple #[.slice ao2 (vn + (a + c + 1 - a)) cap2, vW ⟨4, (vn : Int)⟩]) (by simp [results, Try.results49, go_sem, j0, j1]) rfl ?_
        exact ⟨ao2, _, cap2, rfl, HNL.out, nums_keep t1 (fun _ _ => rfl), wors_keep t2 (fun _ _ => rfl), ⟨t3.os, t3.tape, t3.output, t3.size, t3.block, t3.new⟩⟩
  · have HE : Hid (meet1 ps x = ps ∧ newO l ps x = [] ∧ mvW l ps x = x) := by
      refine ⟨?_, ?_, ?_⟩
      · unfold meet1; rw [if_neg (fun h => hk4 h.1)]
      · unfold newO; rw [if_neg (fun h => hk4 h.1)]
      · unfold mvW; rw [if_neg hk4]
    rw [HE.out.1, HE.out.2.1, HE.out.2.2, List.append_nil]
    have FIN : Hid (∀ Z : World, Below w.heap.size w Z → Nums bt Z vt (toL len l ps) ∧ Wors bc Z (.slice va vn vcp) Cc ∧ ChM vt (.slice va vn vcp) (.slice va vn vcp) w Z) := fun Z hZ => ⟨nums_bel hT hZ, wors_bel hC hZ, ChM.of_below hZ⟩
    have HVN : Hid (vn = Cc.length) := hvn
    clear hvn hX hXs hCl hcb
    go_enter Try.func49, Try.ntmps49
    go_wp2_with fail
    go_region
    all_goals
      go_wp2_with fail
      obtain ⟨t1, t2, t3⟩ := FIN.out _ (((Below.refl _ _).alloc (Nat.le_refl _) _).alloc (by simp) _).drew
      refine bodyPost_ret (v := .tuple #[.slice va vn vcp, vW x]) (by simp [results, Try.results49, go_sem]) rfl ?_
      exact ⟨va, vn, vcp, rfl, HVN.out, t1, t2, t3⟩

end Go.Proofs.Ytkplfdckfbihcaa
