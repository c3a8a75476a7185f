/-
  The model's 'l12Collect': its walk.
-/
import Derived.Test.YtkplfdckfbihcaaFrtCo
import Derived.Test.YtkplfdckfbihcaaFrtRc3
namespace Go.Proofs.Ytkplfdckfbihcaa
open Go.RowKit
set_option linter.unusedVariables false
set_option linter.unusedSimpArgs false

theorem mvW_old {l : List Wrd} {ps ps' : List Nat} (h : ps <+: ps') {z : Wrd} (hz : z.K = 4 → z.N.toNat ∈ ps) : mvW l ps' z = mvW l ps z := by
  unfold mvW
  by_cases hk : z.K = 4
  · rw [if_pos hk, if_pos hk]
    obtain ⟨t, rfl⟩ := h
    rw [offN_old (hz hk)]
  · rw [if_neg hk, if_neg hk]
theorem meetL_mem {ws : List Wrd} : ∀ {ps : List Nat} {z : Wrd}, z ∈ ws → z.K = 4 → z.N.toNat ∈ meetL ps ws := by
  induction ws with
  | nil => intro ps z hz; cases hz
  | cons x ws ih =>
    intro ps z hz hk
    rcases List.mem_cons.1 hz with rfl | hz
    · exact (meetL_pre ws (meet1 ps z)).subset (meet1_mem ps z hk)
    · exact ih hz hk
theorem stC_zero (l : List Wrd) (ps : List Nat) : stC l ps 0 = rawC l ps := by simp [stC]
theorem out_next {l roots : List Wrd} {i : Nat} (hi : i < roots.length) :
    (roots.take i).map (mvW l (meetL [] (roots.take i))) ++ [mvW l (meetL [] (roots.take (i + 1))) roots[i]] = (roots.take (i + 1)).map (mvW l (meetL [] (roots.take (i + 1)))) := by
  have e : roots.take (i + 1) = roots.take i ++ [roots[i]] := List.take_succ_eq_append_getElem hi
  have hp : meetL [] (roots.take i) <+: meetL [] (roots.take (i + 1)) := by rw [e, meetL_snoc]; exact meet1_pre _ _
  have h1 : (roots.take i).map (mvW l (meetL [] (roots.take i))) = (roots.take i).map (mvW l (meetL [] (roots.take (i + 1)))) := by
    apply List.map_congr_left
    intro z hz
    exact (mvW_old hp (fun hk => meetL_mem hz hk)).symm
  rw [h1]
  generalize meetL [] (roots.take (i + 1)) = qs
  have e2 : (roots.take (i + 1)).map (mvW l qs) = (roots.take i ++ [roots[i]]).map (mvW l qs) := congrArg _ e
  rw [e2, List.map_append]
  rfl
theorem out_end {l roots : List Wrd} {ps : List Nat} (h : meetL [] roots <+: ps) : roots.map (mvW l (meetL [] roots)) = roots.map (mvW l ps) := by
  apply List.map_congr_left
  intro z hz
  exact (mvW_old h (fun hk => meetL_mem hz hk)).symm
theorem okH_len {s : Int} {l : List Wrd} (h : okH s l = true) : l.length ≤ 5000 := by
  unfold okH wok sizeB at h
  simp at h
  omega
theorem sz_two (W : World) (T a b : Nat) (x y : Value) : ((W.setCell ⟨T, a, none⟩ x).setCell ⟨T, b, none⟩ y).heap.size = W.heap.size := by simp [World.setCell]

theorem wors_at2 {base : Nat} {w : World} {va : Option Addr} {vn vcp : Nat} {P : List Wrd} (h : Wors base w (.slice va vn vcp) P) (j : Nat) {x : Wrd} (hx : P[j]? = some x) : ∃ g, va = some ⟨g, 0, none⟩ ∧ g < w.heap.size ∧ w.cell? ⟨g, j * 2, none⟩ = some (.int .i64 x.K) ∧ w.cell? ⟨g, j * 2 + 1, none⟩ = some (.int .i64 x.N) := by
  obtain ⟨hj, rfl⟩ := List.getElem?_eq_some_iff.1 hx
  obtain ⟨g, c, he, _, hgw, htw, _⟩ := wors_at h j hj
  injection he with he
  rw [Nat.zero_add] at htw
  exact ⟨g, he, hgw, htw.1, htw.2⟩

/-- What 'l12Collect' comes to. -/
def CoEnd (w : World) (s : Int) (l roots : List Wrd) (nr : Nat) (e : Ending) (w' : World) : Prop :=
  ∃ va vn vcp oa ocp, e = .returned (.tuple #[vH s va vn vcp, .slice oa nr ocp]) ∧ vn = wrds l (plc l roots) ∧ Wors w.heap.size w' (.slice va vn vcp) ((rawC l (plc l roots)).map (mvW l (plc l roots))) ∧ Wors w.heap.size w' (.slice oa nr ocp) (roots.map (mvW l (plc l roots))) ∧ (∀ k, (Value.slice va vn vcp).ownBlock = some k → (Value.slice oa nr ocp).ownBlock ≠ some k)

set_option maxRecDepth 100000 in
set_option maxHeartbeats 8000000 in
theorem l12Collect_any (s : Int) (ao : Option Addr) (len cap : Nat) (l : List Wrd) (ar : Option Addr) (nr cr : Nat) (roots : List Wrd) (w : World) (hs : Ws 0 w.heap.size w ao len l) (hr : Ws 0 w.heap.size w ar nr roots) (hok : okH s l = true) (hrw : ∀ x ∈ roots, RW l x) (hnr : nr ≤ 1048576) (hcap : len ≤ cap) :
    Calls Try.prog 36 #[vH s ao len cap, .slice ar nr cr] w fun e w' => CoEnd w s l roots nr e w' ∧ Below w.heap.size w w' := by
  have HL : Hid (len = l.length) := hs.1
  have HNR : Hid (nr = roots.length) := hr.1
  have hl5 : len ≤ 5000 := by have := okH_len hok; have := HL.out; omega
  have hl : len ≤ 1048576 := by omega
  obtain ⟨X, hX⟩ : ∃ X, X = ((w.alloc (.cells #[.int .i64 s, .slice ao len cap] 26)).alloc (.cells #[.int .i64 0, .slice none 0 0] 26)).alloc (.cells #[] 3) := ⟨_, rfl⟩
  have hXs : X.heap.size = w.heap.size + 3 := by rw [hX]; simp
  have hXb : Below w.heap.size w X := by rw [hX]; exact (((Below.refl _ _).alloc (Nat.le_refl _) _).alloc (by simp) _).alloc (by simp; omega) _
  have x0 : X.heap[w.heap.size]? = some (.cells #[.int .i64 s, .slice ao len cap] 26 (0, 0)) := by
    rw [hX, Below.heap_alloc _ _ _ (by simp; omega), Below.heap_alloc _ _ _ (by simp)]; exact heap_new (by simp)
  have x1 : X.heap[w.heap.size + 1]? = some (.cells #[.int .i64 0, .slice none 0 0] 26 (0, 0)) := by
    rw [hX, Below.heap_alloc _ _ _ (by simp)]; exact heap_new (by simp)
  have x2 : X.heap[w.heap.size + 2]? = some (.cells #[] 3 (0, 0)) := by rw [hX]; exact heap_new (by simp)
  have hN0 : Nums (w.heap.size + 2) X (.slice (some ⟨w.heap.size + 1 + 1, 0, none⟩) 0 0) (List.replicate 0 (-1)) := ⟨rfl, Or.inr ⟨w.heap.size + 1 + 1, 0, #[], by simp, by omega, x2, by simp, by simp, by simp, by simp⟩⟩
  have HX : Hid (X = _) := hX
  have HXS : Hid (X.heap.size = w.heap.size + 3) := hXs
  clear hX hXs
  go_enter Try.func36, Try.ntmps36
  go_wp2_with fail
  rw [← HX.out]
  go_loopw [6, 7] (fun v i wr => ∃ (k : Nat) (a' : Option Addr) (c' : Nat), k ≤ len ∧ i = .int .i64 k ∧ v = .slice a' k c' ∧ Nums (w.heap.size + 2) wr (.slice a' k c') (List.replicate k (-1)) ∧ Below (w.heap.size + 2) X wr) (fun _ i _ => len - (intOf i).toNat)
  case atStart => exact ⟨0, _, _, by omega, rfl, rfl, hN0, Below.refl _ _⟩
  case round =>
    obtain ⟨k, a', c', hk, rfl, rfl, hN, hbr⟩ := hrel
    have hszr := hbr.size
    obtain ⟨f0, f1⟩ := cells2 ((hbr.block w.heap.size (by omega)).trans x0)
    by_cases hlt : k < len
    · have hzb : w.heap.size + 2 ≤ wr.heap.size := by have := HXS.out; omega
      obtain ⟨g, cp, w2, HR, HN2, hb2⟩ := nums_push hN hzb (by simp; omega) (-1)
      rw [List.length_replicate] at HR HN2
      have HR' : Hid (_ = _) := HR
      have HN2' : Hid (Nums (w.heap.size + 2) w2 (.slice (some ⟨g, 0, none⟩) (k + 1) cp) (List.replicate (k + 1) (-1))) := by
        show Nums _ _ _ _
        rw [List.replicate_succ']
        exact HN2
      clear hN HR HN2
      unfold ik at HR'
      go_wp2_with (first | (at_builtin; refine list_run HR'.out (by rfl) _ _ (by rfl) (by rfl) (by rfl) (by rfl) ?_; clear HR'))
      go_roundw
      case rel => exact ⟨k + 1, _, cp, by omega, by go_num, rfl, HN2'.out, hbr.trans hb2⟩
      case measure => simp [intOf]; omega
    · obtain rfl : k = len := by omega
      have hzb : w.heap.size + 2 ≤ wr.heap.size := by have := HXS.out; omega
      obtain ⟨Y, hY⟩ : ∃ Y, Y = ((wr.alloc (.cells #[] 28)).alloc (.cells #[] 28)).alloc (.cells #[.int .i64 0, .int .i64 0] 28) := ⟨_, rfl⟩
      have hYs : Y.heap.size = wr.heap.size + 3 := by rw [hY]; simp
      have hYb : Below wr.heap.size wr Y := by rw [hY]; exact (((Below.refl _ _).alloc (Nat.le_refl _) _).alloc (by simp) _).alloc (by simp; omega) _
      have hC0 : Cst w Y s ao k cap l [] (.slice a' k c') (.slice (some ⟨wr.heap.size, 0, none⟩) 0 0) (.slice (some ⟨wr.heap.size + 1, 0, none⟩) 0 0) [] [] ⟨0, 0⟩ (wr.heap.size + 1 + 1) := by
        have hown := fun q (hq : (Value.slice a' k c').ownBlock = some q) => nums_own hN hq
        refine ⟨hXb.trans ((hbr.mono (by omega)).trans (hYb.mono (by omega))), (hYb.block _ (by omega)).trans ((hbr.block _ (by omega)).trans x0), (hYb.block _ (by omega)).trans ((hbr.block _ (by omega)).trans x1), ?_, ?_, ?_, ?_, fun q hq e => ?_, fun q hq e => ?_, fun q hq e => ?_, fun e => ?_, fun e => ?_, fun e => ?_, by omega⟩
        · rw [hY]; exact heap_new (by simp)
        · rw [toL_nil]; exact nums_bel hN hYb
        · exact wors_emp (by rw [hY, Below.heap_alloc _ _ _ (by simp; omega), Below.heap_alloc _ _ _ (by simp)]; exact heap_new rfl) hzb
        · exact wors_emp (by rw [hY, Below.heap_alloc _ _ _ (by simp)]; exact heap_new (by simp)) (by omega)
        · have h1 := (hown q hq).2
          have h2 : wr.heap.size = q := by simp [Value.ownBlock] at e; exact e
          omega
        · have h1 := (hown q hq).2
          have h2 : wr.heap.size + 1 = q := by simp [Value.ownBlock] at e; exact e
          omega
        · have h1 : wr.heap.size = q := by simpa [Value.ownBlock] using hq
          have h2 : wr.heap.size + 1 = q := by simpa [Value.ownBlock] using e
          omega
        · have := (hown _ e).2; omega
        · have h1 : wr.heap.size = wr.heap.size + 1 + 1 := by simp [Value.ownBlock] at e; omega
          omega
        · exact absurd e (by simp [Value.ownBlock])
      obtain ⟨T, hTe⟩ : ∃ T, T = wr.heap.size + 1 + 1 := ⟨_, rfl⟩
      have HT : Hid (T = wr.heap.size + 1 + 1) := hTe
      rw [← hTe] at hC0
      have HY : Hid (Y = _) := hY
      obtain ⟨v1a, hv1⟩ : ∃ v, v = (some (⟨wr.heap.size, 0, none⟩ : Addr)) := ⟨_, rfl⟩
      have hxb2 : Below w.heap.size w wr := hXb.trans (hbr.mono (by omega))
      clear hN hbr hYb hYs hY
      go_wp2_with fail
      rw [← HY.out]
      clear HY hv1 x0 x1 x2 hN0 hXb f0 f1
      obtain ⟨PL0, hPL0⟩ : ∃ F : ∀ j, PL l (meetL [] (roots.take j)), F = F := ⟨fun j => PL.meetL (fun x hx => hrw x (List.mem_of_mem_take hx)) ⟨List.nodup_nil, fun p hp => by cases hp⟩, rfl⟩
      clear hPL0
      go_loopw [8, 9, 11] (fun vc vo i wr => ∃ (j : Nat) (va : Option Addr) (vn vcp : Nat) (oa : Option Addr) (ocp : Nat) (y : Wrd), j ≤ nr ∧ i = .int .i64 j ∧ vc = .slice va vn vcp ∧ vo = .slice oa j ocp ∧ Hid (vn = (rawC l (meetL [] (roots.take j))).length) ∧ Cst w wr s ao k cap l (meetL [] (roots.take j)) (.slice a' k c') (.slice va vn vcp) (.slice oa j ocp) (rawC l (meetL [] (roots.take j))) ((roots.take j).map (mvW l (meetL [] (roots.take j)))) y T) (fun _ _ i _ => nr - (intOf i).toNat)
      case atStart => exact ⟨0, _, _, _, _, _, ⟨0, 0⟩, by omega, rfl, rfl, rfl, rfl, hC0⟩
      case round =>
        clear hC0
        obtain ⟨j, va, vn, vcp, oa, ocp, y, hj, rfl, rfl, rfl, HVN, hC⟩ := hrel
        have hTe := HT.out
        clear HT
        subst hTe
        by_cases hlt : j < nr
        · have hjr : j < roots.length := by have := HNR.out; omega
          have hPj := PL0 j
          have hlen := rawC_len hPj.ob
          have hbd := wrds_bound hPj
          obtain ⟨b, o, rfl, _, hbB, htw⟩ := hr.2.2 j hjr
          obtain ⟨e0, e1⟩ := htw.block (hC.bel.block b (by omega))
          obtain ⟨f0, f1⟩ := cells2 hC.b2
          have KM := cst_move hC.drew (x := roots[j]) hs hl hcap hPj (hrw _ (List.getElem_mem hjr)) HVN.out hlen (by rw [hlen]; have := HL.out; omega)
          have HON : Hid (_ = _) := out_next (l := l) hjr
          rw [← raw_meet, ← meetL_take_succ hjr] at KM
          have HPB : Hid (wrds l (meetL [] (roots.take (j + 1))) ≤ 100 * l.length) := wrds_bound (PL0 (j + 1))
          have HCLN : Hid ((rawC l (meetL [] (roots.take (j + 1)))).length = wrds l (meetL [] (roots.take (j + 1)))) := rawC_len (PL0 (j + 1)).ob
          have HOL : Hid (j = ((roots.take j).map (mvW l (meetL [] (roots.take j)))).length) := by show _ = _; simp; omega
          generalize (roots.take j).map (mvW l (meetL [] (roots.take j))) = Oo at *
          generalize hoo2 : (roots.take (j + 1)).map (mvW l (meetL [] (roots.take (j + 1)))) = Oo2 at *
          have HOO2 : Hid ((roots.take (j + 1)).map (mvW l (meetL [] (roots.take (j + 1)))) = Oo2) := hoo2
          clear hoo2
          generalize mvW l (meetL [] (roots.take (j + 1))) roots[j] = z at *
          generalize hps2 : meetL [] (roots.take (j + 1)) = ps2 at *
          have HPS2 : Hid (meetL [] (roots.take (j + 1)) = ps2) := hps2
          clear hps2
          generalize meetL [] (roots.take j) = ps at *
          generalize roots[j] = x at *
          clear htw hlen hbd
          unfold vW at KM
          go_wp2_with fail
          go_region_law (go_simp; go_at_call 49; refine KM.mono ?_; rintro e W2 ⟨va2, vn2, vcp2, rfl, hn2, hC2⟩; have HVN2 : Hid (vn2 = (rawC l ps2).length) := hn2; clear KM hn2; obtain ⟨n2, n3⟩ := cells2 hC2.b10; have n4 := row_free hC2.b10; have n5 := hC2.lt)
          all_goals
            clear n2 n3 n4
            have hC3 := hC2.lay z
            obtain ⟨m2, m3⟩ := cells2 hC3.b10
            obtain ⟨oa3, ocp3, W4, hrun, hC4⟩ := hC3.push HOL.out (by omega) z
            rw [HON.out] at hC4
            rw [sz_two] at hrun
            have HR' : Hid (_ = _) := hrun
            clear hC2 hC3 hrun
            go_wp2_with (first | (at_builtin; refine list_run HR'.out (by rfl) _ _ (by rfl) (by rfl) (by rfl) (by rfl) ?_; clear HR'))
            go_roundw
            case rel => exact ⟨j + 1, _, _, _, _, _, _, by omega, by go_num, rfl, rfl, by rw [HPS2.out]; exact HVN2, by rw [HPS2.out, HOO2.out]; exact hC4⟩
            case measure => simp [intOf]; omega
        · obtain rfl : j = nr := by omega
          have HPS : Hid (roots.take j = roots) := by show _ = _; rw [List.take_of_length_le]; have := HNR.out; omega
          rw [HPS.out] at hC HVN
          clear HPS
          rw [← stC_zero] at hC HVN
          obtain ⟨T2, hT2, hCT⟩ : ∃ T2, T2 = _ ∧ Cst w wr s ao k cap l (meetL [] roots) (.slice a' k c') (.slice va vn vcp) (.slice oa j ocp) (stC l (meetL [] roots) 0) (roots.map (mvW l (meetL [] roots))) y T2 := ⟨_, rfl, hC⟩
          have HT2 : Hid (T2 = _) := hT2
          obtain ⟨Oo, hOo⟩ : ∃ Oo, Oo = roots.map (mvW l (meetL [] roots)) := ⟨_, rfl⟩
          have HOo : Hid (Oo = roots.map (mvW l (meetL [] roots))) := hOo
          rw [← hOo] at hCT
          clear hT2 hC hOo
          go_wp2_with fail
          go_loopw [8, 12] (fun vc i wr => ∃ (nx t : Nat) (ps : List Nat) (va : Option Addr) (vn vcp : Nat) (y : Wrd), i = .int .i64 t ∧ vc = .slice va vn vcp ∧ Hid (Way l roots nx ps ∧ t = wrds l (ps.take nx) ∧ Dn l ps t ∧ meetL [] roots <+: ps) ∧ Hid (vn = (stC l ps t).length) ∧ Cst w wr s ao k cap l ps (.slice a' k c') (.slice va vn vcp) (.slice oa j ocp) (stC l ps t) Oo y T2) (fun _ i _ => 500001 - (intOf i).toNat)
          case atStart => exact ⟨0, 0, _, _, _, _, _, rfl, rfl, ⟨Way.start hrw, rfl, fun i x hi => absurd hi (Nat.not_lt_zero _), List.prefix_rfl⟩, HVN, hCT⟩
          case round =>
            clear hCT HVN
            obtain ⟨nx, t, ps, va, vn, vcp, y, rfl, rfl, HW, HVN, hC⟩ := hrel
            have hTe := HT2.out
            clear HT2
            subst hTe
            have hvb : vn ≤ 500000 := by have h1 := stC_bound (t := t) HW.out.1.1; have h2 := HVN.out; have h3 := HL.out; omega
            by_cases hlt : t < vn
            · have hlt2 : t < (stC l ps t).length := by have := HVN.out; omega
              obtain ⟨p, c, hp, hc⟩ := way_more HW.out.1 HW.out.2.1 hlt2
              obtain ⟨hLb, hse, x, hx, hcx⟩ := Lb.start HW.out.1 HW.out.2.1 hp hc HW.out.2.2.1
              have HLB : Hid (Lb l roots nx ps p c t 1 ps) := hLb
              have HPRE : Hid (meetL [] roots <+: ps) := HW.out.2.2.2
              have hc99 := cntH_le hcx
              obtain ⟨g, rfl, hgw, e0, e1⟩ := wors_at2 hC.ce t hx
              have K := l12Fields_any x wr
              have hci : cntI x = (c : Int) := by unfold cntI; rw [hcx]
              rw [hci] at K
              rw [hse] at hC HVN
              clear hci hcx hx hlt2 hse hLb HW hp hc
              go_wp2_with fail
              refine K.mono ?_
              rintro e w1 ⟨rfl, hb1⟩
              clear K e0 e1
              have hC1 := hC.below hb1
              obtain ⟨T3, hT3, hCT⟩ : ∃ T3, T3 = _ ∧ Cst w w1 s ao k cap l ps (.slice a' k c') (.slice (some ⟨g, 0, none⟩) vn vcp) (.slice oa j ocp) (stC l ps (t + 1)) Oo y T3 := ⟨_, rfl, hC1⟩
              have HT3 : Hid (T3 = _) := hT3
              clear hT3 hC hC1 hb1 hgw
              go_wp2_with fail
              go_loopw [8, 14] (fun vc i wr => ∃ (q : Nat) (qs : List Nat) (va : Option Addr) (vn vcp : Nat) (y : Wrd), i = .int .i64 q ∧ vc = .slice va vn vcp ∧ Hid (Lb l roots nx ps p c t q qs) ∧ Hid (vn = (stC l qs (t + q)).length) ∧ Cst w wr s ao k cap l qs (.slice a' k c') (.slice va vn vcp) (.slice oa j ocp) (stC l qs (t + q)) Oo y T3) (fun _ i _ => c + 1 - (intOf i).toNat)
              case atStart => exact ⟨1, ps, _, _, _, _, rfl, rfl, HLB, HVN, hCT⟩
              case round =>
                clear hCT HVN HLB
                obtain ⟨q, qs, va, vn, vcp, y, rfl, rfl, HLB, HVN, hC⟩ := hrel
                have hTe := HT3.out
                clear HT3
                subst hTe
                have hvb : vn ≤ 500000 := by have h1 := stC_bound (t := t + q) HLB.out.PL_; have h2 := HVN.out; have h3 := HL.out; omega
                have hq1 := HLB.out.one
                have hqc1 := HLB.out.le
                by_cases hqc : q ≤ c
                · obtain ⟨x, hRW, hx, hLb2, hs1, hs2⟩ := Lb.next hok HLB.out hqc
                  have hxl := (List.getElem?_eq_some_iff.1 hx).1
                  have htq : t + q < vn := by have := HVN.out; omega
                  have hx2 : (stC l (meet1 qs x) (t + q))[t + q]? = some x := by rw [← hs1, List.getElem?_append_left hxl, hx]
                  obtain ⟨g, rfl, hgw, e0, e1⟩ := wors_at2 hC.ce (t + q) hx
                  obtain ⟨f0, f1⟩ := cells2 hC.b2
                  have KM := cst_move hC.drew (x := x) hs hl hcap HLB.out.PL_ hRW HVN.out (by rw [stC_len, rawC_len HLB.out.PL_.ob]) (by have := HVN.out; omega)
                  rw [hs1] at KM
                  have HLB2 : Hid (Lb l roots nx ps p c t (q + 1) (meet1 qs x)) := hLb2
                  have HS2 : Hid (_ = _) := hs2
                  have HX2 : Hid (_ = _) := hx2
                  generalize mvW l (meet1 qs x) x = z at *
                  generalize meet1 qs x = qs2 at *
                  unfold vW at KM
                  clear hs1 hs2 hx hx2 hLb2 hRW hxl
                  have hwr : IntKind.i64.wrap ((t : Int) + (q : Int)) = (t : Int) + (q : Int) := by rw [IntKind.wrap_i64]; omega
                  have htn : ((t : Int) + (q : Int)).toNat = t + q := by omega
                  have hi0 : (0 : Int) ≤ (t : Int) + (q : Int) := by omega
                  have hi1 : (t : Int) + (q : Int) < (vn : Int) := by omega
                  go_wp2_with fail
                  go_region_law (go_simp; go_at_call 49; refine KM.mono ?_; rintro e W2 ⟨va2, vn2, vcp2, rfl, hn2, hC2⟩; have HVN2 : Hid (vn2 = (stC l qs2 (t + q)).length) := hn2; clear KM hn2; obtain ⟨n2, n3⟩ := cells2 hC2.b10; have n4 := row_free hC2.b10; have n5 := hC2.lt)
                  all_goals
                    clear n2 n3 n4 e0 e1 f0 f1
                    have hC3 := hC2.lay z
                    obtain ⟨m2, m3⟩ := cells2 hC3.b10
                    obtain ⟨g2, hva2, hg2w, c0, c1⟩ := wors_at2 hC3.ce (t + q) HX2.out
                    subst hva2
                    have c2 := wors_cells hC3.ce
                    have hlt3 : t + q < vn2 := by have h1 := (List.getElem?_eq_some_iff.1 HX2.out).1; have h2 := HVN2.out; omega
                    have hi2 : (t : Int) + (q : Int) < (vn2 : Int) := by omega
                    have hC4 := hC3.put (t + q) (by have h2 := HVN2.out; omega) z
                    rw [HS2.out] at hC4
                    have HVN4 : Hid (vn2 = (stC l qs2 (t + q + 1)).length) := by show _ = _; rw [HVN2.out, stC_len, stC_len]
                    clear hC2 hC3
                    go_wp2_with fail
                    go_roundw
                    case rel => exact ⟨q + 1, qs2, _, _, _, _, by go_num, rfl, HLB2, HVN4, hC4⟩
                    case measure => simp [intOf]; omega
                · obtain rfl : q = c + 1 := by omega
                  have HD := HLB.out.done hok
                  have HD1 : Hid (Way l roots (nx + 1) qs ∧ t + c + 1 = wrds l (qs.take (nx + 1)) ∧ Dn l qs (t + c + 1) ∧ meetL [] roots <+: qs) := ⟨HD.1, HD.2, HLB.out.dn, HPRE.out.trans HLB.out.pre⟩
                  clear HD
                  go_wp2_with fail
                  go_roundw
                  case rel => exact ⟨nx + 1, t + c + 1, qs, _, _, _, _, by go_num, rfl, HD1, HVN, hC⟩
                  case measure => simp [intOf]; omega
            · obtain ⟨hps, hst⟩ := way_over HW.out.1 HW.out.2.1 (by have := HVN.out; omega)
              have HPRE := HW.out.2.2.2
              have hPL := HW.out.1.1
              have hvn : vn = wrds l ps := by rw [HVN.out, stC_len, rawC_len hPL.ob]
              rw [hst] at hC
              rw [HOo.out, out_end HPRE] at hC
              subst hps
              obtain ⟨f0, f1⟩ := cells2 hC.b2
              obtain ⟨n2, n3⟩ := cells2 hC.b4
              have n4 := row_free hC.b4
              have n5 : w.heap.size + 1 < wr.heap.size := (Array.getElem?_eq_some_iff.1 hC.b4).1
              have FIN : Hid (∀ Z, Z = (wr.setCell ⟨w.heap.size + 1, 0, none⟩ (.int .i64 s)).setCell ⟨w.heap.size + 1, 1, none⟩ (.slice va vn vcp) →
                  Z.heap[w.heap.size + 1]? = some (.cells #[.int .i64 s, .slice va vn vcp] 26 (0, 0)) ∧ CoEnd w s l roots j (.returned (.tuple #[vH s va vn vcp, .slice oa j ocp])) Z ∧ Below w.heap.size w Z) := by
                intro Z hZ
                obtain ⟨z1, z2, z3, z4⟩ := lay_two hC.b4 (Nat.le_succ _) hC.bel (.int .i64 s) (.slice va vn vcp) Z hZ
                refine ⟨z1, ⟨va, vn, vcp, oa, ocp, rfl, hvn, wors_le (wors_keep hC.ce (fun q hq => z3 q (fun e => ?_))) (Nat.le_add_right _ 2), wors_le (wors_keep hC.ou (fun q hq => z3 q (fun e => ?_))) (Nat.le_add_right _ 2), hC.co⟩, z2⟩
                · have := (wors_own hC.ce hq).1; omega
                · have := (wors_own hC.ou hq).1; omega
              clear hvn HVN HW hst HPRE hPL
              go_wp2_with fail
              obtain ⟨z1, z2, z3⟩ := FIN.out _ rfl
              obtain ⟨j0, j1⟩ := cells2 z1
              refine bodyPost_ret (v := .tuple #[vH s va vn vcp, .slice oa j ocp]) (by simp [results, Try.results36, go_sem, j0, j1]) rfl ?_
              exact ⟨z2, z3⟩

end Go.Proofs.Ytkplfdckfbihcaa
