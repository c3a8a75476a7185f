/-
  The program's iterator 'objectsFrom': what it hands to the loop's body.
-/
import Derived.Test.YtapamdjoipofmaaDoorFcdMe
import Derived.Test.YtapamdjoipofmaaDoorFcdZ8
import Derived.Test.YtapamdjoipofmaaDoorFcdRf
import Derived.Test.YtapamdjoipofmaaDoorFcdHp
namespace Go.Proofs.YtapamdjoipofmaaDoor
open Go.RowKit Go.Shelf
set_option linter.unusedVariables false
set_option linter.unusedSimpArgs false

/-- What a round keeps: what lay below n₀, two boxes, and what is the iterator's own. -/
structure KpF (n₀ Bs1 Bs2 m₀ : Nat) (own : World → Option Nat) (A B : World) : Prop where
  bel : Below n₀ A B
  box1 : ∀ c t fr, A.heap[Bs1]? = some (.cells c t fr) → B.heap[Bs1]? = some (.cells c t fr)
  box2 : ∀ c t fr, A.heap[Bs2]? = some (.cells c t fr) → B.heap[Bs2]? = some (.cells c t fr)
  prv : ∀ k c t fr, m₀ ≤ k → A.heap[k]? = some (.cells c t fr) → own A ≠ some k → B.heap[k]? = some (.cells c t fr)
  new : ∀ k, own B = some k → own A = some k ∨ A.heap.size ≤ k
  lt : ∀ k, own B = some k → k < B.heap.size ∨ own A = some k
theorem KpF.trans {n₀ Bs1 Bs2 m₀ : Nat} {own : World → Option Nat} {A B C : World} (h : KpF n₀ Bs1 Bs2 m₀ own A B) (k : KpF n₀ Bs1 Bs2 m₀ own B C) : KpF n₀ Bs1 Bs2 m₀ own A C := by
  refine ⟨h.bel.trans k.bel, fun c t fr hc => k.box1 c t fr (h.box1 c t fr hc), fun c t fr hc => k.box2 c t fr (h.box2 c t fr hc), fun i c t fr hi hc hne => k.prv i c t fr hi (h.prv i c t fr hi hc hne) (fun e => ?_), fun i hi => ?_, fun i hi => ?_⟩
  · rcases h.new i e with e | e
    · exact hne e
    · have := (Array.getElem?_eq_some_iff.1 hc).1
      omega
  · rcases k.new i hi with e | e
    · exact h.new i e
    · exact Or.inr (Nat.le_trans h.bel.size e)
  · rcases k.lt i hi with e | e
    · exact Or.inl e
    · rcases h.lt i e with e | e
      · exact Or.inl (Nat.lt_of_lt_of_le e k.bel.size)
      · exact Or.inr e

attribute [local go_sem] Oper.semAt_some

/-- What is known between two rounds. -/
structure Ost (n₀ Bs1 Bs2 m : Nat) (own : World → Option Nat) (W wr : World) (l roots : List Wrd) (nx : Nat) (ps : List Nat) (v : Value) : Prop where
  bel : Below n₀ W wr
  box1 : ∀ c t fr, W.heap[Bs1]? = some (.cells c t fr) → wr.heap[Bs1]? = some (.cells c t fr)
  box2 : ∀ c t fr, W.heap[Bs2]? = some (.cells c t fr) → wr.heap[Bs2]? = some (.cells c t fr)
  st : Mst m wr l.length ps v
  own : ∀ k, own wr = some k → m + 3 ≤ k ∧ k < wr.heap.size ∧ v.ownBlock ≠ some k
  way : Way l roots nx ps

theorem Ost.prv {n₀ Bs1 Bs2 m : Nat} {own : World → Option Nat} {W wr wr' : World} {l roots : List Wrd} {nx : Nat} {ps : List Nat} {v v' : Value} (h : Ost n₀ Bs1 Bs2 m own W wr l roots nx ps v) (hC : Chg m v v' wr wr') (hO : own wr' = own wr) : Prv m own wr wr' := by
  have hm := h.st.b5.lt
  refine ⟨hC.os, hC.tape, hC.output, hC.size, fun k hk => hC.block k (by omega) (by omega) (by omega) (fun e => by have := (h.st.own e).1; omega), fun k hk => ?_, hO⟩
  obtain ⟨h1, h2, h3⟩ := h.own k hk
  exact hC.block k h2 (by omega) (by omega) h3
theorem Ost.prv_low {n₀ Bs1 Bs2 m : Nat} {own : World → Option Nat} {W wr wr' : World} {l roots : List Wrd} {nx : Nat} {ps : List Nat} {v v' : Value} (h : Ost n₀ Bs1 Bs2 m own W wr l roots nx ps v) (hC : Chg m v v' wr wr') : ∀ k, k < m → wr'.heap[k]? = wr.heap[k]? := by
  have hm := h.st.b5.lt
  exact fun k hk => hC.block k (by omega) (by omega) (by omega) (fun e => by have := (h.st.own e).1; omega)
theorem Ost.chg {n₀ Bs1 Bs2 m : Nat} {own : World → Option Nat} {W wr wr' : World} {l roots : List Wrd} {nx nx' : Nat} {ps ps' : List Nat} {v v' : Value} (h : Ost n₀ Bs1 Bs2 m own W wr l roots nx ps v) (hC : Chg m v v' wr wr') (hn : n₀ ≤ m) (hb1 : Bs1 < m) (hb2 : Bs2 < m) (hO : own wr' = own wr) (hM : Mst m wr' l.length ps' v') (hW : Way l roots nx' ps') : Ost n₀ Bs1 Bs2 m own W wr' l roots nx' ps' v' := by
  have hp := h.prv hC hO
  have hm := h.st.b5.lt
  refine ⟨h.bel.trans ⟨hC.os, hC.tape, hC.output, hC.size, fun k hk => hp.low k (by omega)⟩, fun c t fr hc => (hp.low Bs1 hb1).trans (h.box1 c t fr hc), fun c t fr hc => (hp.low Bs2 hb2).trans (h.box2 c t fr hc), hM, fun k hk => ?_, hW⟩
  rw [hO] at hk
  obtain ⟨h1, h2, h3⟩ := h.own k hk
  refine ⟨h1, Nat.lt_of_lt_of_le h2 hC.size, fun e => ?_⟩
  rcases hC.new k e with e | e
  · exact h3 e
  · omega
theorem Ost.body {n₀ Bs1 Bs2 m m₀ : Nat} {own : World → Option Nat} {W wr wr' : World} {l roots : List Wrd} {nx : Nat} {ps : List Nat} {v : Value} (h : Ost n₀ Bs1 Bs2 m own W wr l roots nx ps v) (hK : KpF n₀ Bs1 Bs2 m₀ own wr wr') (hm₀ : m₀ ≤ m) : Ost n₀ Bs1 Bs2 m own W wr' l roots nx ps v := by
  have hm := h.st.b5.lt
  have no : ∀ k, m₀ ≤ k → (k < m + 3 ∨ v.ownBlock = some k) → own wr ≠ some k := fun k _ hk e => by
    obtain ⟨h1, h2, h3⟩ := h.own k e
    rcases hk with hk | hk
    · omega
    · exact h3 hk
  refine ⟨h.bel.trans hK.bel, fun c t fr hc => hK.box1 c t fr (h.box1 c t fr hc), fun c t fr hc => hK.box2 c t fr (h.box2 c t fr hc), ⟨?_, ?_, ?_, ?_⟩, fun k hk => ?_, h.way⟩
  · exact hK.prv _ _ _ _ (by omega) h.st.b4 (no _ (by omega) (Or.inl (by omega)))
  · exact hK.prv _ _ _ _ (by omega) h.st.met (no _ (by omega) (Or.inl (by omega)))
  · exact hK.prv _ _ _ _ (by omega) h.st.b5 (no _ (by omega) (Or.inl (by omega)))
  · refine nums_keep h.st.row (fun g hg => ?_)
    have hg1 := (h.st.own hg).1
    rcases h.st.row.2 with ⟨e, _⟩ | ⟨g', cap, cur, e, _, hh, _⟩
    · subst e; cases hg
    · have e2 : g' = g := by rw [e] at hg; simpa [Value.ownBlock] using hg
      subst e2
      rw [hh]
      exact hK.prv _ _ _ _ (by omega) hh (no _ (by omega) (Or.inr hg))
  · rcases hK.new k hk with e | e
    · obtain ⟨h1, h2, h3⟩ := h.own k e
      exact ⟨h1, Nat.lt_of_lt_of_le h2 hK.bel.size, h3⟩
    · refine ⟨by omega, ?_, fun e' => by have := (h.st.own e').2; omega⟩
      rcases hK.lt k hk with e2 | e2
      · exact e2
      · have := (h.own k e2).2.1
        omega

set_option maxRecDepth 100000 in
set_option maxHeartbeats 4000000 in
theorem objFrom1_in (n : Nat) (hn : 1 ≤ n) (y Bs1 Bs2 n₀ m₀ len cap nr cr : Nat) (ao ar : Option Addr) (s : Int) (l roots : List Wrd) (own : World → Option Nat) (hok : okH s l = true) (hm : len ≤ 1048576) (hcap : len ≤ cap) (hnr : nr ≤ 1048576) (hrw : ∀ x ∈ roots, RW l x) (J Jx : List (OB l) → World → Prop)
    (hY : ∀ pre x W, J pre W → pre.length < len → YieldAt Fence.wide (n - 1) Tryd.prog y (encO ao x) W fun e W' =>
      (e = .returned (.bool true) ∧ J (pre ++ [x]) W' ∧ KpF n₀ Bs1 Bs2 m₀ own W W') ∨ (e = .returned (.bool false) ∧ Jx (pre ++ [x]) W'))
    (W : World) (hm₀ : m₀ ≤ W.heap.size) (hOd : ∀ A B : World, (∀ k, k < m₀ → B.heap[k]? = A.heap[k]?) → own B = own A) (hOn : own W = none)
    (hB1 : W.heap[Bs1]? = some (.cells #[.slice ao len cap] 24 (0, 0))) (hB2 : W.heap[Bs2]? = some (.cells #[.slice ar nr cr] 24 (0, 0))) (hc : Ws 0 n₀ W ao len l) (hr : Ws 0 n₀ W ar nr roots) (hn₀ : n₀ ≤ W.heap.size) (hJa : AbP W.heap.size own J) (h0 : J [] W) :
    CallsIn Fence.wide n Tryd.prog 33 #[.func (.yield y) #[] #[], .pointer (some ⟨Bs1, 0, none⟩), .pointer (some ⟨Bs2, 0, none⟩)] W fun e W' => (∃ v, e = .returned v) ∧
      ((∃ ys, prs ys = (plc l roots).map (objL l) ∧ J ys W') ∨ (∃ pre, prs pre <+: (plc l roots).map (objL l) ∧ Jx pre W')) := by
  have HL : Hid (len = l.length) := hc.1
  obtain ⟨C, hmk, hC⟩ := make_bools 39 Tryd.underlying39 len hm W
  obtain ⟨X, hX⟩ : ∃ X, X = ((W.alloc (.cells C 4)).alloc (.cells #[.slice (some ⟨W.heap.size, 0, none⟩) len len] 39)).alloc (.cells #[.slice none 0 0] 47) := ⟨_, rfl⟩
  have hXs : X.heap.size = W.heap.size + 3 := by rw [hX]; simp
  have hXb : Below W.heap.size W X := by rw [hX]; exact (((Below.refl _ _).alloc (Nat.le_refl _) _).alloc (by simp) _).alloc (by simp; omega) _
  have hM0 : Mst W.heap.size X l.length [] (.slice none 0 0) := by
    refine ⟨?_, ?_, ?_, ?_⟩
    · unfold Blk
      rw [hX, Below.heap_alloc _ _ _ (by simp), ← HL.out]
      exact heap_new (by simp)
    · unfold BRow
      rw [hX, Below.heap_alloc _ _ _ (by simp; omega), Below.heap_alloc _ _ _ (by simp), ← HL.out]
      have e : metB len [] = List.replicate len false := by
        apply List.ext_getElem
        · simp [metB]
        · intro i h1 h2; simp [metB]
      rw [e, ← hC]
      exact heap_new rfl
    · unfold Blk
      rw [hX]
      exact heap_new (by simp)
    · exact ⟨rfl, Or.inl ⟨rfl, rfl⟩⟩
  have hOX : own X = none := (hOd W X (fun k hk => hXb.block k (by omega))).trans hOn
  have hPX : Prv W.heap.size own W X := ⟨hXb.os, hXb.tape, hXb.output, hXb.size, fun k hk => hXb.block k hk, (fun k hk => absurd (hOn.symm.trans hk) (by simp)), hOX.trans hOn.symm⟩
  have hJX := hJa [] W X h0 hPX
  have hlb1 := (Array.getElem?_eq_some_iff.1 hB1).1
  have hlb2 := (Array.getElem?_eq_some_iff.1 hB2).1
  have b1 := row_cell hB1 0
  have b2 := row_cell hB2 0
  have hlb2a : Bs2 < W.heap.size + 1 := by omega
  have hlb2b : Bs2 < W.heap.size + 1 + 1 := by omega
  have K0 := meet_any 0 n₀ W.heap.size ar nr cr roots l [] (.slice none 0 0) X hn₀ (hr.keep (fun k _ hk => hXb.block k (by omega)) (Nat.le_refl _) (Nat.le_refl _)) hnr (by have := HL.out; omega) hrw ⟨List.nodup_nil, fun p hp => by cases hp⟩ hM0
  have HX : Hid (X = _) := hX
  clear hC hX
  refine callsIn_of_wp Tryd.func33 rfl trivial ?_ rfl
  simp only [Tryd.ntmps33, List.size_toArray, List.length_cons, List.length_nil, Nat.reduceAdd, Nat.reduceSub, Array.replicate_succ, Array.replicate_zero, List.push_toArray, List.append_toArray, List.nil_append, List.cons_append]
  gi_wp2_with fail
  rw [← HX.out]
  refine ⟨trivial, (callsIn_wide.2 K0).mono ?_⟩
  rintro e w1 ⟨⟨u0, rfl⟩, v1, hM1, hC1⟩
  clear K0 b1 b2
  have hO1 : own w1 = own X := hOd X w1 (fun k hk => hC1.block k (by omega) (by omega) (by omega) (fun e => by cases e))
  have hlow1 : ∀ k, k < W.heap.size → w1.heap[k]? = X.heap[k]? := fun k hk => hC1.block k (by omega) (by omega) (by omega) (fun e => by cases e)
  have hO1n : own w1 = none := hO1.trans hOX
  have hJ1 := hJa [] X w1 hJX ⟨hC1.os, hC1.tape, hC1.output, hC1.size, hlow1, (fun k hk => absurd (hOX.symm.trans hk) (by simp)), hO1⟩
  have hS1 : Ost n₀ Bs1 Bs2 W.heap.size own W w1 l roots 0 (meetL [] roots) v1 :=
    ⟨(hXb.mono hn₀).trans ⟨hC1.os, hC1.tape, hC1.output, hC1.size, fun k hk => hlow1 k (by omega)⟩, fun c t fr h => (hlow1 _ hlb1).trans ((hXb.block _ hlb1).trans h), fun c t fr h => (hlow1 _ hlb2).trans ((hXb.block _ hlb2).trans h), hM1, (fun k hk => absurd (hO1n.symm.trans hk) (by simp)), Way.start hrw⟩
  clear hO1 hO1n hOX hPX hJX hM0 hM1 hC1 hlow1 hXb hXs HX
  gi_wp2_with fail
  gi_loopw [7] (fun i wr => ∃ (nx : Nat) (ps : List Nat) (v : Value) (pre : List (OB l)), i = .int .i64 nx ∧ nx ≤ len ∧ Hid (prs pre = (ps.take nx).map (objL l)) ∧ J pre wr ∧ Ost n₀ Bs1 Bs2 W.heap.size own W wr l roots nx ps v) (fun i _ => len - (intOf i).toNat)
  case atStart => exact ⟨0, _, _, [], rfl, by omega, rfl, hJ1, hS1⟩
  case round =>
    obtain ⟨nx, ps, v, pre, rfl, hnx, HPR, hJ, hS⟩ := hrel
    obtain ⟨ua, uc, hu⟩ := nums_form hS.st.row
    rw [intsN_len] at hu
    obtain ⟨nq, hnq⟩ : ∃ nq, ps.length = nq := ⟨_, rfl⟩
    have HQ : Hid (ps.length = nq) := hnq
    rw [hnq] at hu
    subst hu
    clear hnq
    have hnql : nq ≤ len := by have := hS.way.1.len; have := HL.out; have := HQ.out; omega
    have c5 := row_cell (show wr.heap[W.heap.size + 1 + 1]? = _ from hS.st.b5) 0
    have c1 := row_cell (hS.box1 _ _ _ hB1) 0
    by_cases hlt : nx < nq
    · have hltp : nx < ps.length := by have := HQ.out; omega
      obtain ⟨p, hp⟩ : ∃ p, ps[nx]? = some p := ⟨_, List.getElem?_eq_getElem hltp⟩
      obtain ⟨c, hall, hob⟩ := hS.way.1.2 p (List.mem_of_getElem? hp)
      obtain ⟨hpl, _, hpc⟩ := ob_some hob
      have HOL : Hid (objL l p = (p, c)) := by show _ = _; unfold objL; rw [hob]; rfl
      have hplen : p < len := by have := HL.out; omega
      obtain ⟨b, o, rfl, _, hbn, _⟩ := hc.2.2 p hpl
      have hWr : Ws 0 n₀ wr (some ⟨b, o, none⟩) len l := hc.keep (fun k _ hk => hS.bel.block k hk) (Nat.le_refl _) (Nat.le_refl _)
      have hnwr : n₀ ≤ wr.heap.size := Nat.le_trans hn₀ (by have := hS.st.b5.lt; omega)
      have K1 : Calls Tryd.prog 35 #[.slice (some ⟨b, o, none⟩) len cap, .int .i64 p] wr.drew fun e w' => e = .returned (.tuple #[.slice (some ⟨b, o + p * 2, none⟩) (c + 1) (c + 1), .bool true]) ∧ Below wr.drew.heap.size wr.drew w' := by
        refine (objectAt_any 0 n₀ _ len cap l p wr.drew hnwr hWr.drew hm hcap hplen).mono ?_
        rw [hob]
        rintro e w' ⟨⟨b', o', e1, e2⟩, hb⟩
        injection e1 with e1
        injection e1 with e3 e4
        subst e3 e4
        exact ⟨e2, hb⟩
      obtain ⟨g, cp, e, hg, hgw, hgc⟩ := nums_at hS.st.row nx (by rw [intsN_len]; exact hltp)
      have hpi : (intsN ps)[nx]'(by rw [intsN_len]; exact hltp) = (p : Int) := by
        have e2 := (List.getElem?_eq_some_iff.1 hp).2
        simp only [intsN, List.getElem_map, e2]
      rw [hpi, Nat.zero_add] at hgc
      unfold ik at hgc
      injection e with e1 e2 e3
      subst e1
      clear e2 e3 hpi
      have hprl : pre.length < len := by have h := congrArg List.length HPR.out; rw [prs_len, List.length_map, List.length_take] at h; have := HQ.out; omega
      have HPS : Hid (prs (pre ++ [(⟨(p, c), hob⟩ : OB l)]) = (ps.take (nx + 1)).map (objL l)) := by
        show _ = _
        rw [prs_snoc, HPR.out, List.take_add_one, hp, List.map_append]
        simp [HOL.out]
      have HWN : Hid (Way l roots (nx + 1) (meetL ps (flds l (p, c)))) := by have h := hS.way.next hok hp; rw [HOL.out] at h; exact h
      have HRW : Hid (∀ x ∈ flds l (p, c), RW l x) := okH_flds hok hall
      have HPX : Hid (prs (pre ++ [(⟨(p, c), hob⟩ : OB l)]) <+: (plc l roots).map (objL l)) := by
        show _ <+: _
        rw [HPS.out]
        exact ((List.take_prefix _ _).trans hS.way.pre).map _
      have HTK : Hid ((meetL ps (flds l (p, c))).take (nx + 1) = ps.take (nx + 1)) := by
        show _ = _
        obtain ⟨t, ht⟩ := meetL_pre (flds l (p, c)) ps
        rw [← ht, List.take_append_of_le_length (by omega)]
      gi_wp2_with fail
      gi_region_with (refine And.intro trivial ?_; gi_at_call 35; refine (callsIn_wide.2 K1).mono ?_; rintro e w2 ⟨rfl, hb2⟩)
      all_goals
        have hb2' : Below wr.heap.size wr w2 := ⟨hb2.os, hb2.tape, hb2.output, hb2.size, hb2.block⟩
        have hO2 : own w2 = own wr := hOd wr w2 (fun k hk => hb2'.block k (by have := hS.st.b5.lt; omega))
        have hS2 := hS.chg (Chg.of_below hb2') hn₀ hlb1 hlb2 hO2 (hS.st.bel hb2') hS.way
        have hJ2 := hJa pre wr w2 hJ (hS.prv (Chg.of_below hb2') hO2)
        have c5' := row_cell (show w2.heap[W.heap.size + 1 + 1]? = _ from hS2.st.b5) 0
        have hgc' := (bcell hb2' hgw nx).trans hgc
        obtain ⟨fn, tmps, assign, body, hy, hR⟩ := hY pre ⟨(p, c), hob⟩ w2 hJ2 hprl
        dsimp only [encO, shf, Option.map] at hy
        clear K1 c5 c1 hgc
        gi_wp2_with fail
        refine hR.mono ?_
        rintro e W3 (⟨rfl, hJ3, hK3⟩ | ⟨rfl, hJx3⟩)
        · have hS3 := hS2.body hK3 hm₀
          have hwf := ws_cut (hc.keep (w' := W3) (fun k _ hk => hS3.bel.block k hk) (Nat.le_refl _) (Nat.le_refl _)) hob
          obtain ⟨adr, hadr⟩ : ∃ adr, (if c = 0 then some (⟨b, o + p * 2, none⟩ : Addr) else some ⟨b, o + p * 2 + 2, none⟩) = adr := ⟨_, rfl⟩
          rw [hadr] at hwf
          have hc1 : 1 ≤ c + 1 := by omega
          have hc2 : (1 : Int) ≤ (c : Int) + 1 := by omega
          have hc9 : c ≤ 1048576 := by have := HL.out; omega
          have K3 := meet_any 0 n₀ W.heap.size adr c c (flds l (p, c)) l ps _ W3 hn₀ hwf hc9 (by have := HL.out; omega) HRW.out hS3.way.1 hS3.st
          clear hy hR
          gi_wp2_with fail
          refine ⟨trivial, (callsIn_wide.2 K3).mono ?_⟩
          rintro e W4 ⟨⟨u4, rfl⟩, v4, hM4, hC4⟩
          have hO4 : own W4 = own W3 := hOd W3 W4 (fun k hk => (hS3.prv_low hC4) k (by omega))
          have hS4 := hS3.chg hC4 hn₀ hlb1 hlb2 hO4 hM4 HWN.out
          have hJ4 := hJa _ W3 W4 hJ3 (hS3.prv hC4 hO4)
          clear K3 hadr
          gi_wp2_with fail
          go_roundw
          case rel => exact ⟨nx + 1, _, v4, pre ++ [⟨(p, c), hob⟩], by go_num, by omega, (by show _ = _; rw [HTK.out]; exact HPS.out), hJ4, hS4⟩
          case measure => simp [intOf]; omega
        · gi_wp2_with fail
          refine bodyPost_ret (results_none rfl _ _ _) rfl ?_
          exact ⟨⟨_, rfl⟩, .inr ⟨_, HPX.out, hJx3⟩⟩
    · have hpn : ps[nx]? = none := List.getElem?_eq_none (by have := HQ.out; omega)
      have HD : Hid (prs pre = (plc l roots).map (objL l)) := by show _ = _; rw [HPR.out, ← hS.way.done hpn, List.take_of_length_le (by have := HQ.out; omega)]
      gi_wp2_with fail
      go_end0
      exact ⟨⟨_, rfl⟩, .inl ⟨_, HD.out, hJ⟩⟩

set_option maxHeartbeats 1000000 in
theorem objFrom_in (n : Nat) (a : Option Addr) (len cap : Nat) (a2 : Option Addr) (l2 c2 : Nat) (w : World) :
    CallsIn Fence.wide n Tryd.prog 19 #[.slice a len cap, .slice a2 l2 c2] w fun e w' => e = .returned (.func (.func 33) #[] #[.pointer (some ⟨w.heap.size, 0, none⟩), .pointer (some ⟨w.heap.size + 1, 0, none⟩)]) ∧ w' = (w.alloc (.cells #[.slice a len cap] 24)).alloc (.cells #[.slice a2 l2 c2] 24) := by
  refine callsIn_of_wp Tryd.func19 rfl trivial ?_ rfl
  simp only [Tryd.ntmps19, List.size_toArray, List.length_cons, List.length_nil, Nat.reduceAdd, Nat.reduceSub, Array.replicate_succ, Array.replicate_zero, List.push_toArray, List.append_toArray, List.nil_append, List.cons_append]
  gi_wp2
  go_ret
  exact ⟨rfl, rfl⟩

theorem objFrom_seq (n : Nat) (hn : 1 ≤ n) (Bs1 Bs2 n₀ len cap nr cr : Nat) (ao ar : Option Addr) (s : Int) (l roots : List Wrd) (own : World → Option Nat) (hok : okH s l = true) (hm : len ≤ 1048576) (hcap : len ≤ cap) (hnr : nr ≤ 1048576) (hrw : ∀ x ∈ roots, RW l x) (w : World) (hn₀ : n₀ ≤ w.heap.size) (hOd : ∀ A B : World, (∀ k, k < w.heap.size → B.heap[k]? = A.heap[k]?) → own B = own A)
    (hB1 : w.heap[Bs1]? = some (.cells #[.slice ao len cap] 24 (0, 0))) (hB2 : w.heap[Bs2]? = some (.cells #[.slice ar nr cr] 24 (0, 0))) (hc : Ws 0 n₀ w ao len l) (hr : Ws 0 n₀ w ar nr roots) :
    SeqP n Tryd.prog 33 #[.pointer (some ⟨Bs1, 0, none⟩), .pointer (some ⟨Bs2, 0, none⟩)] (encO ao (l := l)) (KpF n₀ Bs1 Bs2 w.heap.size own) own (fun ys => prs ys = (plc l roots).map (objL l)) (fun pre => prs pre <+: (plc l roots).map (objL l)) len w := fun y J Jx W hW hOn hJa _ hY h0 =>
  objFrom1_in n hn y Bs1 Bs2 n₀ w.heap.size len cap nr cr ao ar s l roots own hok hm hcap hnr hrw J Jx hY W hW.size hOd hOn ((hW.block Bs1 (Array.getElem?_eq_some_iff.1 hB1).1).trans hB1) ((hW.block Bs2 (Array.getElem?_eq_some_iff.1 hB2).1).trans hB2) (hc.keep (fun k _ hk => hW.block k (by omega)) (Nat.le_refl _) (Nat.le_refl _)) (hr.keep (fun k _ hk => hW.block k (by omega)) (Nat.le_refl _) (Nat.le_refl _)) (Nat.le_trans hn₀ hW.size) hJa h0

end Go.Proofs.YtapamdjoipofmaaDoor
