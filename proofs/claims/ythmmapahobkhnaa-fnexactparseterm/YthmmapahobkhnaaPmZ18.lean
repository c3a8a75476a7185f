/-
  Rows that are appended to, where what lies between was made by calls that write into older blocks too (a cursor).
-/
import Derived.Test.YthmmapahobkhnaaPmZ16
import Derived.Test.YthmmapahobkhnaaPmZ17
import Derived.Test.YthmmapahobkhnaaPmSr2
namespace Go.Proofs.Ythmmapahobkhnaa
open Go.RowKit
set_option linter.unusedVariables false
set_option linter.unusedSimpArgs false

/-- From block 'base' on nothing that was there has turned. -/
structure Sm (base : Nat) (w w' : World) : Prop where
  size : w.heap.size ≤ w'.heap.size
  block : ∀ k, base ≤ k → k < w.heap.size → w'.heap[k]? = w.heap[k]?
theorem Sm.alloc {base : Nat} {w w' : World} (h : Sm base w w') (o : Obj) : Sm base w (w'.alloc o) :=
  ⟨Nat.le_trans h.size (by simp), fun k hk hk' => (Below.heap_alloc _ _ _ (Nat.lt_of_lt_of_le hk' h.size)).trans (h.block k hk hk')⟩
theorem Sm.grown {base p : Nat} {w w' : World} (h : w.grownBy w' (some p)) (hp : p < base) : Sm base w w' := ⟨h.size, fun k hk hk' => h.block k hk' (by simp; omega)⟩
theorem Sm.drew {base : Nat} {w w' : World} (h : Sm base w.drew w') : Sm base w w' := ⟨h.size, h.block⟩

/-- Below block 'base' nothing has turned. -/
structure Lo (base : Nat) (w w' : World) : Prop where
  os : w'.os = w.os
  tape : w'.tape = w.tape
  output : w'.output = w.output
  size : w.heap.size ≤ w'.heap.size
  block : ∀ k, k < base → w'.heap[k]? = w.heap[k]?

theorem ap_moved {base : Nat} {wr w1 : World} {d : Nat} {v : Value} {k : Nat} {ts : List Tr} (h : ApRel base wr d v k ts) (hb : Sm base wr w1) : ApRel base w1 d v k ts := by
  have hbk := fun g hg => ap_block h (g := g) hg
  obtain ⟨xs, hown, bss, hbl, hnd, hrng, hE⟩ := h.own
  refine ⟨xs, ?_, bss, hbl, hnd, fun b hb' => ⟨(hrng b hb').1, Nat.lt_of_lt_of_le (hrng b hb').2.1 hb.size, (hrng b hb').2.2⟩, fun i hi hi' => ?_⟩
  · refine ⟨hown.1, ?_⟩
    rcases hown.2 with hn | ⟨g, cap, cur, rfl, hg, hh, r⟩
    · exact Or.inl hn
    · exact Or.inr ⟨g, cap, cur, rfl, hg, (hb.block g (hbk g rfl).1 (hbk g rfl).2).trans hh, r⟩
  · obtain ⟨ao, len, cap, c0, c1, c2, hh⟩ := hE i hi hi'
    exact ⟨ao, len, cap, c0, c1, c2, hh.keep fun b hb' => hb.block b (hrng b (mem_part hi hb')).1 (hrng b (mem_part hi hb')).2.1⟩

/-- One append more: X is the world in which it is made (the element laid in a block of its own), w2 what it leaves. -/
theorem ap_next2 {base : Nat} {wr X w2 : World} {d : Nat} {v : Value} {k : Nat} {ts : List Tr} (h : ApRel base wr d v k ts) (hk : k < ts.length) (hX : Sm base wr X) (hbase : base ≤ wr.heap.size) {ao1 : Option Addr} {len1 cap1 : Nat}
    (hs : OwR wr.heap.size X.heap.size X d ao1 len1 ts[k].A) {g cap : Nat} {xs : List Value} (hxs : wr.ownsRow base 24 3 v k xs)
    (hown : w2.ownsRow base 24 3 (.slice (some ⟨g, 0, none⟩) (k + 1) cap) (k + 1) (xs ++ [.int .i64 ts[k].K, .int .i64 ts[k].N, .slice ao1 len1 cap1])) (hgrow : X.grownBy w2 v.ownBlock) (hat : v.ownBlock = some g ∨ g = X.heap.size) :
    ApRel base w2 d (.slice (some ⟨g, 0, none⟩) (k + 1) cap) (k + 1) ts := by
  have hbk := fun g hg => ap_block h (g := g) hg
  have hsz := hX.size
  obtain ⟨xs', hown', bss, hbl, hnd, hrng, hE⟩ := h.own
  have hxx : xs' = xs := by
    rcases hown'.2 with ⟨hv, hn⟩ | ⟨g1, cap1', cur1, hv, _, hh, _, _, _, ht⟩
    · have h1 := hown'.1
      have h2 := hxs.1
      rw [hn] at h1 h2
      simp at h1 h2
      rw [h1, h2]
    · rcases hxs.2 with ⟨hv2, _⟩ | ⟨g2, cap2, cur2, hv2, _, hh2, _, _, _, ht2⟩
      · rw [hv] at hv2; cases hv2
      · rw [hv] at hv2
        cases hv2
        rw [hh] at hh2
        cases hh2
        rw [← ht, ← ht2]
  subst hxx
  have hlx : xs'.length = k * 3 := hown'.1
  obtain ⟨bs, ho, hnd2, hrng2⟩ := hs
  have keepOld : ∀ b, b < X.heap.size → v.ownBlock ≠ some b → w2.heap[b]? = X.heap[b]? := fun b hb hne => hgrow.block b hb (fun e => hne e.symm)
  have hnew : ∀ b ∈ bs, v.ownBlock ≠ some b := fun b hb e => by have h1 := (hbk b e).2; have h2 := (hrng2 b hb).1; omega
  refine ⟨_, hown, bss ++ [bs], by simp [hbl], nodup_snoc hnd hnd2 (fun b hb' => (hrng b hb').2.1) (fun b hb' => (hrng2 b hb').1), ?_, ?_⟩
  · intro b hb'
    rw [List.flatten_append, List.mem_append] at hb'
    have hg2 := hgrow.size
    rcases hb' with hb' | hb'
    · obtain ⟨h1, h2, h3⟩ := hrng b hb'
      refine ⟨h1, by omega, ?_⟩
      simp only [Value.ownBlock]
      intro e
      have e' : g = b := by simpa using e
      subst e'
      rcases hat with hat | hat
      · exact h3 hat
      · omega
    · have hb2 := hrng2 b (by simpa using hb')
      refine ⟨by omega, by omega, ?_⟩
      simp only [Value.ownBlock]
      intro e
      have e' : g = b := by simpa using e
      subst e'
      rcases hat with hat | hat
      · have := (hbk g hat).2; omega
      · omega
  · intro i hi hi'
    by_cases hik : i = k
    · subst hik
      refine ⟨ao1, len1, cap1, ?_, ?_, ?_, ?_⟩
      · rw [List.getElem?_append_right (by omega), hlx]; simp
      · rw [List.getElem?_append_right (by omega), hlx]; simp [Nat.add_sub_cancel_left]
      · rw [List.getElem?_append_right (by omega), hlx]; simp [Nat.add_sub_cancel_left]
      · have e : (bss ++ [bs])[i] = bs := by simp [List.getElem_append_right, hbl]
        rw [e]
        exact ho.keep fun b hb' => keepOld b (hrng2 b hb').2 (hnew b hb')
    · have hik' : i < bss.length := by simp at hi; omega
      obtain ⟨ao', len', cap', c0, c1, c2, hh⟩ := hE i hik' hi'
      refine ⟨ao', len', cap', ?_, ?_, ?_, ?_⟩
      · rw [List.getElem?_append_left (by omega)]; exact c0
      · rw [List.getElem?_append_left (by omega)]; exact c1
      · rw [List.getElem?_append_left (by omega)]; exact c2
      · have e : (bss ++ [bs])[i] = bss[i] := by simp [List.getElem_append_left, hik']
        rw [e]
        refine hh.keep fun b hb' => ?_
        obtain ⟨h1, h2, h3⟩ := hrng b (mem_part hik' hb')
        rw [keepOld b (by omega) h3]
        exact hX.block b h1 h2

/-- One element more appended to it: what the run of 'append' gives, w1 being the world behind the call that made the element. -/
theorem ap_run2 {base : Nat} {wr w1 : World} {d : Nat} {v : Value} {k : Nat} {ts : List Tr} (h : ApRel base wr d v k ts) (hk : k < ts.length) (hk2 : ts.length ≤ 1048576) (hb : Sm base wr w1) (hbase : base ≤ wr.heap.size) {ao1 : Option Addr} {len1 cap1 : Nat}
    (ho : OwR wr.heap.size w1.heap.size w1 d ao1 len1 ts[k].A) :
    ∃ g cap w2, (Builtin.append_ #[22, 22] 22 #[v, .slice (some ⟨w1.heap.size, 0, none⟩) 1 1]).run Try.prog (w1.alloc (.cells #[.int .i64 ts[k].K, .int .i64 ts[k].N, .slice ao1 len1 cap1] 24)) = .ok (.slice (some ⟨g, 0, none⟩) (k + 1) cap) w2 ∧
      ApRel base w2 d (.slice (some ⟨g, 0, none⟩) (k + 1) cap) (k + 1) ts ∧ Lo base w1 w2 := by
  obtain ⟨i0, hi, hz0, hz1, hz2⟩ := info_parts Try.infoTy3
  have hX : Sm base wr (w1.alloc (.cells #[.int .i64 ts[k].K, .int .i64 ts[k].N, .slice ao1 len1 cap1] 24)) := hb.alloc _
  have h1 := ap_moved h hX
  obtain ⟨xs, hown, _⟩ := h1.own
  obtain ⟨xs0, hown0, _⟩ := h.own
  have hsz := hb.size
  obtain ⟨g, cap, w2, hrun, hown2, hgrow, hat, hlt⟩ := run_append_lies (P := Try.prog) (w1.alloc (.cells #[.int .i64 ts[k].K, .int .i64 ts[k].N, .slice ao1 len1 cap1] 24)) 22 22 base 24 i0 _ 3 40 Try.underlying22 hi hz0 hz1 hz2 rfl (by omega) v k xs hown
    ⟨w1.heap.size, 0, none⟩ 1 1 [.int .i64 ts[k].K, .int .i64 ts[k].N, .slice ao1 len1 cap1] rfl (World.news_of_block (cs := #[.int .i64 ts[k].K, .int .i64 ts[k].N, .slice ao1 len1 cap1]) (t := 24) (fr := (0, 0)) (heap_alloc_new w1 _)) (by simp [Value.oneCell'])
    (by omega) (by unfold maxLen; omega) (by omega) (by simp; omega) _ rfl
  refine ⟨g, cap, w2, hrun, ?_, ?_⟩
  · have hxx : xs = xs0 := by
      rcases hown.2 with ⟨hv, hn⟩ | ⟨g1, cap1', cur1, hv, _, hh, _, _, _, ht⟩
      · have q1 := hown.1
        have q2 := hown0.1
        rw [hn] at q1 q2
        simp at q1 q2
        rw [q1, q2]
      · rcases hown0.2 with ⟨hv2, _⟩ | ⟨g2, cap2, cur2, hv2, hbg2, hh2, _, _, _, ht2⟩
        · rw [hv] at hv2; cases hv2
        · rw [hv] at hv2
          cases hv2
          rw [hX.block g1 hbg2 (Array.getElem?_eq_some_iff.1 hh2).1, hh2] at hh
          cases hh
          rw [← ht, ← ht2]
    subst hxx
    exact ap_next2 h hk hX hbase (ho.keep (fun q _ hq => Below.heap_alloc _ _ _ hq) (Nat.le_refl _) (by simp)) hown0 hown2 hgrow hat
  · refine ⟨hgrow.os, hgrow.tape, hgrow.output, Nat.le_trans (by simp) hgrow.size, fun q hq => ?_⟩
    rw [hgrow.block q (by simp; omega) (fun e => by have := (ap_block h1 e.symm).1; omega)]
    exact Below.heap_alloc _ _ _ (by omega)

end Go.Proofs.Ythmmapahobkhnaa

/-
  The program's reader of terms: a row of types.
-/
namespace Go.Proofs.Ythmmapahobkhnaa
open Go.RowKit Go.PlainAid
set_option linter.unusedVariables false
set_option linter.unusedSimpArgs false

theorem bind_assoc {α β γ : Type} (f : Rr α) (g : α → Rr β) (h : β → Rr γ) : (f.bind g).bind h = f.bind fun a => (g a).bind h := by
  funext T
  unfold Rr.bind
  cases f T with
  | none => rfl
  | some p =>
    obtain ⟨a, u⟩ := p
    dsimp only
    cases g a (T.drop u) with
    | none => rfl
    | some q =>
      obtain ⟨b, v⟩ := q
      dsimp only
      rw [List.drop_drop]
      cases h b (T.drop (u + v)) with
      | none => rfl
      | some r => obtain ⟨c, x⟩ := r; simp [Nat.add_assoc]
theorem ret_bind {α β : Type} (a : α) (g : α → Rr β) : (Rr.ret a).bind g = g a := by
  funext T
  unfold Rr.bind Rr.ret
  dsimp only
  rw [List.drop_zero]
  cases g a T with
  | none => rfl
  | some q => obtain ⟨b, v⟩ := q; simp
theorem manyR_snoc {α : Type} (f : Rr α) : ∀ n, manyR f (n + 1) = (manyR f n).bind fun l => f.bind fun a => Rr.ret (l ++ [a])
  | 0 => by
    show (f.bind fun a => (Rr.ret []).bind fun l => Rr.ret (a :: l)) = (Rr.ret []).bind fun l => f.bind fun a => Rr.ret (l ++ [a])
    rw [ret_bind]
    congr 1
    all_goals (funext a; rw [ret_bind]; try rfl)
  | n + 1 => by
    show (f.bind fun a => (manyR f (n + 1)).bind fun l => Rr.ret (a :: l)) = (f.bind fun a => (manyR f n).bind fun l => Rr.ret (a :: l)).bind fun l => f.bind fun a => Rr.ret (l ++ [a])
    rw [manyR_snoc f n, bind_assoc]
    congr 1
    funext a
    rw [bind_assoc, bind_assoc]
    congr 1
    funext l
    rw [bind_assoc, ret_bind]
    congr 1
    all_goals (funext b; rw [ret_bind]; try rfl)

theorem rdo_fail {α : Type} {T : List (List UInt8)} {a a' : Nat} {b : Bool} {v : α} : RdO (Rr.fail : Rr α) T a b v a' true := ⟨fun _ => rfl, fun _ => rfl⟩
theorem rdo_many {α : Type} {f : Rr α} {T : List (List UInt8)} {n a a1 a2 : Nat} {b b1 b2 : Bool} {l : List α} {x : α} (h1 : RdO (manyR f n) T a b l a1 b1) (h2 : RdO f T a1 b1 x a2 b2) : RdO (manyR f (n + 1)) T a b (l ++ [x]) a2 b2 := by
  rw [manyR_snoc]
  exact rdo_bind h1 (rdo_bind h2 (rdo_ret _ _ _ _))

/-- What a reader of types comes to. -/
def TysRd (L B : Nat) (w w' : World) (e : Ending) (p : Nat) (ao : Option Addr) (len cap : Nat) (T : List (List UInt8)) (a : Nat) (bad : Bool) : Prop :=
  ∃ ts ao2 l2 c2 a' bad', e = .returned (.slice ao2 l2 c2) ∧ w.grownBy w' (some p) ∧ Rdm L B w' p ao len cap a' bad' T ∧ RdO tysR T a bad ts a' bad' ∧ OwR w.heap.size w'.heap.size w' 7 ao2 l2 ts

theorem tysR_eq : tysR = (tokR.bind fun y => Rr.opt (cntR y)).bind fun n : Int => if n ≤ 2 then manyR tyR n.toNat else Rr.fail := by
  unfold tysR
  rw [bind_assoc]

structure TsLoop (L B : Nat) (w wr : World) (p : Nat) (ao : Option Addr) (len cap a0 : Nat) (b0 : Bool) (T : List (List UInt8)) (v : Value) (k a1 : Nat) (b1 : Bool) (us : List Tr) : Prop where
  gr : w.grownBy wr (some p)
  rdm : Rdm L B wr p ao len cap a1 b1 T
  rdo : RdO (manyR tyR k) T a0 b0 us a1 b1
  ul : us.length = k
  ap : ApRel w.heap.size wr 6 v us.length us

theorem ts_next {L B : Nat} {w wr w1 : World} {p : Nat} {ao : Option Addr} {len cap a0 : Nat} {b0 : Bool} {T : List (List UInt8)} {v : Value} {k a1 : Nat} {b1 : Bool} {us : List Tr} (h : TsLoop L B w wr p ao len cap a0 b0 T v k a1 b1 us) (hp : p < w.heap.size) (hk : k ≤ 1000) {t : Tr} {ao2 : Option Addr} {l2 c2 a2 : Nat} {b2 : Bool} (hg : wr.grownBy w1 (some p)) (hR : Rdm L B w1 p ao len cap a2 b2 T) (hO : RdO tyR T a1 b1 t a2 b2) (ho : OwR wr.heap.size w1.heap.size w1 6 ao2 l2 t.A) :
    ∃ g cp w2, (Builtin.append_ #[22, 22] 22 #[v, .slice (some ⟨w1.heap.size, 0, none⟩) 1 1]).run Try.prog (w1.alloc (.cells #[.int .i64 t.K, .int .i64 t.N, .slice ao2 l2 c2] 24)) = .ok (.slice (some ⟨g, 0, none⟩) (k + 1) cp) w2 ∧
      TsLoop L B w w2 p ao len cap a0 b0 T (.slice (some ⟨g, 0, none⟩) (k + 1) cp) (k + 1) a2 b2 (us ++ [t]) := by
  have hsm : Sm w.heap.size wr w1 := Sm.grown hg hp
  have hap := ap_more h.ap rfl t
  have hul := h.ul
  have e : (us ++ [t])[us.length]'(by simp) = t := by simp
  have hzw := h.gr.size
  have hrun := ap_run2 (ao1 := ao2) (len1 := l2) (cap1 := c2) hap (by simp) (by simp; omega) hsm hzw (by rw [e]; exact ho)
  rw [e] at hrun
  obtain ⟨g, cp, w2, hrun, hap2, hlo⟩ := hrun
  rw [hul] at hrun hap2
  refine ⟨g, cp, w2, hrun, ⟨?_, ?_, rdo_many h.rdo hO, by simp [hul], ?_⟩⟩
  · refine ⟨hlo.os.trans (hg.os.trans h.gr.os), hlo.tape.trans (hg.tape.trans h.gr.tape), hlo.output.trans (hg.output.trans h.gr.output), Nat.le_trans hzw (Nat.le_trans hg.size hlo.size), fun q hq hne => ?_⟩
    rw [hlo.block q hq, hg.block q (by omega) hne]
    exact h.gr.block q hq hne
  · exact hR.keep (fun q hq => hlo.block q (by have := hR.lo; omega)) (hlo.block p hp)
  · rw [show (us ++ [t]).length = k + 1 by simp [hul]]
    exact hap2

set_option maxRecDepth 100000 in
set_option maxHeartbeats 4000000 in
theorem tys_any (p : Nat) (ao : Option Addr) (len cap a L B : Nat) (bad : Bool) (T : List (List UInt8)) (w : World) (hT : ∀ x ∈ T, x.length ≤ 1048577) (h : Rdm L B w p ao len cap a bad T) :
    Calls Try.prog 46 #[.pointer (some ⟨p, 0, none⟩), .int .i64 2] w fun e w' => TysRd L B w w' e p ao len cap T a bad := by
  have hp := h.lt
  go_enter Try.func46, Try.ntmps46
  go_wp2_with fail
  refine (count_any p ao len cap a L B bad T _ hT h).mono ?_
  rintro e w1 ⟨n, a1, b1, rfl, hg1, hR1, hO1, hn0, hn1⟩
  obtain ⟨f0, f1, f2⟩ := box_cells hR1.row
  have f3 := row_free hR1.row
  by_cases h2 : 2 < n
  · have HF : Hid (∀ e, e = Ending.returned (.slice none 0 0) → TysRd L B w (w1.setCell ⟨p, 2, none⟩ (.bool true)) e p ao len cap T a bad) := fun e he => by
      refine ⟨[], none, 0, 0, a1, true, he, gr_set hg1, hR1.setB true, ?_, OwR.nil _ _ _ _ _⟩
      rw [tysR_eq]
      refine rdo_bind hO1 ?_
      rw [if_neg (by omega)]
      exact rdo_fail
    go_wp2_with fail
    go_ret
    exact HF.out _ rfl
  · obtain ⟨m, rfl⟩ : ∃ m : Nat, n = m := ⟨n.toNat, by omega⟩
    have HO : Hid (∀ ts a' b', RdO (manyR tyR m) T a1 b1 ts a' b' → RdO tysR T a bad ts a' b') := fun ts a' b' hm => by
      rw [tysR_eq]
      refine rdo_bind hO1 ?_
      rw [if_pos (by omega), Int.toNat_natCast]
      exact hm
    have hz1 := hg1.size
    have h0 : Hid (TsLoop L B w w1 p ao len cap a1 b1 T (.slice none 0 0) 0 a1 b1 []) := ⟨hg1, hR1, rdo_ret _ _ _ _, rfl, ap_nil _ _ _ _⟩
    have hm2 : m ≤ 2 := by omega
    have hle : ¬ (2 : Int) < (m : Int) := by omega
    clear f0 f1 f2 f3 hO1 hn0 hn1 h2
    go_wp2_with fail
    go_loopw [6, 16] (fun v y wr => ∃ (k a2 : Nat) (b2 : Bool) (us : List Tr), y = .int .i64 k ∧ k ≤ m ∧ TsLoop L B w wr p ao len cap a1 b1 T v k a2 b2 us) (fun _ y _ => m - (intOf y).toNat)
    case atStart => exact ⟨0, a1, b1, [], rfl, by omega, h0.out⟩
    case round =>
      obtain ⟨k, a2, b2, us, rfl, hk, hI⟩ := hrel
      obtain ⟨ao', cap', hv⟩ := ap_form hI.ap
      subst hv
      by_cases hlt : k < m
      · go_wp2_with fail
        refine (ty_any p ao len cap a2 L B b2 T wr hI.rdm).mono ?_
        rintro e w2 ⟨t, ao2, l2, c2, a3, b3, rfl, hg2, hR2, hO2, ho2⟩
        obtain ⟨g, cp, w3, hrun, hN⟩ := ts_next (c2 := c2) hI hp (by omega) hg2 hR2 hO2 ho2
        have HR : Hid (_ = _) := hrun
        clear hrun
        go_wp2_with (at_builtin; refine list_run HR.out (by rfl) _ _ (by rfl) (by rfl) (by rfl) (by rfl) ?_)
        go_roundw
        case rel => exact ⟨k + 1, a3, b3, us ++ [t], by go_num, by omega, hN⟩
        case measure => simp [intOf]; omega
      · have hkm : k = m := by omega
        obtain ⟨ao5, cap5, e5, ho5⟩ := ap_done hI.ap rfl (by have := hI.ul; omega)
        have HE : Hid (∀ e, e = Ending.returned (.slice ao' us.length cap') → TysRd L B w wr e p ao len cap T a bad) := fun e he => by
          have hr := hI.rdo
          rw [hkm] at hr
          cases e5
          exact ⟨us, _, _, _, a2, b2, he, hI.gr, hI.rdm, HO.out _ _ _ hr, ho5⟩
        clear hkm e5
        go_wp2_with fail
        go_ret
        exact HE.out _ rfl

end Go.Proofs.Ythmmapahobkhnaa

/-
  The model's reader of terms, in plain words: what it reads of a text of its own.
-/
namespace Go.Proofs.Ythmmapahobkhnaa
open Go.RowKit Go.PlainAid
set_option linter.unusedVariables false
set_option linter.unusedSimpArgs false

def mapR {α β : Type} (f : Rr α) (g : α → β) : Rr β := f.bind fun a => Rr.ret (g a)
theorem gets_map {α β : Type} {f : Rr α} {P : List (List UInt8)} {a : α} (h : Gets f P a) (g : α → β) : Gets (mapR f g) P (g a) := by
  have := gets_bind h (g := fun a => Rr.ret (g a)) (gets_ret _)
  rwa [List.append_nil] at this
theorem rdo_map {α β : Type} {f : Rr α} {T : List (List UInt8)} {a a1 : Nat} {b b1 : Bool} {x : α} (h : RdO f T a b x a1 b1) (g : α → β) : RdO (mapR f g) T a b (g x) a1 b1 := rdo_bind h (rdo_ret _ _ _ _)

/-- The number ahead of the names. -/
def numS (x : List UInt8) (k : Int) : Rr Int := if k = 1 then mapR tokR digS else if k = 2 then Rr.ret (if x = [116] then 1 else 0) else if k = 15 then mapR tokR opI else Rr.ret 0
def hdS (x : List UInt8) (k : Int) : Rr Hw := (numS x k).bind fun n0 => (if 0 < shN k then tokR else Rr.ret []).bind fun s => (if 1 < shN k then tokR else Rr.ret []).bind fun z => (if k = 6 ∨ k = 7 then mapR tokR digS else Rr.ret n0).bind fun n => (if k = 3 then mapR tokR digS else Rr.ret 0).bind fun many => (if shT k = true then tyR else Rr.ret ⟨0, 0, []⟩).bind fun t => (manyR tyR (min many 3).toNat).bind fun ts => Rr.ret ⟨n, s, z, t, ts⟩
def termS : Nat → Rr Tm
  | 0 => Rr.fail
  | l + 1 => tokR.bind fun x => if kindW x = 0 then Rr.fail else (hdS x (kindW x)).bind fun h => (manyR (termS l) (shP (kindW x)).toNat).bind fun ps => Rr.ret ⟨kindW x, h.n, mkB h.s, mkB h.z, h.t, h.ts, ps⟩

/-- The same, what stands ahead of the names among what stands behind them. -/
theorem gets_hdS {t : Tm} (h : nodeM t = true) : Gets (hdS (wordN t.K t.N) t.K) (tailM t.K t.N (sb t.S) (sb t.Z) t.T t.Ts) ⟨t.N, sb t.S, sb t.Z, t.T, t.Ts⟩ := by
  have hn := NodeIs.of h
  have hb := Bare.of h
  have h2 : t.Ts.length ≤ 2 := by have := hn.ts; have := (shS_bd t.K).2; omega
  have hts : ¬ t.K = 3 → t.Ts = [] := fun hk => hb.hts (by unfold shS; rw [if_neg hk]; omega)
  obtain ⟨P0, P1, hP, n0, g0, g1⟩ : ∃ P0 P1, P0 ++ ((if 0 < shN t.K then [sb t.S] else []) ++ ((if 1 < shN t.K then [sb t.Z] else []) ++ P1)) = (if 0 < shN t.K then [sb t.S] else []) ++ ((if 1 < shN t.K then [sb t.Z] else []) ++ numT t.K t.N) ∧ ∃ n0, Gets (numS (wordN t.K t.N) t.K) P0 n0 ∧ Gets (if t.K = 6 ∨ t.K = 7 then mapR tokR digS else Rr.ret n0) P1 t.N := by
    have n1 := hn.n1
    have n2 := hn.n2
    by_cases k1 : t.K = 1
    · rw [k1] at n1 n2 ⊢
      have n1 : -1000000 ≤ t.N := n1
      have n2 : t.N ≤ 1000000 := n2
      refine ⟨[Lib.itoa t.N], [], rfl, t.N, ?_, gets_ret _⟩
      have := gets_map (gets_tok (Lib.itoa t.N)) digS
      rw [digS_itoa _ n1 n2] at this
      exact this
    by_cases k2 : t.K = 2
    · rw [k2] at n1 n2 ⊢
      have n1 : 0 ≤ t.N := n1
      have n2 : t.N ≤ 1 := n2
      refine ⟨[], [], rfl, t.N, ?_, gets_ret _⟩
      have : t.N = 0 ∨ t.N = 1 := by omega
      rcases this with e | e <;> rw [e] <;> exact gets_ret _
    by_cases k15 : t.K = 15
    · rw [k15] at n1 n2 ⊢
      have n1 : 1 ≤ t.N := n1
      have n2 : t.N ≤ 5 := n2
      refine ⟨[signM t.N], [], rfl, t.N, ?_, gets_ret _⟩
      have := gets_map (gets_tok (signM t.N)) opI
      have e : opI (signM t.N) = t.N := by
        have := opI_signM t.N.toNat (by omega) (by omega)
        rw [show ((t.N.toNat : Nat) : Int) = t.N by omega] at this
        exact this
      rw [e] at this
      exact this
    by_cases k67 : t.K = 6 ∨ t.K = 7
    · have n1 : 0 ≤ t.N := by rcases k67 with e | e <;> rw [e] at n1 <;> exact n1
      have n2 : t.N ≤ 2 := by rcases k67 with e | e <;> rw [e] at n2 <;> exact n2
      refine ⟨[], [Lib.itoa t.N], ?_, 0, ?_, ?_⟩
      · have e : numT t.K t.N = [Lib.itoa t.N] := by
          unfold numT
          exact if_pos (by rcases k67 with e | e; exact Or.inr (Or.inl e); exact Or.inr (Or.inr e))
        rw [e]
        rfl
      · unfold numS
        rw [if_neg k1, if_neg k2, if_neg k15]
        exact gets_ret _
      · rw [if_pos k67]
        have := gets_map (gets_tok (Lib.itoa t.N)) digS
        rw [digS_itoa _ (by omega) (by omega)] at this
        exact this
    · have k6 : ¬ t.K = 6 := fun e => k67 (Or.inl e)
      have k7 : ¬ t.K = 7 := fun e => k67 (Or.inr e)
      have n1 : 0 ≤ t.N := by simpa [shL, k1, k15] using n1
      have n2 : t.N ≤ 0 := by simpa [shM, k1, k2, k6, k7, k15] using n2
      obtain e0 : t.N = 0 := by omega
      refine ⟨[], [], ?_, 0, ?_, ?_⟩
      · have e : numT t.K t.N = [] := by
          unfold numT
          rw [if_neg (by rintro (e | e | e); exact k1 e; exact k6 e; exact k7 e), if_neg k15]
        rw [e]
        rfl
      · unfold numS
        rw [if_neg k1, if_neg k2, if_neg k15]
        exact gets_ret _
      · rw [if_neg k67, e0]
        exact gets_ret _
  have gm : Gets (if t.K = 3 then mapR tokR digS else Rr.ret 0) (if t.K = 3 then [Lib.itoa (t.Ts.length : Int)] else []) (t.Ts.length : Int) := by
    by_cases k3 : t.K = 3
    · rw [if_pos k3, if_pos k3]
      have := gets_map (gets_tok (Lib.itoa (t.Ts.length : Int))) digS
      rw [digS_itoa _ (by omega) (by omega)] at this
      exact this
    · rw [if_neg k3, if_neg k3, hts k3]
      exact gets_ret _
  have gts : Gets (manyR tyR (min (t.Ts.length : Int) 3).toNat) (t.Ts.map (toksW 6)).flatten t.Ts := by
    rw [show (min (t.Ts.length : Int) 3).toNat = t.Ts.length by omega]
    exact gets_many (toksW 6) t.Ts fun x hx => gets_ty (hn.each x hx)
  have e : tailM t.K t.N (sb t.S) (sb t.Z) t.T t.Ts = P0 ++ ((if 0 < shN t.K then [sb t.S] else []) ++ ((if 1 < shN t.K then [sb t.Z] else []) ++ (P1 ++ ((if t.K = 3 then [Lib.itoa (t.Ts.length : Int)] else []) ++ ((if shT t.K = true then toksW 6 t.T else []) ++ ((t.Ts.map (toksW 6)).flatten ++ [])))))) := by
    have e1 : (if shT t.K = true then toksW 6 t.T else []) ++ ((if 0 < shS t.K then Lib.itoa (t.Ts.length : Int) :: (t.Ts.map (toksW 6)).flatten else []) ++ []) = (if t.K = 3 then [Lib.itoa (t.Ts.length : Int)] else []) ++ ((if shT t.K = true then toksW 6 t.T else []) ++ ((t.Ts.map (toksW 6)).flatten ++ [])) := by
      by_cases k3 : t.K = 3
      · rw [k3]; simp [shT, shS]
      · have e0 : ¬ 0 < shS t.K := by unfold shS; rw [if_neg k3]; omega
        rw [hts k3]
        simp [k3, e0]
    unfold tailM
    rw [e1]
    have h3 := congrArg (fun Q => Q ++ ((if t.K = 3 then [Lib.itoa (t.Ts.length : Int)] else []) ++ ((if shT t.K = true then toksW 6 t.T else []) ++ ((t.Ts.map (toksW 6)).flatten ++ [])))) hP
    simp only [List.append_assoc] at h3 ⊢
    exact h3.symm
  rw [e]
  unfold hdS
  exact gets_bind g0 (gets_bind (gets_if (fun _ => gets_tok _) hb.hs) (gets_bind (gets_if (fun _ => gets_tok _) hb.hz) (gets_bind g1 (gets_bind gm (gets_bind (gets_if (fun hs => gets_ty (hn.ty hs)) hb.ht) (gets_bind gts (gets_ret _)))))))

theorem gets_termS : ∀ (l : Nat) (t : Tm) (m : Nat), nodesM l t = some m → Gets (termS l) (toksM l t) t := by
  intro l
  induction l with
  | zero => intro t m h; simp [nodesM] at h
  | succ l ih =>
    intro t m h
    have hnd := nodesM_node h
    obtain ⟨hn, b, hb, _⟩ := nodesM_inv2 h
    have hp : Gets (manyR (termS l) t.A.length) (t.A.map (toksM l)).flatten t.A := gets_many (toksM l) t.A fun x hx => by
      obtain ⟨mx, hmx⟩ := nodesG_all hb x hx
      exact ih x mx hmx
    have hl : (shP t.K).toNat = t.A.length := by have := hn.a; omega
    have e : toksM (l + 1) t = [wordN t.K t.N] ++ (tailM t.K t.N (sb t.S) (sb t.Z) t.T t.Ts ++ ((t.A.map (toksM l)).flatten ++ [])) := by
      show headM t.K t.N t.S t.Z t.T t.Ts ++ (t.A.map (toksM l)).flatten = _
      rw [headM_eq hn.k1 hn.k17, List.append_nil]
      rfl
    rw [e]
    refine gets_bind (gets_tok _) ?_
    rw [kindW_word _ hn.k1 hn.k17, if_neg (by have := hn.k1; omega)]
    refine gets_bind (gets_hdS hnd) ?_
    rw [hl]
    refine gets_bind hp ?_
    have := gets_ret (⟨t.K, t.N, mkB (sb t.S), mkB (sb t.Z), t.T, t.Ts, t.A⟩ : Tm)
    rw [mkB_sb, mkB_sb] at this
    rw [mkB_sb, mkB_sb]
    have e2 : (⟨t.K, t.N, t.S, t.Z, t.T, t.Ts, t.A⟩ : Tm) = t := by cases t; rfl
    show Gets (Rr.ret (⟨t.K, t.N, t.S, t.Z, t.T, t.Ts, t.A⟩ : Tm)) [] t
    rw [e2] at this ⊢
    exact this

/-- Where the tokens are those of a right term, that is what the model's reader reads. -/
theorem termS_of {T : List (List UInt8)} {t : Tm} (h : parM T = some t) : termS 24 T = some (t, T.length) := by
  obtain ⟨rfl, hok⟩ := parM_some h
  obtain ⟨m, hm, _⟩ := okM_le hok
  have := gets_termS 24 t m hm []
  rw [List.append_nil] at this
  exact this

end Go.Proofs.Ythmmapahobkhnaa
