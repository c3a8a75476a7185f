/-
  What the program's 'putForAll' comes to: where no name is caught, the term with the other one at each use.
-/
import Derived.Test.YtbdmdgghhefmcaaPfoZ13
import Derived.Test.YtbdmdgghhefmcaaPfoZ25
import Derived.Test.YtbdmdgghhefmcaaPfoCtM
import Derived.Deep.RegionLaw
import Derived.Deep.Cut
import Derived.Deep.CutRange
import Derived.Test.YtbdmdgghhefmcaaPfoZ5
import Derived.Test.YtbdmdgghhefmcaaPfoZ3
import Derived.Test.YtbdmdgghhefmcaaPfoOwM
namespace Go.Proofs.Ytbdmdgghhefmcaa
open Go.RowKit
set_option linter.unusedVariables false
set_option linter.unusedSimpArgs false

/-- How it ends: what was told apart is as it was. -/
def PfE (w w' : World) (D b M0 : Nat) (t x : Tm) (qs : List Way9) (e : Ending) : Prop :=
  e = .returned (.bool (putOk (freeT x) qs)) ∧ w'.os = w.os ∧ w'.tape = w.tape ∧ w'.output = w.output ∧ w.heap.size ≤ w'.heap.size ∧ (∀ g, g < M0 → w'.heap[g]? = w.heap[g]?) ∧ (∃ cs : Array Value, w'.heap[b]? = some (.cells cs 35 (0, 0)) ∧ 8 < cs.size) ∧
    (putOk (freeT x) qs = true → ∃ bsT dT, Own9 w' D dT b 0 (putF t qs x) bsT ∧ bsT.Nodup ∧ b ∉ bsT ∧ ∀ g ∈ bsT, M0 ≤ g ∧ g < w'.heap.size)

theorem not_ok {F : List (List UInt8)} {qs : List Way9} {k : Nat} (hk : k < qs.length) {n : List UInt8} (hn : n ∈ F) (hm : n ∈ qs[k].2) : putOk F qs = false := by
  rw [Bool.eq_false_iff]
  intro h
  unfold putOk at h
  have h1 := List.all_eq_true.1 h qs[k] (List.getElem_mem hk)
  have h2 := List.all_eq_true.1 h1 n hn
  simp [hm] at h2
theorem free_all {F : List (List UInt8)} {q : Way9} (h : ∀ i (hi : i < F.length), ¬ F[i] ∈ q.2) : freeAt F q = true := by
  unfold freeAt
  rw [List.all_eq_true]
  intro n hn
  obtain ⟨i, hi, rfl⟩ := List.getElem_of_mem hn
  simp [h i hi]

set_option maxRecDepth 100000 in
set_option maxHeartbeats 4000000 in
theorem putForAll_any (D D0 d0 L B dt b M0 M base : Nat) (bs0 : List Nat) (t x : Tm) (a1 : Option Addr) (l1 c1 : Nat) (a2 : Option Addr) (l2 c2 : Nat) (a3 : Option Addr) (l3 c3 : Nat) (us : List Use) (qs : List Way9) (uo : Option Addr) (un uc : Nat) (w : World)
    (hBM : B ≤ M0) (hx : Fm L B w D0 d0 x a1 l1 a2 l2 a3 l3) (hcx : cntM x ≤ 1048576) (hD : D0 + 1 ≤ D)
    (hU : Uss base w (.slice uo un uc) us) (hR : UsR w M b 0 [] us qs) (hMw : M ≤ w.heap.size)
    (hO : Own9 w D dt b 0 t bs0) (hnd : bs0.Nodup) (hnb : b ∉ bs0) (hbs0 : ∀ g ∈ bs0, M0 ≤ g ∧ g < w.heap.size) (hbM : M0 ≤ b) (hM0 : M0 ≤ w.heap.size) (hrow : ∃ cs : Array Value, w.heap[b]? = some (.cells cs 35 (0, 0)) ∧ 8 < cs.size)
    (hqs : qs.Pairwise Apart9) (hget : ∀ q ∈ qs, (getP t q.1).isSome) (hfew : qs.length ≤ 1000) (hnm : ∀ q ∈ qs, q.2.length ≤ 1000) :
    Calls Try.prog 30 #[.slice uo un uc, .agg #[.int .i64 x.K, .int .i64 x.N, .string x.S, .string x.Z, .int .i64 x.T.K, .int .i64 x.T.N, .slice a1 l1 c1, .slice a2 l2 c2, .slice a3 l3 c3]] w fun e w' => PfE w w' D b M0 t x qs e := by
  obtain ⟨X, hX⟩ : ∃ X, X = w.alloc (.cells #[.int .i64 x.K, .int .i64 x.N, .string x.S, .string x.Z, .int .i64 x.T.K, .int .i64 x.T.N, .slice a1 l1 c1, .slice a2 l2 c2, .slice a3 l3 c3] 35) := ⟨_, rfl⟩
  have hXs : X.heap.size = w.heap.size + 1 := by rw [hX]; simp
  have hXb : Below w.heap.size w X := by rw [hX]; exact (Below.refl _ _).alloc (Nat.le_refl _) _
  have hX1 : X.heap[w.heap.size]? = some (.cells #[.int .i64 x.K, .int .i64 x.N, .string x.S, .string x.Z, .int .i64 x.T.K, .int .i64 x.T.N, .slice a1 l1 c1, .slice a2 l2 c2, .slice a3 l3 c3] 35 (0, 0)) := by rw [hX]; exact heap_new rfl
  have HX : Hid (X = _) := hX
  clear hX
  have hBw : B ≤ w.heap.size := by omega
  have hul : un = us.length := by
    obtain ⟨ao, cp, e⟩ := uss_form hU
    injection e
  have hql := hR.len
  have hbw : b < w.heap.size := by obtain ⟨cs, h, _⟩ := hrow; exact (Array.getElem?_eq_some_iff.1 h).1
  go_enter Try.func30, Try.ntmps30
  go_wp2_with fail
  rw [← HX.out]
  refine (freeOf_any D0 d0 L B x a1 l1 c1 a2 l2 c2 a3 l3 c3 X (by omega) (Fm.below hXb hBw hx)).mono ?_
  rintro e w1 ⟨vF, rfl, hb1, hF⟩
  obtain ⟨F, hFe⟩ : ∃ F, freeT x = F := ⟨_, rfl⟩
  rw [hFe] at hF
  have HFE : Hid (freeT x = F) := hFe
  obtain ⟨fo, fc, rfl⟩ := toks_form hF
  obtain ⟨fn, hfn⟩ : ∃ fn, F.length = fn := ⟨_, rfl⟩
  have hz1 := hb1.size
  have hbw1 : Below w.heap.size w w1 := hXb.trans (hb1.mono (by omega))
  have hfb : fn ≤ 9223372036854775807 := by
    rcases hF.2 with ⟨_, h⟩ | ⟨_, _, _, _, _, _, h1, h2, _⟩
    · omega
    · unfold maxLen at h2; omega
  have hNF : Nsl w1 fo fn F := by rw [← hfn]; exact Nsl.of_toks hF
  rw [hfn]
  have hU1 := uss_below hU hbw1
  have hR1 := hR.below hbw1 hMw
  have y1 := (hb1.block _ (by omega)).trans hX1
  obtain ⟨csb, hrb, hrs⟩ := hrow
  have hbs1 : ∀ g ∈ bs0, M0 ≤ g ∧ g < w1.heap.size ∧ g ≠ w.heap.size := fun g hg => by have := hbs0 g hg; exact ⟨this.1, by omega, by omega⟩
  have hS0 : PfS w1 w1 D b M0 w.heap.size bs0 t x us qs 0 := by
    refine ⟨rfl, rfl, rfl, Nat.le_refl _, fun _ _ _ _ _ => rfl, fun _ _ => rfl, rfl, ⟨csb, (hbw1.block b hbw).trans hrb, hrs⟩, ?_, ?_⟩
    · exact ⟨bs0, dt, hO.keep (fun i _ => bcell hbw1 hbw _) (fun g hg => hbw1.block g (hbs0 g hg).2), hnd, hnb, fun g hg => ⟨Or.inl hg, by have := hbs0 g hg; omega⟩⟩
    · intro j hj hj' _
      obtain ⟨bk, ok, e, h1, _⟩ := usr_get hR1 j hj hj'
      exact ⟨bk, ok, e, h1.at, hget _ (List.getElem_mem hj')⟩
  have HC : Hid (∀ W : World, (∀ g, g < M0 → W.heap[g]? = w1.heap[g]?) → w1.heap.size ≤ W.heap.size → Calls Try.prog 29 #[.agg #[.int .i64 x.K, .int .i64 x.N, .string x.S, .string x.Z, .int .i64 x.T.K, .int .i64 x.T.N, .slice a1 l1 c1, .slice a2 l2 c2, .slice a3 l3 c3]] W fun e w' => ∃ b1 m1 e1 b2 e2 b3 e3, e = .returned (.agg #[.int .i64 x.K, .int .i64 x.N, .string x.S, .string x.Z, .int .i64 x.T.K, .int .i64 x.T.N, .slice b1 m1 e1, .slice b2 l2 e2, .slice b3 l3 e3]) ∧ Below W.heap.size W w' ∧ FmO W.heap.size w'.heap.size w' (D0 + 1) d0 x b1 m1 b2 l2 b3 l3) := fun W hW hz => by
    refine ct_any D0 d0 L B x a1 l1 c1 a2 l2 c2 a3 l3 c3 W (by omega) ?_ hcx
    exact Fm.keep (fun g _ hg => (hW g (by omega)).trans (hbw1.block g (by omega))) (Nat.le_refl _) (Nat.le_refl _) hx
  have HFN : Hid (∀ W, PfS w1 W D b M0 w.heap.size bs0 t x us qs 0 → True) := fun _ _ => trivial
  have HFW : Hid (∀ (W : World), (∀ (g : Nat) (cs : Array Value) (ty : TypeId), w1.heap[g]? = some (.cells cs ty (0, 0)) → ty ≠ 35 → W.heap[g]? = w1.heap[g]?) → ∀ i (hi : i < F.length), ∃ g, fo = some ⟨g, 0, none⟩ ∧ W.cell? ⟨g, 0 + i, none⟩ = some (tk F[i])) := fun W hW i hi => by
    obtain ⟨g, e, ⟨cs, hh⟩, hc⟩ := hNF.2 i hi
    exact ⟨g, e, (World.cell?_of_block (hW g cs _ hh (by decide))).trans hc⟩
  have HUW : Hid (∀ (W : World), (∀ (g : Nat) (cs : Array Value) (ty : TypeId), w1.heap[g]? = some (.cells cs ty (0, 0)) → ty ≠ 35 → W.heap[g]? = w1.heap[g]?) → ∀ j (hj : j < us.length), ∃ g, uo = some ⟨g, 0, none⟩ ∧ W.cell? ⟨g, j * 2, none⟩ = some (.pointer (some us[j].1)) ∧ W.cell? ⟨g, j * 2 + 1, none⟩ = some (.slice us[j].2.1 us[j].2.2.1 us[j].2.2.2)) := fun W hW j hj => by
    obtain ⟨g, cap, cs, ev, hh, h1, h2⟩ := uss_at hU1 j hj
    injection ev with ev1 _ _
    exact ⟨g, ev1, (World.cell?_of_block (hW g cs _ hh (by decide))).trans h1, (World.cell?_of_block (hW g cs _ hh (by decide))).trans h2⟩
  have HNW : Hid (∀ (W : World), (∀ (g : Nat) (cs : Array Value) (ty : TypeId), w1.heap[g]? = some (.cells cs ty (0, 0)) → ty ≠ 35 → W.heap[g]? = w1.heap[g]?) → w1.heap.size ≤ W.heap.size → ∀ j (hj : j < us.length) (hj' : j < qs.length), Nsl W us[j].2.1 us[j].2.2.1 qs[j].2) := fun W hW hz j hj hj' => by
    obtain ⟨_, _, _, _, hn⟩ := usr_get hR1 j hj hj'
    rw [List.nil_append] at hn
    refine ⟨hn.1, fun i hi => ?_⟩
    obtain ⟨g, e, ⟨cs, hh⟩, hc⟩ := hn.2 i hi
    have := hW g cs _ hh (by decide)
    exact ⟨g, e, ⟨cs, this.trans hh⟩, (World.cell?_of_block this).trans hc⟩
  have HEND : Hid (∀ (W : World) (k : Nat), PfS w1 W D b M0 w.heap.size bs0 t x us qs k → (putOk F qs = true → k = qs.length) → PfE w W D b M0 t x qs (.returned (.bool (putOk F qs)))) := fun W k hS hk => by
    refine ⟨by rw [HFE.out], hS.os.trans hbw1.os, hS.tape.trans hbw1.tape, hS.output.trans hbw1.output, by have := hS.size; omega, fun g hg => (hS.low g hg).trans (hbw1.block g (by omega)), hS.row, fun hok => ?_⟩
    rw [HFE.out] at hok
    obtain ⟨bsT, dT, h1, h2, h3, h4⟩ := hS.tree
    rw [hk hok, List.take_length] at h1
    refine ⟨bsT, dT, h1, h2, h3, fun g hg => ?_⟩
    have := h4 g hg
    rcases this.1 with h5 | h5
    · exact ⟨(hbs0 g h5).1, this.2⟩
    · exact ⟨by omega, this.2⟩
  have HPN : Hid (∀ (wr w5 W : World) (k : Nat) (hk : k < qs.length) (hku : k < us.length) (bk ok : Nat) (x1 : Option Addr) (n1 i1 : Nat) (x2 : Option Addr) (n2 i2 : Nat) (x3 : Option Addr) (n3 i3 dx : Nat), PfS w1 wr D b M0 w.heap.size bs0 t x us qs k → Below wr.heap.size wr w5 → FmO wr.heap.size w5.heap.size w5 (D0 + 1) dx x x1 n1 x2 n2 x3 n3 → us[k].1 = ⟨bk, ok, none⟩ → W = set9 w5 bk ok (.int .i64 x.K) (.int .i64 x.N) (.string x.S) (.string x.Z) (.int .i64 x.T.K) (.int .i64 x.T.N) (.slice x1 n1 i1) (.slice x2 n2 i2) (.slice x3 n3 i3) → PfS w1 W D b M0 w.heap.size bs0 t x us qs (k + 1)) :=
    fun wr w5 W k hk hku bk ok x1 n1 i1 x2 n2 i2 x3 n3 i3 dx hS hb hO2 hu hW => pf_next hS hk hql hqs hb hO2 hD (by omega) hbM (by omega) hbs1 (by omega) (by omega) hu W hW
  obtain ⟨y0, y1', y2, y3, y4, y5, y6, y7, y8⟩ := Nine.box y1
  have hun : (un : Int) = (us.length : Int) := by omega
  have HFL : Hid (F.length = fn) := hfn
  clear hR hR1 hU hU1 hO hX1 hF hget HX hx hNF hfn hbs1 hrb hrs hFe
  go_wp2_with fail
  go_loopw [14] (fun y wr => ∃ k : Nat, y = .int .i64 k ∧ k ≤ un ∧ Hid (putOk F (qs.take k) = true) ∧ Hid (PfS w1 wr D b M0 w.heap.size bs0 t x us qs k)) (fun y _ => un - (intOf y).toNat)
  case atStart => exact ⟨0, rfl, by omega, rfl, hS0⟩
  case round =>
    obtain ⟨k, rfl, hk, hok, hS⟩ := hrel
    have hoth := hS.out.other
    have hzr := hS.out.size
    by_cases hlt : k < un
    · have hku : k < us.length := by omega
      have hkq : k < qs.length := by omega
      obtain ⟨gU, eU, u0, u1⟩ := HUW.out wr hoth k hku
      subst eU
      obtain ⟨bk, ok, eb, hbk, ⟨csk, hrk⟩, yk, v6, v7, v8, h9k⟩ := pf_cells hS.out hkq hku
      have hNs := HNW.out wr hoth hzr k hku hkq
      have hq2 := hnm qs[k] (List.getElem_mem hkq)
      obtain ⟨no, hno⟩ : ∃ no, us[k].2.1 = no := ⟨_, rfl⟩
      obtain ⟨nn, hnn⟩ : ∃ nn, us[k].2.2.1 = nn := ⟨_, rfl⟩
      obtain ⟨nc, hnc⟩ : ∃ nc, us[k].2.2.2 = nc := ⟨_, rfl⟩
      rw [eb] at u0
      rw [hno, hnn, hnc] at u1
      rw [hno, hnn] at hNs
      have hki : (k : Int) < (un : Int) := by omega
      have hki2 : (k : Int) < (us.length : Int) := by omega
      have hAb : Below wr.heap.size wr (wr.alloc (.cells #[.pointer (some ⟨bk, ok, none⟩), .slice no nn nc] 70)) := (Below.refl _ _).alloc (Nat.le_refl _) _
      have hothA : ∀ (g : Nat) (cs : Array Value) (ty : TypeId), w1.heap[g]? = some (.cells cs ty (0, 0)) → ty ≠ 35 → (wr.alloc (.cells #[.pointer (some ⟨bk, ok, none⟩), .slice no nn nc] 70)).heap[g]? = w1.heap[g]? := fun g cs ty hg hty => (hAb.block g (Nat.lt_of_lt_of_le (Array.getElem?_eq_some_iff.1 hg).1 hzr)).trans (hoth g cs ty hg hty)
      have HSA : Hid (PfS w1 (wr.alloc (.cells #[.pointer (some ⟨bk, ok, none⟩), .slice no nn nc] 70)) D b M0 w.heap.size bs0 t x us qs k) := hS.out.below hAb (by omega) (by omega)
      have hNsA := hNs.below hAb
      have hA0 : (wr.alloc (.cells #[.pointer (some ⟨bk, ok, none⟩), .slice no nn nc] 70)).heap[wr.heap.size]? = some (.cells #[.pointer (some ⟨bk, ok, none⟩), .slice no nn nc] 70 (0, 0)) := heap_new rfl
      clear hno hnn hnc
      go_wp2_with fail
      go_loopw [20] (fun y wi => ∃ i : Nat, y = .int .i64 i ∧ i ≤ fn ∧ wi = wr.alloc (.cells #[.pointer (some ⟨bk, ok, none⟩), .slice no nn nc] 70) ∧ Hid (∀ q (hq : q < F.length), q < i → ¬ F[q] ∈ qs[k].2)) (fun y _ => fn - (intOf y).toNat)
      case atStart => exact ⟨0, rfl, by omega, rfl, fun _ _ h => by omega⟩
      case round =>
        obtain ⟨i, rfl, hi, rfl, hnot⟩ := hrel
        obtain ⟨b0, b1⟩ := two_cells hA0
        by_cases hlt2 : i < fn
        · have hiF : i < F.length := by have := HFL.out; omega
          obtain ⟨gF, eF, f0⟩ := HFW.out _ hothA i hiF
          subst eF
          obtain ⟨z, hz⟩ : ∃ z : ByteArray, tk F[i] = .string z := ⟨_, rfl⟩
          have hbz : bs z = F[i] := by
            have : (⟨F[i].toArray⟩ : ByteArray) = z := by simpa [tk] using hz
            rw [← this]; simp [bs]
          rw [hz, Nat.zero_add] at f0
          have KC := contains_nsl nc hNsA (by omega) z
          have hfi : (i : Int) < (fn : Int) := by omega
          clear hz
          go_wp2_with fail
          refine KC.mono ?_
          rintro e w4 ⟨rfl, hw⟩
          subst hw
          by_cases hm : bs z ∈ qs[k].2
          · have HT : decide (bs z ∈ qs[k].2) = true := by simpa using hm
            have HNO : Hid (putOk F qs = false) := not_ok hkq (List.getElem_mem hiF) (by rw [← hbz]; exact hm)
            have hE := HEND.out _ k HSA.out (fun h => by have := HNO.out; rw [this] at h; cases h)
            rw [HNO.out] at hE
            rw [HT]
            clear hm
            go_wp2_with fail
            go_ret
            exact hE
          · have HT : decide (bs z ∈ qs[k].2) = false := by simpa using hm
            have HN2 : Hid (∀ q (hq : q < F.length), q < i + 1 → ¬ F[q] ∈ qs[k].2) := fun q hq hqi => by
              by_cases e : q = i
              · subst e; rw [← hbz]; exact hm
              · exact hnot.out q hq (by omega)
            have HI2 : Hid (i + 1 ≤ fn) := by show _ ≤ _; omega
            rw [HT]
            clear hm
            go_wp2_with fail
            go_roundw
            case rel => exact ⟨i + 1, by go_num, HI2.out, by first | rfl | trivial, HN2⟩
            case measure => have := HI2.out; simp [intOf]; omega
        · have hfree : freeAt F qs[k] = true := free_all fun q hq => hnot.out q hq (by have := HFL.out; omega)
          have HOK : Hid (putOk F (qs.take (k + 1)) = true) := by
            show _ = _
            rw [List.take_succ_eq_append_getElem hkq, putOk_app, hok.out]
            simp [putOk, hfree]
          have hbA : Below w1.heap.size w1 w1 := Below.refl _ _
          have hlowA : ∀ g, g < M0 → (wr.alloc (.cells #[.pointer (some ⟨bk, ok, none⟩), .slice no nn nc] 70)).drew.heap[g]? = w1.heap[g]? := HSA.out.low
          have hAz : (wr.alloc (.cells #[.pointer (some ⟨bk, ok, none⟩), .slice no nn nc] 70)).heap.size = wr.heap.size + 1 := by simp
          have HCA := HC.out (wr.alloc (.cells #[.pointer (some ⟨bk, ok, none⟩), .slice no nn nc] 70)).drew hlowA (by show w1.heap.size ≤ (wr.alloc _).heap.size; omega)
          have hbox := HSA.out.box.trans y1
          obtain ⟨p0, p1, p2, p3, p4, p5, p6, p7, p8⟩ := Nine.box hbox
          have h9A := h9k.below hAb hbk
          have hrA := (hAb.block bk hbk).trans hrk
          have HD5 : Hid (∀ w5, Below (wr.alloc (.cells #[.pointer (some ⟨bk, ok, none⟩), .slice no nn nc] 70)).drew.heap.size (wr.alloc (.cells #[.pointer (some ⟨bk, ok, none⟩), .slice no nn nc] 70)).drew w5 → Below (wr.alloc (.cells #[.pointer (some ⟨bk, ok, none⟩), .slice no nn nc] 70)).heap.size (wr.alloc (.cells #[.pointer (some ⟨bk, ok, none⟩), .slice no nn nc] 70)) w5) := fun w5 h => ((Below.refl _ _).drew).trans (h.mono (Nat.le_refl _))
          have HPA : Hid (∀ (w5 W : World) (x1 : Option Addr) (n1 i1 : Nat) (x2 : Option Addr) (n2 i2 : Nat) (x3 : Option Addr) (n3 i3 : Nat), Below (wr.alloc (.cells #[.pointer (some ⟨bk, ok, none⟩), .slice no nn nc] 70)).drew.heap.size (wr.alloc (.cells #[.pointer (some ⟨bk, ok, none⟩), .slice no nn nc] 70)).drew w5 → FmO (wr.alloc (.cells #[.pointer (some ⟨bk, ok, none⟩), .slice no nn nc] 70)).drew.heap.size w5.heap.size w5 (D0 + 1) d0 x x1 n1 x2 n2 x3 n3 → W = set9 w5 bk ok (.int .i64 x.K) (.int .i64 x.N) (.string x.S) (.string x.Z) (.int .i64 x.T.K) (.int .i64 x.T.N) (.slice x1 n1 i1) (.slice x2 n2 i2) (.slice x3 n3 i3) → PfS w1 W D b M0 w.heap.size bs0 t x us qs (k + 1)) := fun w5 W x1 n1 i1 x2 n2 i2 x3 n3 i3 hb5 hO5 hW => by
            exact HPN.out _ w5 W k hkq hku bk ok x1 n1 i1 x2 n2 i2 x3 n3 i3 d0 HSA.out (HD5.out w5 hb5) hO5 eb hW
          have hbkA : bk < (wr.alloc (.cells #[.pointer (some ⟨bk, ok, none⟩), .slice no nn nc] 70)).heap.size := by omega
          have hbxA : wr.heap.size < (wr.alloc (.cells #[.pointer (some ⟨bk, ok, none⟩), .slice no nn nc] 70)).heap.size := by omega
          clear hfree hS HSA hNsA hNs u0 u1 h9k hrk hAz
          go_wp2_with fail
          go_region_law (first
            | (go_simp; go_at_call 29; refine HCA.mono ?_; rintro e w5 ⟨r1, s1, v1, r2, v2, r3, v3, rfl, hb5, hO5⟩; have hb5d := HD5.out w5 hb5; have q0 := (bcell hb5d hbxA 0).trans b0; obtain ⟨g0, g1, g2, g3, g4, g5, g6, g7, g8⟩ := h9A.below hb5d hbkA; have gf := row_free ((hb5d.block bk hbkA).trans hrA)))
          all_goals
            have hP : Hid (PfS w1 (((((((((w5.setCell ⟨bk, ok, none⟩ (.int .i64 x.K)).setCell ⟨bk, ok + 1, none⟩ (.int .i64 x.N)).setCell ⟨bk, ok + 2, none⟩ (.string x.S)).setCell ⟨bk, ok + 3, none⟩ (.string x.Z)).setCell ⟨bk, ok + 4, none⟩ (.int .i64 x.T.K)).setCell ⟨bk, ok + 5, none⟩ (.int .i64 x.T.N)).setCell ⟨bk, ok + 6, none⟩ (.slice r1 s1 v1)).setCell ⟨bk, ok + 7, none⟩ (.slice r2 l2 v2)).setCell ⟨bk, ok + 8, none⟩ (.slice r3 l3 v3)) D b M0 w.heap.size bs0 t x us qs (k + 1)) := HPA.out w5 _ r1 s1 v1 r2 l2 v2 r3 l3 v3 hb5 hO5 (by rfl)
            have HK1 : Hid (k + 1 ≤ un) := by show _ ≤ _; omega
            clear hb5 hO5 hb5d q0 g0 g1 g2 g3 g4 g5 g6 g7 g8 gf p0 p1 p2 p3 p4 p5 p6 p7 p8
            go_wp2_with fail
            go_roundw
            case rel => exact ⟨k + 1, by go_num, HK1.out, HOK, hP⟩
            case measure => have := HK1.out; simp [intOf]; omega
    · have hkl : k = qs.length := by omega
      have hokA : putOk F qs = true := by
        have := hok.out
        rw [hkl, List.take_length] at this
        exact this
      have hE := HEND.out wr k hS.out (fun _ => hkl)
      rw [hokA] at hE
      clear hkl hokA
      go_wp2_with fail
      go_ret
      exact hE

end Go.Proofs.Ytbdmdgghhefmcaa

/-
  The n-th of a row of terms, in plain words.
-/
namespace Go.Proofs.Ytbdmdgghhefmcaa
open Go.RowKit
set_option linter.unusedVariables false
set_option linter.unusedSimpArgs false

/-- The zero term. -/
def zTm : Tm := ⟨0, 0, ⟨#[]⟩, ⟨#[]⟩, ⟨0, 0, []⟩, [], []⟩
theorem zTm_fmO (L B : Nat) (w : World) (D d : Nat) (hLB : L ≤ B) : FmO L B w D d zTm none 0 none 0 none 0 :=
  FmO.mk (M1 := L) (M2 := L) (by show (0 : Nat) ≤ 9223372036854775807; omega) (by show (0 : Nat) ≤ 9223372036854775807; omega) (OwR.nil _ _ _ _ _) (OwR.nil _ _ _ _ _) (OwMR.nil _ _ _ _ _ _) (Nat.le_refl _) (Nat.le_refl _) hLB
/-- What is told of a term: it lies in memory of its own. -/
def TellM (w w' : World) (D d : Nat) (e : Ending) (R : Tm) (b : Bool) : Prop :=
  ∃ b1 m1 e1 b2 m2 e2 b3 m3 e3, e = .returned (.tuple #[.agg #[.int .i64 R.K, .int .i64 R.N, .string R.S, .string R.Z, .int .i64 R.T.K, .int .i64 R.T.N, .slice b1 m1 e1, .slice b2 m2 e2, .slice b3 m3 e3], .bool b]) ∧ Below w.heap.size w w' ∧ FmO w.heap.size w'.heap.size w' D d R b1 m1 b2 m2 b3 m3

end Go.Proofs.Ytbdmdgghhefmcaa
