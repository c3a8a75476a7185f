/-
  What 'goOn' comes to.
-/
import Derived.Test.YtcepgedbmffkdaaGreatFbtZ34
import Derived.Test.YtcepgedbmffkdaaGreatFbtZ1
import Derived.Deep.Cut
import Derived.Deep.CutRange
namespace Go.Proofs.YtcepgedbmffkdaaGreat
open Go.RowKit
set_option linter.unusedVariables false
set_option linter.unusedSimpArgs false

/-- What a step of the way leaves. -/
def Step (w : World) (D d wp mp : Nat) (fs : List Fr) (e : Ending) (w' : World) : Prop :=
  (fs.all Fr.ok = false ∧ e = .returned (.bool false) ∧ Below w.heap.size w w') ∨ (e = .returned (.bool true) ∧ ∃ v' fs' cs', PDyn w w' wp mp v' fs' cs' ∧ PSt w D d fs' cs' ∧ fs'.all Fr.ok = fs.all Fr.ok ∧ wsum fs' < wsum fs)

theorem p_same {w wr : World} {wp mp c : Nat} {v : Value} {fs : List Fr} {cs : List Nat} (h : PDyn w wr wp mp v fs (c :: cs)) (hc : c ∈ cs) : PDyn w wr wp mp v fs cs := by
  obtain ⟨h1, h2, h3, h4, h5, h6, es, clock, hm, hk⟩ := h
  refine ⟨h1, h2, h3, h4, h5, h6, es, clock, hm, fun e he => ?_⟩
  obtain ⟨c', hc', e'⟩ := hk e he
  rcases List.mem_cons.1 hc' with rfl | hc'
  · exact ⟨_, hc, e'⟩
  · exact ⟨_, hc', e'⟩

set_option maxHeartbeats 4000000 in
theorem goOn_pop (D d : Nat) (w wr : World) (wp mp : Nat) (v : Value) (init : List Fr) (f : Fr) (cs : List Nat) (hD : PDyn w wr wp mp v (init ++ [f]) cs) (hS : PSt w D d (init ++ [f]) cs) (hn : f.n = 2) (hsz : init.length ≤ 2097153) :
    Calls Tryz.prog 100 #[.pointer (some ⟨wp, 0, none⟩)] wr (Step w D d wp mp (init ++ [f])) := by
  obtain ⟨g, cap, cur, rfl, hh, hgw, hgp, hgm, hc1, hc2, hcu, hq0, hq1, hDpop, hDnext⟩ := p_top hD
  have b0 := row_cell hD.box 0
  have b1 := row_cell hD.box 1
  rw [hn] at hq1
  have e1 : ((init.length : Int) + 1 - 1) = init.length := by omega
  have hwl : wp < wr.heap.size := (Array.getElem?_eq_some_iff.1 hD.box).1
  have hgl : g < wr.heap.size := (Array.getElem?_eq_some_iff.1 hh).1
  go_enter Tryz.func100, Tryz.ntmps100
  go_wp2_with fail
  go_region
  go_wp2_with fail
  have hD1 : PDyn w wr.drew wp mp (.slice (some ⟨g, 0, none⟩) (init.length + 1) cap) (init ++ [f]) cs := p_below hD (Below.refl _ _).drew
  have n1 : wr.drew.cell? ⟨wp, 1, none⟩ = some (.map (some mp)) := b1
  have n2 : wr.drew.cell? ⟨g, init.length * 2, none⟩ = some (.slice (some ⟨f.g, 0, none⟩) 2 f.cap) := hq0
  have hwl1 : wp < wr.drew.heap.size := hwl
  have hgl1 : g < wr.drew.heap.size := hgl
  clear b0 b1 hq0 hq1 hD hDpop hDnext hh hwl hgl
  generalize wr.drew = Y1 at *
  have hcin : f.g ∈ cs := hS.cin f (by simp)
  have hfr : ∀ x, x = f.g ∨ x ∈ cs → ∃ a t, w.heap[x]? = some (.cells a t (0, 0)) := fun x hx => by
    rcases hx with rfl | hx
    · exact hS.fro _ hcin
    · exact hS.fro x hx
  go_region_law (go_simp; go_at_call 80; refine (placeOf_any f.g f.cap _).mono ?_; rintro e w2 ⟨rfl, hb2⟩; have n1' : w2.cell? ⟨wp, 1, none⟩ = some (.map (some mp)) := (bcell hb2 hwl1 1).trans n1; obtain ⟨Z, hup, hDZ, hZo, hZs⟩ := p_key (p_below (p_below hD1 (Below.refl _ _).drew) hb2) f.g hfr (.int .i64 2); have z0 := row_cell hDZ.box 0; have zf := row_free hDZ.box 0; unfold keyP at *)
  all_goals (try go_wp2_with fail)
  all_goals
    go_ret
    obtain ⟨g', cap', cur', hv', _, _, _, _, _, _, _, _, _, hDp, _⟩ := p_top hDZ
    cases hv'
    obtain ⟨hS1, hok, hw⟩ := st_pop hS hn
    exact Or.inr ⟨rfl, _, init, cs, p_same hDp hcin, hS1, hok.symm, hw⟩

theorem ask_any2 (D d : Nat) (t : Tm) (a1 : Option Addr) (l1 c1 : Nat) (a2 : Option Addr) (l2 c2 : Nat) (a3 : Option Addr) (l3 c3 : Nat) (bs : List Nat) (w wr : World) (wp mp : Nat) (v : Value) (fs : List Fr) (cs : List Nat) (hD : PDyn w wr wp mp v fs cs) (hS : PSt w D d fs cs)
    (hI : FldO w D (OwM w D d) t a1 l1 a2 l2 a3 l3 bs) (hnd : (bs ++ (fs.flatMap Fr.left ++ cs)).Nodup) (hbd : ∀ b ∈ bs, b < w.heap.size) (hsz : fs.length ≤ 2097153) :
    Calls Tryz.prog 99 #[.pointer (some ⟨wp, 0, none⟩), .agg #[.int .i64 t.K, .int .i64 t.N, .string t.S, .string t.Z, .int .i64 t.T.K, .int .i64 t.T.N, .slice a1 l1 c1, .slice a2 l2 c2, .slice a3 l3 c3]] wr fun e w' => ∃ b, e = .returned (.bool b) ∧ ((b = false ∧ pureM t = false ∧ Below w.heap.size w w') ∨ (b = true ∧ ∃ v' fs' cs', PDyn w w' wp mp v' fs' cs' ∧ PSt w D d fs' cs' ∧ fs'.all Fr.ok = (pureM t && fs.all Fr.ok) ∧ wsum fs' ≤ wsum fs + 2 * cntM t)) := by
  refine (ask_any D d t a1 l1 c1 a2 l2 c2 a3 l3 c3 bs w wr wp mp v fs cs hD hS hI hnd hbd hsz).mono ?_
  rintro e w' (⟨h1, h2, h3⟩ | ⟨h1, h2⟩)
  · exact ⟨false, h2, Or.inl ⟨rfl, h1, h3⟩⟩
  · exact ⟨true, h1, Or.inr ⟨rfl, h2⟩⟩

set_option maxHeartbeats 4000000 in
theorem goOn_next (D d : Nat) (w wr : World) (wp mp : Nat) (v : Value) (init : List Fr) (f : Fr) (cs : List Nat) (hD : PDyn w wr wp mp v (init ++ [f]) cs) (hS : PSt w D d (init ++ [f]) cs) (hn : f.n < 2) (hsz : init.length + 1 ≤ 2097153) :
    Calls Tryz.prog 100 #[.pointer (some ⟨wp, 0, none⟩)] wr (Step w D d wp mp (init ++ [f])) := by
  obtain ⟨g, cap, cur, rfl, hh, hgw, hgp, hgm, hc1, hc2, hcu, hq0, hq1, hDpop, hDnext⟩ := p_top hD
  have b0 := row_cell hD.box 0
  have b1 := row_cell hD.box 1
  have e1 : ((init.length : Int) + 1 - 1) = init.length := by omega
  have e2 : ((f.n : Int) + 1 - 1) = f.n := by omega
  have hne : ((f.n : Int) == 2) = false := by rw [beq_eq_false_iff_ne]; omega
  have hwr : IntKind.i64.wrap (f.n : Int) = (f.n : Int) := by rw [IntKind.wrap_i64]; omega
  have hn0 : (0 : Int) ≤ f.n := by omega
  have hn2 : (f.n : Int) < 2 := by omega
  have hwl : wp < wr.heap.size := (Array.getElem?_eq_some_iff.1 hD.box).1
  have hgl : g < wr.heap.size := (Array.getElem?_eq_some_iff.1 hh).1
  have hfz := row_free hh (init.length * 2 + 1)
  have hf := hS.ok f (by simp)
  have hi : f.n < f.ts.length := by have := hf.lt; omega
  have hi' : f.n < f.bss.length := by have := hf.lb; omega
  have hfg : f.g < w.heap.size := hS.bnd _ (List.mem_append_right _ (hS.cin f (by simp)))
  obtain ⟨hS1, hnd, hbd, hok, hwt⟩ := st_next hS hn hi hi'
  obtain ⟨a1, l1, c1, a2, l2, c2, a3, l3, c3, h9, hfl⟩ := hf.it f.n hi hi'
  have hbel := hD.bel
  obtain ⟨W, hW⟩ : ∃ W, W = (wr.setCell ⟨g, init.length * 2 + 1, none⟩ (.int .i64 ((f.n : Int) + 1))).drew := ⟨_, rfl⟩
  have hDW : PDyn w W wp mp (.slice (some ⟨g, 0, none⟩) (init.length + 1) cap) (init ++ [f.next]) cs := by rw [hW]; exact p_below hDnext (Below.refl _ _).drew
  have hWg : W.heap[g]? = some (.cells (cur.setIfInBounds (init.length * 2 + 1) (.int .i64 ((f.n : Int) + 1))) 192 (0, 0)) := by rw [hW]; exact row_set hh _ _
  have y0 : W.cell? ⟨g, init.length * 2, none⟩ = some (.slice (some ⟨f.g, 0, none⟩) 2 f.cap) := by
    rw [row_cell hWg, Array.getElem?_setIfInBounds_ne (by omega), ← row_cell hh]; exact hq0
  have y1 : W.cell? ⟨g, init.length * 2 + 1, none⟩ = some (.int .i64 ((f.n : Int) + 1)) := by
    rw [row_cell hWg, Array.getElem?_setIfInBounds_self_of_lt hcu]
  obtain ⟨f0, f1, f2, f3, f4, f5, f6, f7, f8⟩ := h9.world (hDW.bel.block f.g hfg)
  have HW : Hid (W = _) := hW
  clear hW hWg hDpop hDnext hh
  go_enter Tryz.func100, Tryz.ntmps100
  go_wp2_with fail
  go_region
  go_wp2_with fail
  rw [← HW.out]
  have hwo : wp < W.heap.size := (Array.getElem?_eq_some_iff.1 hDW.box).1
  go_region_law (go_simp; go_at_call 99; refine (ask_any2 D d f.ts[f.n] a1 l1 c1 a2 l2 c2 a3 l3 c3 f.bss[f.n] w _ wp mp _ (init ++ [f.next]) cs (p_below hDW (Below.refl _ _).drew) hS1 hfl hnd hbd (by simp; omega)).mono ?_; rintro e w2 ⟨b, rfl, hpost⟩)
  all_goals
    go_wp2_with fail
    go_ret
    rcases hpost with ⟨rfl, hp, hb⟩ | ⟨rfl, v', fs', cs', hD', hS', hok', hw'⟩
    · exact Or.inl ⟨by rw [hok, hp]; rfl, rfl, hb⟩
    · exact Or.inr ⟨rfl, v', fs', cs', hD', hS', by rw [hok', hok], by omega⟩

end Go.Proofs.YtcepgedbmffkdaaGreat

/-
  A least measure for a relation.
-/
namespace Go.Proofs.YtcepgedbmffkdaaGreat
open Go.RowKit
set_option linter.unusedVariables false
set_option linter.unusedSimpArgs false

theorem least_ex (R : Value → World → Nat → Prop) : ∃ μ : Value → World → Nat, ∀ v wr n, R v wr n → μ v wr ≤ n ∧ R v wr (μ v wr) := by
  classical
  have h : ∀ v wr, ∃ m, ∀ n, R v wr n → m ≤ n ∧ R v wr m := by
    intro v wr
    have key : ∀ n, R v wr n → ∃ m, R v wr m ∧ ∀ k, R v wr k → m ≤ k := by
      intro n
      induction n using Nat.strongRecOn with
      | ind n ih =>
        intro hn
        by_cases hs : ∃ k, k < n ∧ R v wr k
        · obtain ⟨k, hk, hR⟩ := hs
          exact ih k hk hR
        · exact ⟨n, hn, fun k hk => by
            by_cases hlt : k < n
            · exact (hs ⟨k, hlt, hk⟩).elim
            · omega⟩
    by_cases he : ∃ n, R v wr n
    · obtain ⟨n, hn⟩ := he
      obtain ⟨m, h1, h2⟩ := key n hn
      exact ⟨m, fun k hk => ⟨h2 k hk, h1⟩⟩
    · exact ⟨0, fun n hn => (he ⟨n, hn⟩).elim⟩
  exact ⟨fun v wr => Classical.choose (h v wr), fun v wr n hn => Classical.choose_spec (h v wr) n hn⟩

end Go.Proofs.YtcepgedbmffkdaaGreat

/-
  What the program's 'Pure' comes to, of a term whose lists have blocks of their own.
-/
namespace Go.Proofs.YtcepgedbmffkdaaGreat
open Go.RowKit
set_option linter.unusedVariables false
set_option linter.unusedSimpArgs false

def PR (w : World) (D d wp mp : Nat) (b : Bool) (p : Value) (wr : World) (n : Nat) : Prop :=
  ∃ b0, p = .bool b0 ∧ ((b0 = false ∧ b = false ∧ Below w.heap.size w wr) ∨ (b0 = true ∧ ∃ v fs cs, PDyn w wr wp mp v fs cs ∧ PSt w D d fs cs ∧ fs.all Fr.ok = b ∧ wsum fs = n ∧ n ≤ 2097153))

set_option maxRecDepth 100000 in
set_option maxHeartbeats 4000000 in
theorem pure_any (D d L B : Nat) (t : Tm) (a1 : Option Addr) (l1 c1 : Nat) (a2 : Option Addr) (l2 c2 : Nat) (a3 : Option Addr) (l3 c3 : Nat) (w : World) (hB : B ≤ w.heap.size) (hf : FmO L B w D d t a1 l1 a2 l2 a3 l3) (hc : cntM t ≤ 1048576) :
    Calls Tryz.prog 75 #[.agg #[.int .i64 t.K, .int .i64 t.N, .string t.S, .string t.Z, .int .i64 t.T.K, .int .i64 t.T.N, .slice a1 l1 c1, .slice a2 l2 c2, .slice a3 l3 c3]] w fun e w' => e = .returned (.bool (pureM t)) ∧ Below w.heap.size w w' := by
  have hmk : ∀ w : World, (Instr.makeMap 167 none).run Tryz.prog w = .ok (.map (some w.heap.size)) (w.alloc (.map #[] 0)) := fun w => rfl
  obtain ⟨bs, hI, hnd, hbd⟩ := hf
  obtain ⟨b, hb0⟩ : ∃ b, pureM t = b := ⟨_, rfl⟩
  rw [hb0]
  obtain ⟨X, hX⟩ : ∃ X, X = ((w.alloc (.cells #[.int .i64 t.K, .int .i64 t.N, .string t.S, .string t.Z, .int .i64 t.T.K, .int .i64 t.T.N, .slice a1 l1 c1, .slice a2 l2 c2, .slice a3 l3 c3] 34)).alloc (.map #[] 0)).alloc (.cells #[.slice none 0 0, .map (some (w.heap.size + 1))] 170) := ⟨_, rfl⟩
  have hXb : Below w.heap.size w X := by rw [hX]; exact (((Below.refl _ _).alloc (Nat.le_refl _) _).alloc (by simp) _).alloc (by simp; omega) _
  have hXt : X.heap[w.heap.size]? = some (.cells #[.int .i64 t.K, .int .i64 t.N, .string t.S, .string t.Z, .int .i64 t.T.K, .int .i64 t.T.N, .slice a1 l1 c1, .slice a2 l2 c2, .slice a3 l3 c3] 34 (0, 0)) := by
    rw [hX, Below.heap_alloc _ _ _ (by simp; omega), Below.heap_alloc _ _ _ (by simp)]; exact heap_new rfl
  have hXm : X.heap[w.heap.size + 1]? = some (.map #[] 0) := by rw [hX, Below.heap_alloc _ _ _ (by simp)]; exact heap_new (by simp)
  have hXw : X.heap[w.heap.size + 1 + 1]? = some (.cells #[.slice none 0 0, .map (some (w.heap.size + 1))] 170 (0, 0)) := by rw [hX]; exact heap_new (by simp)
  have hD0 : PDyn w X (w.heap.size + 1 + 1) (w.heap.size + 1) (.slice none 0 0) [] [] := ⟨hXb, by omega, by omega, hXw, ⟨rfl, Or.inl ⟨rfl, rfl⟩⟩, fun x hx => by simp [Value.ownBlock] at hx, ⟨#[], 0, hXm, fun e he => by simp at he⟩⟩
  have hS0 : PSt w D d [] [] := ⟨by simp, by simp, by simp, by simp, by simp⟩
  obtain ⟨f0, f1, f2, f3, f4, f5, f6, f7, f8⟩ := Nine.box hXt
  obtain ⟨μ, hμ⟩ := least_ex (PR w D d (w.heap.size + 1 + 1) (w.heap.size + 1) b)
  have HM : Hid (∀ v wr n, _) := hμ
  have HX : Hid (X = _) := hX
  have HC : Hid (cntM t ≤ 1048576) := hc
  clear hμ hX hXt hXm hXw hc
  go_enter Tryz.func75, Tryz.ntmps75
  go_wp2_with fail
  rw [← HX.out]
  refine (ask_any2 D d t a1 l1 c1 a2 l2 c2 a3 l3 c3 bs w X _ _ _ [] [] hD0 hS0 hI (by simpa using hnd) (fun b hb => Nat.lt_of_lt_of_le (hbd b hb).2 hB) (by simp)).mono ?_
  rintro e w1 ⟨b1, rfl, hpost⟩
  have hStart : ∃ n, PR w D d (w.heap.size + 1 + 1) (w.heap.size + 1) b (.bool b1) w1 n := by
    rcases hpost with ⟨rfl, hp, hb⟩ | ⟨rfl, v', fs', cs', hD', hS', hok', hw'⟩
    · exact ⟨0, false, rfl, Or.inl ⟨rfl, hb0.symm.trans hp, hb⟩⟩
    · exact ⟨_, true, rfl, Or.inr ⟨rfl, v', fs', cs', hD', hS', by simpa [hb0] using hok', rfl, by have := HC.out; have h0 : wsum ([] : List Fr) = 0 := rfl; omega⟩⟩
  clear hpost f0 f1 f2 f3 f4 f5 f6 f7 f8 hD0 hS0 hI hnd hbd
  generalize w.heap.size + 1 + 1 = wp at *
  generalize w.heap.size + 1 = mp at *
  go_wp2_with fail
  go_loopw [4] (fun u wr => ∃ n, PR w D d wp mp b u wr n) (fun u wr => μ u wr)
  case atStart => exact hStart
  case round =>
    obtain ⟨n0, hR0⟩ := hrel
    obtain ⟨_, b0, rfl, hR⟩ := HM.out _ _ _ hR0
    clear hStart hR0
    rcases hR with ⟨rfl, rfl, hb⟩ | ⟨rfl, v, fs, cs, hD, hS, hok, hsum, hbd⟩
    · go_wp2_with fail
      go_ret
      exact ⟨rfl, hb⟩
    · have y0 := row_cell hD.box 0
      rcases (by simpa [List.concat_eq_append] using List.eq_nil_or_concat fs : fs = [] ∨ ∃ init it, fs = init ++ [it]) with rfl | ⟨init, f, rfl⟩
      · have hv : ∃ ao cap, v = .slice ao 0 cap := by
          rcases hD.row.2 with ⟨e, _⟩ | ⟨g, cap, cur, e, _⟩
          · exact ⟨none, 0, e⟩
          · exact ⟨_, cap, e⟩
        obtain ⟨ao, cap, rfl⟩ := hv
        have hbt : b = true := by rw [← hok]; rfl
        subst hbt
        go_wp2_with fail
        go_ret
        exact ⟨rfl, hD.bel⟩
      · obtain ⟨g, cap, cur, rfl, _⟩ := p_top hD
        have hg0 : (0 : Int) < (init.length : Int) + 1 := by omega
        have hlen := wsum_len (init ++ [f])
        simp only [List.length_append, List.length_singleton] at hlen
        have hcall : Calls Tryz.prog 100 #[.pointer (some ⟨wp, 0, none⟩)] wr (fun e w' => ∃ b2, e = .returned (.bool b2) ∧ ∃ n, PR w D d wp mp b (.bool b2) w' n ∧ n < wsum (init ++ [f])) := by
          have hfn := (hS.ok f (by simp)).n
          have hstep : Calls Tryz.prog 100 #[.pointer (some ⟨wp, 0, none⟩)] wr (Step w D d wp mp (init ++ [f])) := by
            by_cases h2 : f.n = 2
            · exact goOn_pop D d w wr wp mp _ init f cs hD hS h2 (by omega)
            · exact goOn_next D d w wr wp mp _ init f cs hD hS (by omega) (by omega)
          refine hstep.mono ?_
          rintro e w' (⟨h1, h2, h3⟩ | ⟨h1, v', fs', cs', h2, h3, h4, h5⟩)
          · exact ⟨false, h2, 0, ⟨false, rfl, Or.inl ⟨rfl, by rw [← hok]; exact h1, h3⟩⟩, by omega⟩
          · exact ⟨true, h1, wsum fs', ⟨true, rfl, Or.inr ⟨rfl, v', fs', cs', h2, h3, by rw [h4, hok], rfl, by omega⟩⟩, h5⟩
        have HS : Hid (wsum (init ++ [f]) = _) := hsum
        clear hD hS hok hsum hbd hlen
        go_wp2_with fail
        refine hcall.mono ?_
        rintro e w2 ⟨b2, rfl, n2, hR2, hlt⟩
        go_wp2_with fail
        go_roundw
        case rel => exact ⟨n2, hR2⟩
        case measure =>
          have h1 := (HM.out _ _ _ hR2).1
          have h2 := HS.out
          omega

end Go.Proofs.YtcepgedbmffkdaaGreat
