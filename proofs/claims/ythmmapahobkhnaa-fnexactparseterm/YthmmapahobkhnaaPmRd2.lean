/-
  What the model's 'l1Read' comes to.
-/
import Derived.Test.YthmmapahobkhnaaPmZ5
import Derived.Test.YthmmapahobkhnaaPmZ16
import Derived.Test.YthmmapahobkhnaaPmZ18
namespace Go.Proofs.Ythmmapahobkhnaa
open Go.RowKit
set_option linter.unusedVariables false
set_option linter.unusedSimpArgs false

theorem Rdr.keep {L B : Nat} {w w' : World} {p : Nat} {ao : Option Addr} {len cap a : Nat} {bad : Bool} {T : List (List UInt8)} (h : Rdr L B w p ao len cap a bad T) (hb : ∀ k, k ≤ p → w'.heap[k]? = w.heap[k]?) : Rdr L B w' p ao len cap a bad T := by
  refine ⟨(hb p (Nat.le_refl _)).trans h.row, ⟨h.toks.1, fun i hi => ?_⟩, h.le, h.sm, h.lo⟩
  obtain ⟨b, o, e, h1, h2, h3⟩ := h.toks.2 i hi
  have := h.lo
  exact ⟨b, o, e, h1, h2, (World.cell?_of_block (a := ⟨b, o + i, none⟩) (hb b (by omega))).trans h3⟩

/-- How a reading ends. -/
def RdEnd (L B : Nat) (w w' : World) (e : Ending) (p : Nat) (ao : Option Addr) (len cap : Nat) (T : List (List UInt8)) (a d : Nat) (R : Option (Tr × Nat)) : Prop :=
  ∃ (t' : Tr) (ao2 : Option Addr) (len2 cap2 a' : Nat) (bad' : Bool), e = .returned (.agg #[.int .i64 t'.K, .int .i64 t'.N, .slice ao2 len2 cap2]) ∧ w.grownBy w' (some p) ∧ Rdr L B w' p ao len cap a' bad' T ∧ OwR w.heap.size w'.heap.size w' d ao2 len2 t'.A ∧ bad' = R.isNone ∧ ∀ t u, R = some (t, u) → t' = t ∧ a' = a + u

def SaidRd (dp : Nat) : Prop := ∀ (p : Nat) (ao : Option Addr) (len cap a L B : Nat) (T : List (List UInt8)) (w : World), Rdr L B w p ao len cap a false T →
    Calls Try.prog 30 #[.pointer (some ⟨p, 0, none⟩), .int .i64 dp] w fun e w' => RdEnd L B w w' e p ao len cap T a dp (prs dp (T.drop a))

structure ReRel (L B : Nat) (w wr : World) (p : Nat) (ao : Option Addr) (len cap a : Nat) (bad : Bool) (T : List (List UInt8)) (r d : Nat) (K N : Int) (v : Value) (us : List Tr) : Prop where
  grown : w.grownBy wr (some p)
  rdr : Rdr L B wr p ao len cap a bad T
  res : wr.heap[w.heap.size]? = some (.cells #[.int .i64 0, .int .i64 0, .slice none 0 0] 24 (0, 0))
  out : wr.heap[r]? = some (.cells #[.int .i64 K, .int .i64 N, v] 24 (0, 0))
  ap : ApRel (r + 1) wr d v us.length us

theorem gtrans {a b c : World} {r : Option Nat} (h : a.grownBy b r) (k : b.grownBy c r) : a.grownBy c r :=
  ⟨k.os.trans h.os, k.tape.trans h.tape, k.output.trans h.output, Nat.le_trans h.size k.size, fun i hi hr => (k.block i (Nat.lt_of_lt_of_le hi h.size) hr).trans (h.block i hi hr)⟩
theorem gbelow {a b : World} (r : Option Nat) (h : Below a.heap.size a b) : a.grownBy b r := ⟨h.os, h.tape, h.output, h.size, fun k hk _ => h.block k hk⟩

theorem re_next {L B : Nat} {w wr w4 : World} {p : Nat} {ao : Option Addr} {len cap a a' : Nat} {bad bad' : Bool} {T : List (List UInt8)} {r d : Nat} {K N : Int} {v : Value} {us : List Tr} (h : ReRel L B w wr p ao len cap a bad T r d K N v us) (hp : p < w.heap.size) (hr : w.heap.size < r) (hl : us.length ≤ 1000000)
    (hg : wr.grownBy w4 (some p)) (hR : Rdr L B w4 p ao len cap a' bad' T) (K3 N3 : Int) (ao3 : Option Addr) (len3 cap3 : Nat) (ts3 : List Tr) (ho : OwR wr.heap.size w4.heap.size w4 d ao3 len3 ts3) :
    ∃ g cp w2, (Builtin.append_ #[22, 22] 22 #[v, .slice (some ⟨w4.heap.size, 0, none⟩) 1 1]).run Try.prog (w4.alloc (.cells #[.int .i64 K3, .int .i64 N3, .slice ao3 len3 cap3] 24)) = .ok (.slice (some ⟨g, 0, none⟩) (us.length + 1) cp) w2 ∧
      w4.cell? ⟨r, 2, none⟩ = some v ∧ r < w4.heap.size ∧ w2.cell? ⟨r, 2, none⟩ = some v ∧ w2.frozen? ⟨r, 2, none⟩ = false ∧
      ReRel L B w (w2.setCell ⟨r, 2, none⟩ (.slice (some ⟨g, 0, none⟩) (us.length + 1) cp)) p ao len cap a' bad' T r d K N (.slice (some ⟨g, 0, none⟩) (us.length + 1) cp) (us ++ [⟨K3, N3, ts3⟩]) := by
  have hrl : r < wr.heap.size := (Array.getElem?_eq_some_iff.1 h.out).1
  have hsm : Sm (r + 1) wr w4 := Sm.grown hg (by omega)
  have hap := ap_more h.ap rfl ⟨K3, N3, ts3⟩
  have e : (us ++ [(⟨K3, N3, ts3⟩ : Tr)])[us.length]'(by simp) = ⟨K3, N3, ts3⟩ := by simp
  have hrun := ap_run2 (ao1 := ao3) (len1 := len3) (cap1 := cap3) hap (by simp) (by simp; omega) hsm (by omega) (by rw [e]; exact ho)
  rw [e] at hrun
  obtain ⟨g, cp, w2, hrun, hap2, hlo⟩ := hrun
  have o1 := (hg.block r hrl (by simp; omega)).trans h.out
  have o2 := (hlo.block r (by omega)).trans o1
  have hsz1 := hg.size
  have hsz0 := h.grown.size
  refine ⟨g, cp, w2, hrun, (box_cells o1).2.2, by omega, (box_cells o2).2.2, row_free o2 2, ⟨?_, ?_, ?_, ?_, ?_⟩⟩
  · refine ⟨hlo.os.trans (hg.os.trans h.grown.os), hlo.tape.trans (hg.tape.trans h.grown.tape), hlo.output.trans (hg.output.trans h.grown.output), by simp; have := hlo.size; omega, fun q hq hne => ?_⟩
    rw [row_other _ _ _ (by omega), hlo.block q (by omega), hg.block q (by omega) hne]
    exact h.grown.block q hq hne
  · exact hR.keep fun q hq => by rw [row_other _ _ _ (by omega)]; exact hlo.block q (by omega)
  · rw [row_other _ _ _ (by omega), hlo.block _ (by omega)]
    exact (hg.block _ (by omega) (by simp; omega)).trans h.res
  · rw [row_set o2]; rfl
  · have e2 : (us ++ [(⟨K3, N3, ts3⟩ : Tr)]).length = us.length + 1 := by simp
    rw [e2]
    exact ap_set hap2 (by omega) _

/-- Behind the token: the box of what is read. -/
theorem re_start {L B : Nat} {w w1 : World} {p : Nat} {ao : Option Addr} {len cap a : Nat} {bad : Bool} {T : List (List UInt8)} (hp : p < w.heap.size) (hg : (w.alloc (.cells #[.int .i64 0, .int .i64 0, .slice none 0 0] 24)).grownBy w1 (some p)) (hR : Rdr L B w1 p ao len cap a bad T) (d : Nat) (K N : Int) :
    ReRel L B w (w1.alloc (.cells #[.int .i64 K, .int .i64 N, .slice none 0 0] 24)) p ao len cap a bad T w1.heap.size d K N (.slice none 0 0) [] := by
  have hX : Below w.heap.size w (w.alloc (.cells #[.int .i64 0, .int .i64 0, .slice none 0 0] 24)) := (Below.refl _ _).alloc (Nat.le_refl _) _
  have hA : Below w1.heap.size w1 (w1.alloc (.cells #[.int .i64 K, .int .i64 N, .slice none 0 0] 24)) := (Below.refl _ _).alloc (Nat.le_refl _) _
  have hz := hg.size
  simp only [World.size_alloc] at hz
  refine ⟨gtrans (gtrans (gbelow _ hX) hg) (gbelow _ hA), hR.below hA, (hA.block _ (by omega)).trans ((hg.block _ (by simp) (by simp; omega)).trans (heap_new rfl)), heap_new rfl, ap_nil _ _ _ _⟩

/-- What is handed back. -/
theorem re_end {L B : Nat} {w wr : World} {p : Nat} {ao : Option Addr} {len cap a a0 : Nat} {bad : Bool} {T : List (List UInt8)} {r d d' : Nat} {K N : Int} {ao2 : Option Addr} {len2 cap2 : Nat} {us : List Tr} {R : Option (Tr × Nat)} (h : ReRel L B w wr p ao len cap a bad T r d K N (.slice ao2 len2 cap2) us) (hp : p < w.heap.size) (hr : w.heap.size < r) (hl : us.length ≤ 1000000) (hd : us = [] ∨ d + 1 ≤ d')
    (hbad : bad = R.isNone) (hR : ∀ t u, R = some (t, u) → (⟨K, N, us⟩ : Tr) = t ∧ a = a0 + u) :
    RdEnd L B w (set3 wr w.heap.size 0 (.int .i64 K) (.int .i64 N) (.slice ao2 len2 cap2)) (.returned (.agg #[.int .i64 K, .int .i64 N, .slice ao2 len2 cap2])) p ao len cap T a0 d' R := by
  obtain ⟨ao3, cap3, e, ho⟩ := ap_done h.ap rfl (by omega)
  cases e
  have hz := h.grown.size
  refine ⟨⟨K, N, us⟩, ao2, us.length, cap2, a, bad, rfl, ⟨h.grown.os, h.grown.tape, h.grown.output, by rw [set3_size]; exact hz, fun q hq hne => (set3_other _ (by omega)).trans (h.grown.block q hq hne)⟩, h.rdr.keep fun q hq => set3_other _ (by omega), ?_, hbad, hR⟩
  rcases hd with rfl | hd
  · exact OwR.nil _ _ _ _ _
  · rw [set3_size]
    exact (ho.keep (fun q hq _ => set3_other _ (by omega)) (by omega) (Nat.le_refl _)).deeper hd

theorem prs_no {l : Nat} {x : List UInt8} {T : List (List UInt8)} (h : tokTy x = none) : prs l (x :: T) = none := by
  cases l with
  | zero => rfl
  | succ l => rw [prs, h]
theorem prs_end (l : Nat) : prs l [] = none := by cases l <;> rfl

/-- Where the reading of the parts stands. -/
def PS (d m j a a' : Nat) (bad : Bool) (T : List (List UInt8)) (us : List Tr) : Prop :=
  (bad = false ∧ ∃ used, a' = a + 1 + used ∧ Half (prs d) m j (T.drop (a + 1)) us used) ∨ (bad = true ∧ prsN (prs d) m (T.drop (a + 1)) = none)
theorem ps_next {d m j a a' a4 : Nat} {bad4 : Bool} {T : List (List UInt8)} {us : List Tr} {t' : Tr} (h : PS d m j a a' false T us) (hj : j < m) (hb : bad4 = (prs d (T.drop a')).isNone) (hr : ∀ t u, prs d (T.drop a') = some (t, u) → t' = t ∧ a4 = a' + u) : PS d m (j + 1) a a4 bad4 T (us ++ [t']) := by
  rcases h with ⟨_, used, rfl, hh⟩ | ⟨h, _⟩
  · have hdd : T.drop (a + 1 + used) = (T.drop (a + 1)).drop used := by rw [List.drop_drop]
    cases hp : prs d (T.drop (a + 1 + used)) with
    | none =>
      rw [hp] at hb
      exact Or.inr ⟨hb, half_none hh hj (by rw [← hdd]; exact hp)⟩
    | some q =>
      obtain ⟨t, u⟩ := q
      obtain ⟨rfl, rfl⟩ := hr t u hp
      rw [hp] at hb
      exact Or.inl ⟨hb, used + u, by omega, half_next hh hj (by rw [← hdd]; exact hp)⟩
  · cases h

set_option maxRecDepth 100000 in
set_option maxHeartbeats 16000000 in
theorem rd_zero : SaidRd 0 := by
  intro p ao len cap a L B T w h
  have hp := h.lt
  have hX : Below w.heap.size w (w.alloc (.cells #[.int .i64 0, .int .i64 0, .slice none 0 0] 24)) := (Below.refl _ _).alloc (Nat.le_refl _) _
  by_cases hae : a = len
  · have HN : Hid (prs 0 (T.drop a) = none) := by show _ = _; rw [List.drop_eq_nil_of_le (by rw [← h.toks.1]; omega)]; exact prs_end _
    subst hae
    go_enter Try.func30, Try.ntmps30
    go_wp2_with fail
    refine (next_end p ao a cap L B T _ (h.below hX)).mono ?_
    rintro e w1 ⟨rfl, hg1, hR1⟩
    have hz1 := hg1.size
    simp only [World.size_alloc] at hz1
    obtain ⟨g0, g1, g2⟩ := box_cells hR1.row
    have g3 := row_free hR1.row
    have hpw1 : p < w1.heap.size := hR1.lt
    go_wp2_with fail
    have hRb : ReRel L B w ((w1.setCell ⟨p, 2, none⟩ (.bool true)).alloc (.cells #[.int .i64 0, .int .i64 0, .slice none 0 0] 24)) p ao a cap a true T w1.heap.size 0 0 0 (.slice none 0 0) [] := by
      have h1 := re_start (K := 0) (N := 0) (d := 0) hp (grown_set (o := 2) (v := .bool true) hg1) (hR1.setB true)
      have e1 : (w1.setCell ⟨p, 2, none⟩ (.bool true)).heap.size = w1.heap.size := by simp
      rw [e1] at h1
      exact h1
    generalize ((w1.setCell ⟨p, 2, none⟩ (.bool true)).alloc (.cells #[.int .i64 0, .int .i64 0, .slice none 0 0] 24)) = V at hRb ⊢
    clear g0 g1 g2 g3
    obtain ⟨g0, g1, g2⟩ := box_cells hRb.rdr.row
    obtain ⟨y0, y1, y2⟩ := box_cells hRb.out
    obtain ⟨x0, x1, x2⟩ := box_cells hRb.res
    have x3 := row_free hRb.res
    have HE := re_end (d' := 0) (a0 := a) (R := prs 0 (T.drop a)) hRb hp (by omega) (by simp) (Or.inl rfl) (by rw [HN.out]; rfl) (fun t u h => by rw [HN.out] at h; cases h)
    clear hRb
    refine wp_loop_rounds 1 ?_; rw [rounds_succ]
    go_wp2_with (go_at_call 42; refine (l1Args_any _ _).mono ?_; rintro e w' ⟨rfl, rfl⟩)
    refine bodyPost_ret (v := .agg #[.int .i64 0, .int .i64 0, .slice none 0 0]) (by simp [results, Try.results30, go_sem, x0, x1, x2]) rfl ?_
    exact HE
  have hal : a < len := by have := h.le; omega
  have haT : a < T.length := by have := h.toks.1; omega
  have HD : Hid (T.drop a = T[a] :: T.drop (a + 1)) := List.drop_eq_getElem_cons haT
  by_cases h1 : T[a] = [105]
  · have HN : Hid (prs 0 (T.drop a) = none) := rfl
    go_enter Try.func30, Try.ntmps30
    go_wp2_with fail
    refine (next_tok p ao len cap a L B T _ (h.below hX) hal haT).mono ?_
    rintro e w1 ⟨rfl, hg1, hR1⟩
    have hz1 := hg1.size
    simp only [World.size_alloc] at hz1
    obtain ⟨g0, g1, g2⟩ := box_cells hR1.row
    have g3 := row_free hR1.row
    have hpw1 : p < w1.heap.size := hR1.lt
    rw [h1]
    unfold tk
    go_wp2_with fail
    have hRb : ReRel L B w ((w1.setCell ⟨p, 2, none⟩ (.bool true)).alloc (.cells #[.int .i64 1, .int .i64 0, .slice none 0 0] 24)) p ao len cap (a + 1) true T w1.heap.size 0 1 0 (.slice none 0 0) [] := by
      have h1 := re_start (K := 1) (N := 0) (d := 0) hp (grown_set (o := 2) (v := .bool true) hg1) (hR1.setB true)
      have e1 : (w1.setCell ⟨p, 2, none⟩ (.bool true)).heap.size = w1.heap.size := by simp
      rw [e1] at h1
      exact h1
    generalize ((w1.setCell ⟨p, 2, none⟩ (.bool true)).alloc (.cells #[.int .i64 1, .int .i64 0, .slice none 0 0] 24)) = V at hRb ⊢
    clear g0 g1 g2 g3
    obtain ⟨g0, g1, g2⟩ := box_cells hRb.rdr.row
    obtain ⟨y0, y1, y2⟩ := box_cells hRb.out
    obtain ⟨x0, x1, x2⟩ := box_cells hRb.res
    have x3 := row_free hRb.res
    have HE := re_end (d' := 0) (a0 := a) (R := prs 0 (T.drop a)) hRb hp (by omega) (by simp) (Or.inl rfl) (by rw [HN.out]; rfl) (fun t u h => by rw [HN.out] at h; cases h)
    clear hRb
    refine wp_loop_rounds 1 ?_; rw [rounds_succ]
    go_wp2_with (go_at_call 42; refine (l1Args_any _ _).mono ?_; rintro e w' ⟨rfl, rfl⟩)
    refine bodyPost_ret (v := .agg #[.int .i64 1, .int .i64 0, .slice none 0 0]) (by simp [results, Try.results30, go_sem, x0, x1, x2]) rfl ?_
    exact HE
  by_cases h2 : T[a] = [98]
  · have HN : Hid (prs 0 (T.drop a) = none) := rfl
    go_enter Try.func30, Try.ntmps30
    go_wp2_with fail
    refine (next_tok p ao len cap a L B T _ (h.below hX) hal haT).mono ?_
    rintro e w1 ⟨rfl, hg1, hR1⟩
    have hz1 := hg1.size
    simp only [World.size_alloc] at hz1
    obtain ⟨g0, g1, g2⟩ := box_cells hR1.row
    have g3 := row_free hR1.row
    have hpw1 : p < w1.heap.size := hR1.lt
    rw [h2]
    unfold tk
    go_wp2_with fail
    have hRb : ReRel L B w ((w1.setCell ⟨p, 2, none⟩ (.bool true)).alloc (.cells #[.int .i64 2, .int .i64 0, .slice none 0 0] 24)) p ao len cap (a + 1) true T w1.heap.size 0 2 0 (.slice none 0 0) [] := by
      have h1 := re_start (K := 2) (N := 0) (d := 0) hp (grown_set (o := 2) (v := .bool true) hg1) (hR1.setB true)
      have e1 : (w1.setCell ⟨p, 2, none⟩ (.bool true)).heap.size = w1.heap.size := by simp
      rw [e1] at h1
      exact h1
    generalize ((w1.setCell ⟨p, 2, none⟩ (.bool true)).alloc (.cells #[.int .i64 2, .int .i64 0, .slice none 0 0] 24)) = V at hRb ⊢
    clear g0 g1 g2 g3
    obtain ⟨g0, g1, g2⟩ := box_cells hRb.rdr.row
    obtain ⟨y0, y1, y2⟩ := box_cells hRb.out
    obtain ⟨x0, x1, x2⟩ := box_cells hRb.res
    have x3 := row_free hRb.res
    have HE := re_end (d' := 0) (a0 := a) (R := prs 0 (T.drop a)) hRb hp (by omega) (by simp) (Or.inl rfl) (by rw [HN.out]; rfl) (fun t u h => by rw [HN.out] at h; cases h)
    clear hRb
    refine wp_loop_rounds 1 ?_; rw [rounds_succ]
    go_wp2_with (go_at_call 42; refine (l1Args_any _ _).mono ?_; rintro e w' ⟨rfl, rfl⟩)
    refine bodyPost_ret (v := .agg #[.int .i64 2, .int .i64 0, .slice none 0 0]) (by simp [results, Try.results30, go_sem, x0, x1, x2]) rfl ?_
    exact HE
  by_cases h3 : T[a] = [118, 48]
  · have HN : Hid (prs 0 (T.drop a) = none) := rfl
    go_enter Try.func30, Try.ntmps30
    go_wp2_with fail
    refine (next_tok p ao len cap a L B T _ (h.below hX) hal haT).mono ?_
    rintro e w1 ⟨rfl, hg1, hR1⟩
    have hz1 := hg1.size
    simp only [World.size_alloc] at hz1
    obtain ⟨g0, g1, g2⟩ := box_cells hR1.row
    have g3 := row_free hR1.row
    have hpw1 : p < w1.heap.size := hR1.lt
    rw [h3]
    unfold tk
    have hv1 : (((⟨#[118, 48]⟩ : ByteArray)[1]'(by decide)).toNat : Int) = 48 := by decide
    go_wp2_with fail
    have hRb : ReRel L B w ((w1.setCell ⟨p, 2, none⟩ (.bool true)).alloc (.cells #[.int .i64 3, .int .i64 0, .slice none 0 0] 24)) p ao len cap (a + 1) true T w1.heap.size 0 3 0 (.slice none 0 0) [] := by
      have h1 := re_start (K := 3) (N := 0) (d := 0) hp (grown_set (o := 2) (v := .bool true) hg1) (hR1.setB true)
      have e1 : (w1.setCell ⟨p, 2, none⟩ (.bool true)).heap.size = w1.heap.size := by simp
      rw [e1] at h1
      exact h1
    generalize ((w1.setCell ⟨p, 2, none⟩ (.bool true)).alloc (.cells #[.int .i64 3, .int .i64 0, .slice none 0 0] 24)) = V at hRb ⊢
    clear g0 g1 g2 g3
    obtain ⟨g0, g1, g2⟩ := box_cells hRb.rdr.row
    obtain ⟨y0, y1, y2⟩ := box_cells hRb.out
    obtain ⟨x0, x1, x2⟩ := box_cells hRb.res
    have x3 := row_free hRb.res
    have HE := re_end (d' := 0) (a0 := a) (R := prs 0 (T.drop a)) hRb hp (by omega) (by simp) (Or.inl rfl) (by rw [HN.out]; rfl) (fun t u h => by rw [HN.out] at h; cases h)
    clear hRb
    refine wp_loop_rounds 1 ?_; rw [rounds_succ]
    go_wp2_with (go_at_call 42; refine (l1Args_any _ _).mono ?_; rintro e w' ⟨rfl, rfl⟩)
    refine bodyPost_ret (v := .agg #[.int .i64 3, .int .i64 0, .slice none 0 0]) (by simp [results, Try.results30, go_sem, x0, x1, x2]) rfl ?_
    exact HE
  by_cases h4 : T[a] = [118, 49]
  · have HN : Hid (prs 0 (T.drop a) = none) := rfl
    go_enter Try.func30, Try.ntmps30
    go_wp2_with fail
    refine (next_tok p ao len cap a L B T _ (h.below hX) hal haT).mono ?_
    rintro e w1 ⟨rfl, hg1, hR1⟩
    have hz1 := hg1.size
    simp only [World.size_alloc] at hz1
    obtain ⟨g0, g1, g2⟩ := box_cells hR1.row
    have g3 := row_free hR1.row
    have hpw1 : p < w1.heap.size := hR1.lt
    rw [h4]
    unfold tk
    have hv1 : (((⟨#[118, 49]⟩ : ByteArray)[1]'(by decide)).toNat : Int) = 49 := by decide
    go_wp2_with fail
    have hRb : ReRel L B w ((w1.setCell ⟨p, 2, none⟩ (.bool true)).alloc (.cells #[.int .i64 3, .int .i64 1, .slice none 0 0] 24)) p ao len cap (a + 1) true T w1.heap.size 0 3 1 (.slice none 0 0) [] := by
      have h1 := re_start (K := 3) (N := 1) (d := 0) hp (grown_set (o := 2) (v := .bool true) hg1) (hR1.setB true)
      have e1 : (w1.setCell ⟨p, 2, none⟩ (.bool true)).heap.size = w1.heap.size := by simp
      rw [e1] at h1
      exact h1
    generalize ((w1.setCell ⟨p, 2, none⟩ (.bool true)).alloc (.cells #[.int .i64 3, .int .i64 1, .slice none 0 0] 24)) = V at hRb ⊢
    clear g0 g1 g2 g3
    obtain ⟨g0, g1, g2⟩ := box_cells hRb.rdr.row
    obtain ⟨y0, y1, y2⟩ := box_cells hRb.out
    obtain ⟨x0, x1, x2⟩ := box_cells hRb.res
    have x3 := row_free hRb.res
    have HE := re_end (d' := 0) (a0 := a) (R := prs 0 (T.drop a)) hRb hp (by omega) (by simp) (Or.inl rfl) (by rw [HN.out]; rfl) (fun t u h => by rw [HN.out] at h; cases h)
    clear hRb
    refine wp_loop_rounds 1 ?_; rw [rounds_succ]
    go_wp2_with (go_at_call 42; refine (l1Args_any _ _).mono ?_; rintro e w' ⟨rfl, rfl⟩)
    refine bodyPost_ret (v := .agg #[.int .i64 3, .int .i64 1, .slice none 0 0]) (by simp [results, Try.results30, go_sem, x0, x1, x2]) rfl ?_
    exact HE
  by_cases h5 : T[a] = [102]
  · have HN : Hid (prs 0 (T.drop a) = none) := rfl
    go_enter Try.func30, Try.ntmps30
    go_wp2_with fail
    refine (next_tok p ao len cap a L B T _ (h.below hX) hal haT).mono ?_
    rintro e w1 ⟨rfl, hg1, hR1⟩
    have hz1 := hg1.size
    simp only [World.size_alloc] at hz1
    obtain ⟨g0, g1, g2⟩ := box_cells hR1.row
    have g3 := row_free hR1.row
    have hpw1 : p < w1.heap.size := hR1.lt
    rw [h5]
    unfold tk
    go_wp2_with fail
    have hRb : ReRel L B w ((w1.setCell ⟨p, 2, none⟩ (.bool true)).alloc (.cells #[.int .i64 4, .int .i64 0, .slice none 0 0] 24)) p ao len cap (a + 1) true T w1.heap.size 0 4 0 (.slice none 0 0) [] := by
      have h1 := re_start (K := 4) (N := 0) (d := 0) hp (grown_set (o := 2) (v := .bool true) hg1) (hR1.setB true)
      have e1 : (w1.setCell ⟨p, 2, none⟩ (.bool true)).heap.size = w1.heap.size := by simp
      rw [e1] at h1
      exact h1
    generalize ((w1.setCell ⟨p, 2, none⟩ (.bool true)).alloc (.cells #[.int .i64 4, .int .i64 0, .slice none 0 0] 24)) = V at hRb ⊢
    clear g0 g1 g2 g3
    obtain ⟨g0, g1, g2⟩ := box_cells hRb.rdr.row
    obtain ⟨y0, y1, y2⟩ := box_cells hRb.out
    obtain ⟨x0, x1, x2⟩ := box_cells hRb.res
    have x3 := row_free hRb.res
    have HE := re_end (d' := 0) (a0 := a) (R := prs 0 (T.drop a)) hRb hp (by omega) (by simp) (Or.inl rfl) (by rw [HN.out]; rfl) (fun t u h => by rw [HN.out] at h; cases h)
    clear hRb
    refine wp_loop_rounds 1 ?_; rw [rounds_succ]
    go_wp2_with (go_at_call 42; refine (l1Args_any _ _).mono ?_; rintro e w' ⟨rfl, rfl⟩)
    refine bodyPost_ret (v := .agg #[.int .i64 4, .int .i64 0, .slice none 0 0]) (by simp [results, Try.results30, go_sem, x0, x1, x2]) rfl ?_
    exact HE
  by_cases h6 : T[a] = [112]
  · have HN : Hid (prs 0 (T.drop a) = none) := rfl
    go_enter Try.func30, Try.ntmps30
    go_wp2_with fail
    refine (next_tok p ao len cap a L B T _ (h.below hX) hal haT).mono ?_
    rintro e w1 ⟨rfl, hg1, hR1⟩
    have hz1 := hg1.size
    simp only [World.size_alloc] at hz1
    obtain ⟨g0, g1, g2⟩ := box_cells hR1.row
    have g3 := row_free hR1.row
    have hpw1 : p < w1.heap.size := hR1.lt
    rw [h6]
    unfold tk
    go_wp2_with fail
    have hRb : ReRel L B w ((w1.setCell ⟨p, 2, none⟩ (.bool true)).alloc (.cells #[.int .i64 5, .int .i64 0, .slice none 0 0] 24)) p ao len cap (a + 1) true T w1.heap.size 0 5 0 (.slice none 0 0) [] := by
      have h1 := re_start (K := 5) (N := 0) (d := 0) hp (grown_set (o := 2) (v := .bool true) hg1) (hR1.setB true)
      have e1 : (w1.setCell ⟨p, 2, none⟩ (.bool true)).heap.size = w1.heap.size := by simp
      rw [e1] at h1
      exact h1
    generalize ((w1.setCell ⟨p, 2, none⟩ (.bool true)).alloc (.cells #[.int .i64 5, .int .i64 0, .slice none 0 0] 24)) = V at hRb ⊢
    clear g0 g1 g2 g3
    obtain ⟨g0, g1, g2⟩ := box_cells hRb.rdr.row
    obtain ⟨y0, y1, y2⟩ := box_cells hRb.out
    obtain ⟨x0, x1, x2⟩ := box_cells hRb.res
    have x3 := row_free hRb.res
    have HE := re_end (d' := 0) (a0 := a) (R := prs 0 (T.drop a)) hRb hp (by omega) (by simp) (Or.inl rfl) (by rw [HN.out]; rfl) (fun t u h => by rw [HN.out] at h; cases h)
    clear hRb
    refine wp_loop_rounds 1 ?_; rw [rounds_succ]
    go_wp2_with (go_at_call 42; refine (l1Args_any _ _).mono ?_; rintro e w' ⟨rfl, rfl⟩)
    refine bodyPost_ret (v := .agg #[.int .i64 5, .int .i64 0, .slice none 0 0]) (by simp [results, Try.results30, go_sem, x0, x1, x2]) rfl ?_
    exact HE
  by_cases h7 : T[a] = [108]
  · have HN : Hid (prs 0 (T.drop a) = none) := rfl
    go_enter Try.func30, Try.ntmps30
    go_wp2_with fail
    refine (next_tok p ao len cap a L B T _ (h.below hX) hal haT).mono ?_
    rintro e w1 ⟨rfl, hg1, hR1⟩
    have hz1 := hg1.size
    simp only [World.size_alloc] at hz1
    obtain ⟨g0, g1, g2⟩ := box_cells hR1.row
    have g3 := row_free hR1.row
    have hpw1 : p < w1.heap.size := hR1.lt
    rw [h7]
    unfold tk
    go_wp2_with fail
    have hRb : ReRel L B w ((w1.setCell ⟨p, 2, none⟩ (.bool true)).alloc (.cells #[.int .i64 6, .int .i64 0, .slice none 0 0] 24)) p ao len cap (a + 1) true T w1.heap.size 0 6 0 (.slice none 0 0) [] := by
      have h1 := re_start (K := 6) (N := 0) (d := 0) hp (grown_set (o := 2) (v := .bool true) hg1) (hR1.setB true)
      have e1 : (w1.setCell ⟨p, 2, none⟩ (.bool true)).heap.size = w1.heap.size := by simp
      rw [e1] at h1
      exact h1
    generalize ((w1.setCell ⟨p, 2, none⟩ (.bool true)).alloc (.cells #[.int .i64 6, .int .i64 0, .slice none 0 0] 24)) = V at hRb ⊢
    clear g0 g1 g2 g3
    obtain ⟨g0, g1, g2⟩ := box_cells hRb.rdr.row
    obtain ⟨y0, y1, y2⟩ := box_cells hRb.out
    obtain ⟨x0, x1, x2⟩ := box_cells hRb.res
    have x3 := row_free hRb.res
    have HE := re_end (d' := 0) (a0 := a) (R := prs 0 (T.drop a)) hRb hp (by omega) (by simp) (Or.inl rfl) (by rw [HN.out]; rfl) (fun t u h => by rw [HN.out] at h; cases h)
    clear hRb
    refine wp_loop_rounds 1 ?_; rw [rounds_succ]
    go_wp2_with (go_at_call 42; refine (l1Args_any _ _).mono ?_; rintro e w' ⟨rfl, rfl⟩)
    refine bodyPost_ret (v := .agg #[.int .i64 6, .int .i64 0, .slice none 0 0]) (by simp [results, Try.results30, go_sem, x0, x1, x2]) rfl ?_
    exact HE
  have HN : Hid (prs 0 (T.drop a) = none) := by show _ = _; rw [HD.out]; exact prs_no (by simp [tokTy, h1, h2, h3, h4, h5, h6, h7])
  have b1 : (T[a] == [105]) = false := by rw [beq_eq_false_iff_ne]; exact h1
  have b2 : (T[a] == [98]) = false := by rw [beq_eq_false_iff_ne]; exact h2
  have b3 : (T[a] == [118, 48]) = false := by rw [beq_eq_false_iff_ne]; exact h3
  have b4 : (T[a] == [118, 49]) = false := by rw [beq_eq_false_iff_ne]; exact h4
  have b5 : (T[a] == [102]) = false := by rw [beq_eq_false_iff_ne]; exact h5
  have b6 : (T[a] == [112]) = false := by rw [beq_eq_false_iff_ne]; exact h6
  have b7 : (T[a] == [108]) = false := by rw [beq_eq_false_iff_ne]; exact h7
  clear h1 h2 h3 h4 h5 h6 h7
  go_enter Try.func30, Try.ntmps30
  go_wp2_with fail
  refine (next_tok p ao len cap a L B T _ (h.below hX) hal haT).mono ?_
  rintro e w1 ⟨rfl, hg1, hR1⟩
  have hz1 := hg1.size
  simp only [World.size_alloc] at hz1
  obtain ⟨g0, g1, g2⟩ := box_cells hR1.row
  have g3 := row_free hR1.row
  have hpw1 : p < w1.heap.size := hR1.lt
  unfold tk
  go_wp2_with fail
  have hRb : ReRel L B w ((w1.setCell ⟨p, 2, none⟩ (.bool true)).alloc (.cells #[.int .i64 0, .int .i64 0, .slice none 0 0] 24)) p ao len cap (a + 1) true T w1.heap.size 0 0 0 (.slice none 0 0) [] := by
    have h1 := re_start (K := 0) (N := 0) (d := 0) hp (grown_set (o := 2) (v := .bool true) hg1) (hR1.setB true)
    have e1 : (w1.setCell ⟨p, 2, none⟩ (.bool true)).heap.size = w1.heap.size := by simp
    rw [e1] at h1
    exact h1
  generalize ((w1.setCell ⟨p, 2, none⟩ (.bool true)).alloc (.cells #[.int .i64 0, .int .i64 0, .slice none 0 0] 24)) = V at hRb ⊢
  clear g0 g1 g2 g3
  obtain ⟨g0, g1, g2⟩ := box_cells hRb.rdr.row
  obtain ⟨y0, y1, y2⟩ := box_cells hRb.out
  obtain ⟨x0, x1, x2⟩ := box_cells hRb.res
  have x3 := row_free hRb.res
  have HE := re_end (d' := 0) (a0 := a) (R := prs 0 (T.drop a)) hRb hp (by omega) (by simp) (Or.inl rfl) (by rw [HN.out]; rfl) (fun t u h => by rw [HN.out] at h; cases h)
  clear hRb
  refine wp_loop_rounds 1 ?_; rw [rounds_succ]
  go_wp2_with (go_at_call 42; refine (l1Args_any _ _).mono ?_; rintro e w' ⟨rfl, rfl⟩)
  refine bodyPost_ret (v := .agg #[.int .i64 0, .int .i64 0, .slice none 0 0]) (by simp [results, Try.results30, go_sem, x0, x1, x2]) rfl ?_
  exact HE

end Go.Proofs.Ythmmapahobkhnaa
