/-
  The program's reader of terms: what stands ahead of a term's parts.
-/
import Derived.Test.YthmmapahobkhnaaPmZ18
import Derived.Test.YthmmapahobkhnaaPmZ6
namespace Go.Proofs.Ythmmapahobkhnaa
open Go.RowKit Go.PlainAid
set_option linter.unusedVariables false
set_option linter.unusedSimpArgs false

/-- What a reader of a head comes to. -/
def HdRd (L B : Nat) (w w' : World) (e : Ending) (p : Nat) (ao : Option Addr) (len cap : Nat) (T : List (List UInt8)) (a : Nat) (bad : Bool) (x : List UInt8) (k : Int) : Prop :=
  ∃ (h : Hw) (a1 : Option Addr) (l1 c1 : Nat) (a2 : Option Addr) (l2 c2 : Nat) (a' : Nat) (bad' : Bool) (M1 M2 : Nat), e = .returned (.agg #[.int .i64 k, .int .i64 h.n, .string (mkB h.s), .string (mkB h.z), .int .i64 h.t.K, .int .i64 h.t.N, .slice a1 l1 c1, .slice a2 l2 c2, .slice none 0 0]) ∧ w.grownBy w' (some p) ∧ Rdm L B w' p ao len cap a' bad' T ∧ RdO (hdR x k) T a bad h a' bad' ∧
    w.heap.size ≤ M1 ∧ M1 ≤ M2 ∧ M2 ≤ w'.heap.size ∧ OwR w.heap.size M1 w' 6 a1 l1 h.t.A ∧ OwR M1 M2 w' 7 a2 l2 h.ts ∧ h.s.length ≤ 1048577 ∧ h.z.length ≤ 1048577

def zeroC : Array Value := #[.int .i64 0, .int .i64 0, .string ⟨#[]⟩, .string ⟨#[]⟩, .int .i64 0, .int .i64 0, .slice none 0 0, .slice none 0 0, .slice none 0 0]

/-- While a head is read: the kind's shape, the answer's box and the term's. -/
structure HdRel (L B : Nat) (w wr : World) (p : Nat) (ao : Option Addr) (len cap a : Nat) (bad : Bool) (T : List (List UInt8)) (sc cs : Array Value) : Prop where
  gr : w.grownBy wr (some p)
  rdm : Rdm L B wr p ao len cap a bad T
  sh : wr.heap[w.heap.size]? = some (.cells sc 65 (0, 0))
  res : wr.heap[w.heap.size + 1]? = some (.cells #[.int .i64 0, .int .i64 0, .string ⟨#[]⟩, .string ⟨#[]⟩, .int .i64 0, .int .i64 0, .slice none 0 0, .slice none 0 0, .slice none 0 0] 27 (0, 0))
  box : wr.heap[w.heap.size + 1 + 1]? = some (.cells cs 27 (0, 0))
  sz : w.heap.size + 3 ≤ wr.heap.size

theorem HdRel.start {L B : Nat} {w : World} {p : Nat} {ao : Option Addr} {len cap a : Nat} {bad : Bool} {T : List (List UInt8)} (h : Rdm L B w p ao len cap a bad T) (sc cs : Array Value) :
    HdRel L B w (((w.alloc (.cells sc 65)).alloc (.cells #[.int .i64 0, .int .i64 0, .string ⟨#[]⟩, .string ⟨#[]⟩, .int .i64 0, .int .i64 0, .slice none 0 0, .slice none 0 0, .slice none 0 0] 27)).alloc (.cells cs 27)) p ao len cap a bad T sc cs := by
  have hb : Below w.heap.size w (((w.alloc (.cells sc 65)).alloc (.cells #[.int .i64 0, .int .i64 0, .string ⟨#[]⟩, .string ⟨#[]⟩, .int .i64 0, .int .i64 0, .slice none 0 0, .slice none 0 0, .slice none 0 0] 27)).alloc (.cells cs 27)) := (((Below.refl _ _).alloc (Nat.le_refl _) _).alloc (by simp) _).alloc (by simp; omega) _
  refine ⟨gr_below hb, h.below hb, ?_, ?_, ?_, by simp⟩
  · rw [Below.heap_alloc _ _ _ (by simp; omega), Below.heap_alloc _ _ _ (by simp)]; exact heap_new rfl
  · rw [Below.heap_alloc _ _ _ (by simp)]; exact heap_new (by simp)
  · exact heap_new (by simp)
theorem HdRel.call {L B : Nat} {w wr w1 : World} {p : Nat} {ao : Option Addr} {len cap a a1 : Nat} {bad b1 : Bool} {T : List (List UInt8)} {sc cs : Array Value} (h : HdRel L B w wr p ao len cap a bad T sc cs) (hp : p < w.heap.size) (hg : wr.grownBy w1 (some p)) (hR : Rdm L B w1 p ao len cap a1 b1 T) : HdRel L B w w1 p ao len cap a1 b1 T sc cs := by
  have hz := h.sz
  exact ⟨gr_trans h.gr hg, hR, (hg.block _ (by omega) (by simp; omega)).trans h.sh, (hg.block _ (by omega) (by simp; omega)).trans h.res, (hg.block _ (by omega) (by simp; omega)).trans h.box, Nat.le_trans hz hg.size⟩
theorem HdRel.set {L B : Nat} {w wr : World} {p : Nat} {ao : Option Addr} {len cap a : Nat} {bad : Bool} {T : List (List UInt8)} {sc cs : Array Value} (h : HdRel L B w wr p ao len cap a bad T sc cs) (hp : p < w.heap.size) (j : Nat) (v : Value) : HdRel L B w (wr.setCell ⟨w.heap.size + 1 + 1, j, none⟩ v) p ao len cap a bad T sc (cs.setIfInBounds j v) := by
  obtain ⟨Y, hY⟩ : ∃ Y, Y = wr.setCell ⟨w.heap.size + 1 + 1, j, none⟩ v := ⟨_, rfl⟩
  have ho : ∀ k, k ≠ w.heap.size + 1 + 1 → Y.heap[k]? = wr.heap[k]? := fun k hk => by rw [hY]; exact row_other _ _ _ hk
  have hs : Y.heap.size = wr.heap.size := by rw [hY]; simp
  have hb : Y.heap[w.heap.size + 1 + 1]? = some (.cells (cs.setIfInBounds j v) 27 (0, 0)) := by rw [hY]; exact row_set h.box j v
  have h1 : Y.os = wr.os := by rw [hY]; rfl
  have h2 : Y.tape = wr.tape := by rw [hY]; rfl
  have h3 : Y.output = wr.output := by rw [hY]; rfl
  have hl := h.rdm.lo
  rw [← hY]
  clear hY
  have hz := h.sz
  have hg := h.gr.size
  exact ⟨⟨h1.trans h.gr.os, h2.trans h.gr.tape, h3.trans h.gr.output, by omega, fun k hk hne => (ho k (by omega)).trans (h.gr.block k hk hne)⟩, h.rdm.keep (fun k hk => ho k (by omega)) (ho p (by omega)), (ho _ (by omega)).trans h.sh, (ho _ (by omega)).trans h.res, hb, by omega⟩

theorem rdo_pos {α : Type} {c : Prop} [Decidable c] {f g : Rr α} {T : List (List UInt8)} {a a' : Nat} {b b' : Bool} {v : α} (hc : c) (h : RdO f T a b v a' b') : RdO (if c then f else g) T a b v a' b' := by rw [if_pos hc]; exact h
theorem rdo_neg {α : Type} {c : Prop} [Decidable c] {f g : Rr α} {T : List (List UInt8)} {a a' : Nat} {b b' : Bool} {v : α} (hc : ¬ c) (h : RdO g T a b v a' b') : RdO (if c then f else g) T a b v a' b' := by rw [if_neg hc]; exact h

theorem six {w : World} {b : Nat} {a0 a1 a2 a3 a4 a5 : Value} {t : TypeId} {fr : Nat × Nat} (h : w.heap[b]? = some (.cells #[a0, a1, a2, a3, a4, a5] t fr)) : w.cell? ⟨b, 0, none⟩ = some a0 ∧ w.cell? ⟨b, 3, none⟩ = some a3 ∧ w.cell? ⟨b, 4, none⟩ = some a4 :=
  ⟨row_cell h 0, row_cell h 3, row_cell h 4⟩
theorem keep_set {L B : Nat} {w : World} {d : Nat} {ao : Option Addr} {len : Nat} {ts : List Tr} (h : OwR L B w d ao len ts) {g : Nat} (hg : g < L) (j : Nat) (v : Value) : OwR L B (w.setCell ⟨g, j, none⟩ v) d ao len ts := h.keep (fun q hq _ => row_other _ _ _ (by omega)) (Nat.le_refl _) (Nat.le_refl _)
theorem keep_gr {L B : Nat} {w w' : World} {d : Nat} {ao : Option Addr} {len : Nat} {ts : List Tr} (h : OwR L B w d ao len ts) {p : Nat} (hg : w.grownBy w' (some p)) (hp : p < L) (hB : B ≤ w.heap.size) : OwR L B w' d ao len ts := h.keep (fun q hq hq2 => hg.block q (by omega) (by simp; omega)) (Nat.le_refl _) (Nat.le_refl _)

theorem gr_set9 {w w' : World} {p g o : Nat} {a0 a1 a2 a3 a4 a5 a6 a7 a8 : Value} (h : w.grownBy w' (some p)) (hg : w.heap.size ≤ g) : w.grownBy (set9 w' g o a0 a1 a2 a3 a4 a5 a6 a7 a8) (some p) := by
  unfold set9
  exact gr_set3 (gr_set3 (gr_set3 h hg) hg) hg
theorem keep9 {L B : Nat} {w : World} {d : Nat} {ao : Option Addr} {len : Nat} {ts : List Tr} {g o : Nat} {a0 a1 a2 a3 a4 a5 a6 a7 a8 : Value} (hg : g < L) (h : OwR L B w d ao len ts) : OwR L B (set9 w g o a0 a1 a2 a3 a4 a5 a6 a7 a8) d ao len ts := h.keep (fun q hq _ => set9_other _ (by omega)) (Nat.le_refl _) (Nat.le_refl _)

set_option maxRecDepth 100000 in
set_option maxHeartbeats 4000000 in
theorem head_000 (x : List UInt8) (k : Int) (hk : k = kindW x) (hN : shN k = 0) (hS : shT k = false) (hTs : shS k = 0) (p : Nat) (ao : Option Addr) (len cap a L B : Nat) (bad : Bool) (T : List (List UInt8)) (w : World) (hT : ∀ x ∈ T, x.length ≤ 1048577) (h : Rdm L B w p ao len cap a bad T) :
    Calls Try.prog 38 #[.pointer (some ⟨p, 0, none⟩), tk x, .agg #[.int .i64 (shN k), .int .i64 (shL k), .int .i64 (shM k), .bool (shT k), .int .i64 (shS k), .int .i64 (shP k)]] w fun e w' => HdRd L B w w' e p ao len cap T a bad x k := by
  have HN : Hid (shN k = 0) := hN
  have HS : Hid (shT k = false) := hS
  have HTs : Hid (shS k = 0) := hTs
  rw [hN, hS, hTs]
  have hp := h.lt
  have HK : Hid (∀ w : World, Calls Try.prog 37 #[tk x] w fun e w' => e = .returned (.int .i64 k) ∧ w' = w) := fun w => by rw [hk]; exact kindOfWord_any x w
  clear hk hN hS hTs
  have h0 := HdRel.start h #[.int .i64 0, .int .i64 (shL k), .int .i64 (shM k), .bool false, .int .i64 0, .int .i64 (shP k)] #[.int .i64 k, .int .i64 0, .string ⟨#[]⟩, .string ⟨#[]⟩, .int .i64 0, .int .i64 0, .slice none 0 0, .slice none 0 0, .slice none 0 0]
  have HNB : Hid (∀ (a : Nat) (bad : Bool) (w : World), Rdm L B w p ao len cap a bad T → Calls Try.prog 44 #[.pointer (some ⟨p, 0, none⟩), .string ⟨x.toArray⟩] w fun e w' => NumEnd (numR x) (-10000000) L B w w' e p ao len cap T a bad) := fun a bad w h => numberBehind_any x p ao len cap a L B bad T w hT h
  unfold tk at HK ⊢
  go_enter Try.func38, Try.ntmps38
  go_wp2_with fail
  refine (HK.out _).mono ?_
  rintro e wk ⟨rfl, rfl⟩
  go_wp2_with fail
  refine (HNB.out a bad _ h0.rdm).mono ?_
  rintro e w1 ⟨n, a1, b1, rfl, hg1, hR1, hO1, _, _⟩
  have h1 := h0.call hp hg1 hR1
  have k1 := h1.set hp 1 (.int .i64 n)
  obtain ⟨c0, c3, c4⟩ := six h1.sh
  have bc := row_cell h1.box 1
  have bf := row_free h1.box
  obtain ⟨d0, d3, d4⟩ := six k1.sh
  simp only [List.setIfInBounds_toArray, List.set_cons_zero, List.set_cons_succ, List.getElem?_toArray, List.getElem?_cons_zero, List.getElem?_cons_succ] at bc
  clear hg1 hR1
  have HO : Hid (RdO (hdR x k) T a bad ⟨n, [], [], ⟨0, 0, []⟩, []⟩ a1 b1) := rdo_bind (rdo_neg (by rw [HN.out]; decide) (rdo_ret _ _ _ _)) (rdo_bind (rdo_neg (by rw [HN.out]; decide) (rdo_ret _ _ _ _)) (rdo_bind (hO1) (rdo_bind (rdo_neg (by rw [HS.out]; decide) (rdo_ret _ _ _ _)) (rdo_bind (rdo_neg (by rw [HTs.out]; decide) (rdo_ret _ _ _ _)) (rdo_ret _ _ _ _)))))
  have kb := k1.box
  have kr := k1.res
  have kg := k1.gr
  have km := k1.rdm
  have kz := k1.sz
  simp only [List.setIfInBounds_toArray, List.set_cons_zero, List.set_cons_succ] at kb
  obtain ⟨e0, e1, e2, e3, e4, e5, e6, e7, e8⟩ := Nine.box kb
  obtain ⟨r0, r1, r2, r3, r4, r5, r6, r7, r8⟩ := Nine.box kr
  have rf := row_free kr
  have hz3 : w.heap.size + 3 ≤ w1.heap.size := h1.sz
  have hz1 : w.heap.size ≤ w1.heap.size := by omega
  have HF : Hid (∀ e, e = Ending.returned (.agg #[.int .i64 k, .int .i64 n, .string ⟨#[]⟩, .string ⟨#[]⟩, .int .i64 0, .int .i64 0, .slice none 0 0, .slice none 0 0, .slice none 0 0]) → HdRd L B w (set9 (w1.setCell ⟨w.heap.size + 1 + 1, 1, none⟩ (.int .i64 n)) (w.heap.size + 1) 0 (.int .i64 k) (.int .i64 n) (.string ⟨#[]⟩) (.string ⟨#[]⟩) (.int .i64 0) (.int .i64 0) (.slice none 0 0) (.slice none 0 0) (.slice none 0 0)) e p ao len cap T a bad x k) := fun e he =>
    ⟨⟨n, [], [], ⟨0, 0, []⟩, []⟩, none, 0, 0, none, 0, 0, a1, b1, w.heap.size, w.heap.size, he, gr_set9 kg (by omega), km.keep (fun q hq => set9_other _ (by have := km.lo; omega)) (set9_other _ (by omega)), HO.out, Nat.le_refl _, Nat.le_refl _, by rw [set9_size]; exact kg.size, OwR.nil _ _ _ _ _, OwR.nil _ _ _ _ _, by simp, by simp⟩
  clear kb kr kg km kz hz1 hz3
  go_wp2_with fail
  refine bodyPost_ret (v := .agg #[.int .i64 k, .int .i64 n, .string ⟨#[]⟩, .string ⟨#[]⟩, .int .i64 0, .int .i64 0, .slice none 0 0, .slice none 0 0, .slice none 0 0]) (by simp [results, Try.results38, go_sem, r0, r1, r2, r3, r4, r5, r6, r7, r8]) rfl ?_
  exact HF.out _ rfl

set_option maxRecDepth 100000 in
set_option maxHeartbeats 4000000 in
theorem head_102 (x : List UInt8) (k : Int) (hk : k = kindW x) (hN : shN k = 1) (hS : shT k = false) (hTs : shS k = 2) (p : Nat) (ao : Option Addr) (len cap a L B : Nat) (bad : Bool) (T : List (List UInt8)) (w : World) (hT : ∀ x ∈ T, x.length ≤ 1048577) (h : Rdm L B w p ao len cap a bad T) :
    Calls Try.prog 38 #[.pointer (some ⟨p, 0, none⟩), tk x, .agg #[.int .i64 (shN k), .int .i64 (shL k), .int .i64 (shM k), .bool (shT k), .int .i64 (shS k), .int .i64 (shP k)]] w fun e w' => HdRd L B w w' e p ao len cap T a bad x k := by
  have HN : Hid (shN k = 1) := hN
  have HS : Hid (shT k = false) := hS
  have HTs : Hid (shS k = 2) := hTs
  rw [hN, hS, hTs]
  have hp := h.lt
  have HK : Hid (∀ w : World, Calls Try.prog 37 #[tk x] w fun e w' => e = .returned (.int .i64 k) ∧ w' = w) := fun w => by rw [hk]; exact kindOfWord_any x w
  clear hk hN hS hTs
  have h0 := HdRel.start h #[.int .i64 1, .int .i64 (shL k), .int .i64 (shM k), .bool false, .int .i64 2, .int .i64 (shP k)] #[.int .i64 k, .int .i64 0, .string ⟨#[]⟩, .string ⟨#[]⟩, .int .i64 0, .int .i64 0, .slice none 0 0, .slice none 0 0, .slice none 0 0]
  have HNB : Hid (∀ (a : Nat) (bad : Bool) (w : World), Rdm L B w p ao len cap a bad T → Calls Try.prog 44 #[.pointer (some ⟨p, 0, none⟩), .string ⟨x.toArray⟩] w fun e w' => NumEnd (numR x) (-10000000) L B w w' e p ao len cap T a bad) := fun a bad w h => numberBehind_any x p ao len cap a L B bad T w hT h
  unfold tk at HK ⊢
  go_enter Try.func38, Try.ntmps38
  go_wp2_with fail
  refine (HK.out _).mono ?_
  rintro e wk ⟨rfl, rfl⟩
  go_wp2_with fail
  refine (token_any p ao len cap a L B bad T _ hT h0.rdm).mono ?_
  rintro e w1 ⟨s1, a1, b1, rfl, hg1, hR1, hO1, hx1⟩
  have h1 := h0.call hp hg1 hR1
  have k1 := h1.set hp 2 (tk s1)
  obtain ⟨c0, c3, c4⟩ := six h1.sh
  have bc := row_cell h1.box 2
  have bf := row_free h1.box
  obtain ⟨d0, d3, d4⟩ := six k1.sh
  simp only [List.setIfInBounds_toArray, List.set_cons_zero, List.set_cons_succ, List.getElem?_toArray, List.getElem?_cons_zero, List.getElem?_cons_succ] at bc
  clear hg1 hR1
  show _
  unfold tk at k1 d0 d3 d4 ⊢
  go_wp2_with fail
  clear c0 c3 c4 bc bf d0 d3 d4
  refine (HNB.out a1 b1 _ k1.rdm).mono ?_
  rintro e w2 ⟨n, a2, b2, rfl, hg2, hR2, hO2, _, _⟩
  have h2 := k1.call hp hg2 hR2
  have k2 := h2.set hp 1 (.int .i64 n)
  obtain ⟨c0, c3, c4⟩ := six h2.sh
  have bc := row_cell h2.box 1
  have bf := row_free h2.box
  obtain ⟨d0, d3, d4⟩ := six k2.sh
  simp only [List.setIfInBounds_toArray, List.set_cons_zero, List.set_cons_succ, List.getElem?_toArray, List.getElem?_cons_zero, List.getElem?_cons_succ] at bc
  clear hg2 hR2
  go_wp2_with fail
  clear c0 c3 c4 bc bf d0 d3 d4
  refine (tys_any p ao len cap a2 L B b2 T _ hT k2.rdm).mono ?_
  rintro e w3 ⟨ts, au1, lu1, cu1, a3, b3, rfl, hg3, hR3, hO3, ou1⟩
  have zu := k2.sz
  have h3 := k2.call hp hg3 hR3
  have k3 := h3.set hp 7 (.slice au1 lu1 cu1)
  have ou := keep_set (ou1.keep (fun _ _ _ => rfl) zu (Nat.le_refl _)) (show w.heap.size + 1 + 1 < w.heap.size + 3 by omega) 7 (.slice au1 lu1 cu1)
  obtain ⟨c0, c3, c4⟩ := six h3.sh
  have bc := row_cell h3.box 7
  have bf := row_free h3.box
  obtain ⟨d0, d3, d4⟩ := six k3.sh
  simp only [List.setIfInBounds_toArray, List.set_cons_zero, List.set_cons_succ, List.getElem?_toArray, List.getElem?_cons_zero, List.getElem?_cons_succ] at bc
  clear hg3 hR3 ou1
  have HO : Hid (RdO (hdR x k) T a bad ⟨n, s1, [], ⟨0, 0, []⟩, ts⟩ a3 b3) := rdo_bind (rdo_pos (by rw [HN.out]; decide) hO1) (rdo_bind (rdo_neg (by rw [HN.out]; decide) (rdo_ret _ _ _ _)) (rdo_bind (hO2) (rdo_bind (rdo_neg (by rw [HS.out]; decide) (rdo_ret _ _ _ _)) (rdo_bind (rdo_pos (by rw [HTs.out]; decide) hO3) (rdo_ret _ _ _ _)))))
  have kb := k3.box
  have kr := k3.res
  have kg := k3.gr
  have km := k3.rdm
  have kz := k3.sz
  simp only [List.setIfInBounds_toArray, List.set_cons_zero, List.set_cons_succ] at kb
  obtain ⟨e0, e1, e2, e3, e4, e5, e6, e7, e8⟩ := Nine.box kb
  obtain ⟨r0, r1, r2, r3, r4, r5, r6, r7, r8⟩ := Nine.box kr
  have rf := row_free kr
  have hz3 : w.heap.size + 3 ≤ w3.heap.size := h3.sz
  have hz1 : w.heap.size ≤ w3.heap.size := by omega
  have HF : Hid (∀ e, e = Ending.returned (.agg #[.int .i64 k, .int .i64 n, .string ⟨s1.toArray⟩, .string ⟨#[]⟩, .int .i64 0, .int .i64 0, .slice none 0 0, .slice au1 lu1 cu1, .slice none 0 0]) → HdRd L B w (set9 (w3.setCell ⟨w.heap.size + 1 + 1, 7, none⟩ (.slice au1 lu1 cu1)) (w.heap.size + 1) 0 (.int .i64 k) (.int .i64 n) (.string ⟨s1.toArray⟩) (.string ⟨#[]⟩) (.int .i64 0) (.int .i64 0) (.slice none 0 0) (.slice au1 lu1 cu1) (.slice none 0 0)) e p ao len cap T a bad x k) := fun e he =>
    ⟨⟨n, s1, [], ⟨0, 0, []⟩, ts⟩, none, 0, 0, au1, lu1, cu1, a3, b3, w.heap.size + 3, w3.heap.size, he, gr_set9 kg (by omega), km.keep (fun q hq => set9_other _ (by have := km.lo; omega)) (set9_other _ (by omega)), HO.out, by omega, hz3, by rw [set9_size]; simp, OwR.nil _ _ _ _ _, keep9 (by omega) ou, hx1, by simp⟩
  clear kb kr kg km kz hz1 hz3
  go_wp2_with fail
  refine bodyPost_ret (v := .agg #[.int .i64 k, .int .i64 n, .string ⟨s1.toArray⟩, .string ⟨#[]⟩, .int .i64 0, .int .i64 0, .slice none 0 0, .slice au1 lu1 cu1, .slice none 0 0]) (by simp [results, Try.results38, go_sem, r0, r1, r2, r3, r4, r5, r6, r7, r8]) rfl ?_
  exact HF.out _ rfl

set_option maxRecDepth 100000 in
set_option maxHeartbeats 4000000 in
theorem head_110 (x : List UInt8) (k : Int) (hk : k = kindW x) (hN : shN k = 1) (hS : shT k = true) (hTs : shS k = 0) (p : Nat) (ao : Option Addr) (len cap a L B : Nat) (bad : Bool) (T : List (List UInt8)) (w : World) (hT : ∀ x ∈ T, x.length ≤ 1048577) (h : Rdm L B w p ao len cap a bad T) :
    Calls Try.prog 38 #[.pointer (some ⟨p, 0, none⟩), tk x, .agg #[.int .i64 (shN k), .int .i64 (shL k), .int .i64 (shM k), .bool (shT k), .int .i64 (shS k), .int .i64 (shP k)]] w fun e w' => HdRd L B w w' e p ao len cap T a bad x k := by
  have HN : Hid (shN k = 1) := hN
  have HS : Hid (shT k = true) := hS
  have HTs : Hid (shS k = 0) := hTs
  rw [hN, hS, hTs]
  have hp := h.lt
  have HK : Hid (∀ w : World, Calls Try.prog 37 #[tk x] w fun e w' => e = .returned (.int .i64 k) ∧ w' = w) := fun w => by rw [hk]; exact kindOfWord_any x w
  clear hk hN hS hTs
  have h0 := HdRel.start h #[.int .i64 1, .int .i64 (shL k), .int .i64 (shM k), .bool true, .int .i64 0, .int .i64 (shP k)] #[.int .i64 k, .int .i64 0, .string ⟨#[]⟩, .string ⟨#[]⟩, .int .i64 0, .int .i64 0, .slice none 0 0, .slice none 0 0, .slice none 0 0]
  have HNB : Hid (∀ (a : Nat) (bad : Bool) (w : World), Rdm L B w p ao len cap a bad T → Calls Try.prog 44 #[.pointer (some ⟨p, 0, none⟩), .string ⟨x.toArray⟩] w fun e w' => NumEnd (numR x) (-10000000) L B w w' e p ao len cap T a bad) := fun a bad w h => numberBehind_any x p ao len cap a L B bad T w hT h
  unfold tk at HK ⊢
  go_enter Try.func38, Try.ntmps38
  go_wp2_with fail
  refine (HK.out _).mono ?_
  rintro e wk ⟨rfl, rfl⟩
  go_wp2_with fail
  refine (token_any p ao len cap a L B bad T _ hT h0.rdm).mono ?_
  rintro e w1 ⟨s1, a1, b1, rfl, hg1, hR1, hO1, hx1⟩
  have h1 := h0.call hp hg1 hR1
  have k1 := h1.set hp 2 (tk s1)
  obtain ⟨c0, c3, c4⟩ := six h1.sh
  have bc := row_cell h1.box 2
  have bf := row_free h1.box
  obtain ⟨d0, d3, d4⟩ := six k1.sh
  simp only [List.setIfInBounds_toArray, List.set_cons_zero, List.set_cons_succ, List.getElem?_toArray, List.getElem?_cons_zero, List.getElem?_cons_succ] at bc
  clear hg1 hR1
  show _
  unfold tk at k1 d0 d3 d4 ⊢
  go_wp2_with fail
  clear c0 c3 c4 bc bf d0 d3 d4
  refine (HNB.out a1 b1 _ k1.rdm).mono ?_
  rintro e w2 ⟨n, a2, b2, rfl, hg2, hR2, hO2, _, _⟩
  have h2 := k1.call hp hg2 hR2
  have k2 := h2.set hp 1 (.int .i64 n)
  obtain ⟨c0, c3, c4⟩ := six h2.sh
  have bc := row_cell h2.box 1
  have bf := row_free h2.box
  obtain ⟨d0, d3, d4⟩ := six k2.sh
  simp only [List.setIfInBounds_toArray, List.set_cons_zero, List.set_cons_succ, List.getElem?_toArray, List.getElem?_cons_zero, List.getElem?_cons_succ] at bc
  clear hg2 hR2
  go_wp2_with fail
  clear c0 c3 c4 bc bf d0 d3 d4
  refine (ty_any p ao len cap a2 L B b2 T _ k2.rdm).mono ?_
  rintro e w3 ⟨t, at1, lt1, ct1, a3, b3, rfl, hg3, hR3, hO3, ot1⟩
  have zt := k2.sz
  have h3 := k2.call hp hg3 hR3
  have k3 := ((h3.set hp 4 (.int .i64 t.K)).set hp 5 (.int .i64 t.N)).set hp 6 (.slice at1 lt1 ct1)
  have ot := keep_set (keep_set (keep_set (ot1.keep (fun _ _ _ => rfl) zt (Nat.le_refl _)) (show w.heap.size + 1 + 1 < w.heap.size + 3 by omega) 4 (.int .i64 t.K)) (show w.heap.size + 1 + 1 < w.heap.size + 3 by omega) 5 (.int .i64 t.N)) (show w.heap.size + 1 + 1 < w.heap.size + 3 by omega) 6 (.slice at1 lt1 ct1)
  obtain ⟨c0, c3, c4⟩ := six h3.sh
  have bc4 := row_cell h3.box 4
  have bc5 := row_cell h3.box 5
  have bc6 := row_cell h3.box 6
  have bf := row_free h3.box
  obtain ⟨d0, d3, d4⟩ := six k3.sh
  simp only [List.setIfInBounds_toArray, List.set_cons_zero, List.set_cons_succ, List.getElem?_toArray, List.getElem?_cons_zero, List.getElem?_cons_succ] at bc4 bc5 bc6
  clear hg3 hR3 ot1
  have HO : Hid (RdO (hdR x k) T a bad ⟨n, s1, [], t, []⟩ a3 b3) := rdo_bind (rdo_pos (by rw [HN.out]; decide) hO1) (rdo_bind (rdo_neg (by rw [HN.out]; decide) (rdo_ret _ _ _ _)) (rdo_bind (hO2) (rdo_bind (rdo_pos HS.out hO3) (rdo_bind (rdo_neg (by rw [HTs.out]; decide) (rdo_ret _ _ _ _)) (rdo_ret _ _ _ _)))))
  have kb := k3.box
  have kr := k3.res
  have kg := k3.gr
  have km := k3.rdm
  have kz := k3.sz
  simp only [List.setIfInBounds_toArray, List.set_cons_zero, List.set_cons_succ] at kb
  obtain ⟨e0, e1, e2, e3, e4, e5, e6, e7, e8⟩ := Nine.box kb
  obtain ⟨r0, r1, r2, r3, r4, r5, r6, r7, r8⟩ := Nine.box kr
  have rf := row_free kr
  have hz3 : w.heap.size + 3 ≤ w3.heap.size := h3.sz
  have hz1 : w.heap.size ≤ w3.heap.size := by omega
  have HF : Hid (∀ e, e = Ending.returned (.agg #[.int .i64 k, .int .i64 n, .string ⟨s1.toArray⟩, .string ⟨#[]⟩, .int .i64 t.K, .int .i64 t.N, .slice at1 lt1 ct1, .slice none 0 0, .slice none 0 0]) → HdRd L B w (set9 (((w3.setCell ⟨w.heap.size + 1 + 1, 4, none⟩ (.int .i64 t.K)).setCell ⟨w.heap.size + 1 + 1, 5, none⟩ (.int .i64 t.N)).setCell ⟨w.heap.size + 1 + 1, 6, none⟩ (.slice at1 lt1 ct1)) (w.heap.size + 1) 0 (.int .i64 k) (.int .i64 n) (.string ⟨s1.toArray⟩) (.string ⟨#[]⟩) (.int .i64 t.K) (.int .i64 t.N) (.slice at1 lt1 ct1) (.slice none 0 0) (.slice none 0 0)) e p ao len cap T a bad x k) := fun e he =>
    ⟨⟨n, s1, [], t, []⟩, at1, lt1, ct1, none, 0, 0, a3, b3, w3.heap.size, w3.heap.size, he, gr_set9 kg (by omega), km.keep (fun q hq => set9_other _ (by have := km.lo; omega)) (set9_other _ (by omega)), HO.out, hz1, Nat.le_refl _, by rw [set9_size]; simp, (keep9 (by omega) ot).keep (fun _ _ _ => rfl) (by omega) (Nat.le_refl _), OwR.nil _ _ _ _ _, hx1, by simp⟩
  clear kb kr kg km kz hz1 hz3
  go_wp2_with fail
  refine bodyPost_ret (v := .agg #[.int .i64 k, .int .i64 n, .string ⟨s1.toArray⟩, .string ⟨#[]⟩, .int .i64 t.K, .int .i64 t.N, .slice at1 lt1 ct1, .slice none 0 0, .slice none 0 0]) (by simp [results, Try.results38, go_sem, r0, r1, r2, r3, r4, r5, r6, r7, r8]) rfl ?_
  exact HF.out _ rfl

set_option maxRecDepth 100000 in
set_option maxHeartbeats 4000000 in
theorem head_100 (x : List UInt8) (k : Int) (hk : k = kindW x) (hN : shN k = 1) (hS : shT k = false) (hTs : shS k = 0) (p : Nat) (ao : Option Addr) (len cap a L B : Nat) (bad : Bool) (T : List (List UInt8)) (w : World) (hT : ∀ x ∈ T, x.length ≤ 1048577) (h : Rdm L B w p ao len cap a bad T) :
    Calls Try.prog 38 #[.pointer (some ⟨p, 0, none⟩), tk x, .agg #[.int .i64 (shN k), .int .i64 (shL k), .int .i64 (shM k), .bool (shT k), .int .i64 (shS k), .int .i64 (shP k)]] w fun e w' => HdRd L B w w' e p ao len cap T a bad x k := by
  have HN : Hid (shN k = 1) := hN
  have HS : Hid (shT k = false) := hS
  have HTs : Hid (shS k = 0) := hTs
  rw [hN, hS, hTs]
  have hp := h.lt
  have HK : Hid (∀ w : World, Calls Try.prog 37 #[tk x] w fun e w' => e = .returned (.int .i64 k) ∧ w' = w) := fun w => by rw [hk]; exact kindOfWord_any x w
  clear hk hN hS hTs
  have h0 := HdRel.start h #[.int .i64 1, .int .i64 (shL k), .int .i64 (shM k), .bool false, .int .i64 0, .int .i64 (shP k)] #[.int .i64 k, .int .i64 0, .string ⟨#[]⟩, .string ⟨#[]⟩, .int .i64 0, .int .i64 0, .slice none 0 0, .slice none 0 0, .slice none 0 0]
  have HNB : Hid (∀ (a : Nat) (bad : Bool) (w : World), Rdm L B w p ao len cap a bad T → Calls Try.prog 44 #[.pointer (some ⟨p, 0, none⟩), .string ⟨x.toArray⟩] w fun e w' => NumEnd (numR x) (-10000000) L B w w' e p ao len cap T a bad) := fun a bad w h => numberBehind_any x p ao len cap a L B bad T w hT h
  unfold tk at HK ⊢
  go_enter Try.func38, Try.ntmps38
  go_wp2_with fail
  refine (HK.out _).mono ?_
  rintro e wk ⟨rfl, rfl⟩
  go_wp2_with fail
  refine (token_any p ao len cap a L B bad T _ hT h0.rdm).mono ?_
  rintro e w1 ⟨s1, a1, b1, rfl, hg1, hR1, hO1, hx1⟩
  have h1 := h0.call hp hg1 hR1
  have k1 := h1.set hp 2 (tk s1)
  obtain ⟨c0, c3, c4⟩ := six h1.sh
  have bc := row_cell h1.box 2
  have bf := row_free h1.box
  obtain ⟨d0, d3, d4⟩ := six k1.sh
  simp only [List.setIfInBounds_toArray, List.set_cons_zero, List.set_cons_succ, List.getElem?_toArray, List.getElem?_cons_zero, List.getElem?_cons_succ] at bc
  clear hg1 hR1
  show _
  unfold tk at k1 d0 d3 d4 ⊢
  go_wp2_with fail
  clear c0 c3 c4 bc bf d0 d3 d4
  refine (HNB.out a1 b1 _ k1.rdm).mono ?_
  rintro e w2 ⟨n, a2, b2, rfl, hg2, hR2, hO2, _, _⟩
  have h2 := k1.call hp hg2 hR2
  have k2 := h2.set hp 1 (.int .i64 n)
  obtain ⟨c0, c3, c4⟩ := six h2.sh
  have bc := row_cell h2.box 1
  have bf := row_free h2.box
  obtain ⟨d0, d3, d4⟩ := six k2.sh
  simp only [List.setIfInBounds_toArray, List.set_cons_zero, List.set_cons_succ, List.getElem?_toArray, List.getElem?_cons_zero, List.getElem?_cons_succ] at bc
  clear hg2 hR2
  have HO : Hid (RdO (hdR x k) T a bad ⟨n, s1, [], ⟨0, 0, []⟩, []⟩ a2 b2) := rdo_bind (rdo_pos (by rw [HN.out]; decide) hO1) (rdo_bind (rdo_neg (by rw [HN.out]; decide) (rdo_ret _ _ _ _)) (rdo_bind (hO2) (rdo_bind (rdo_neg (by rw [HS.out]; decide) (rdo_ret _ _ _ _)) (rdo_bind (rdo_neg (by rw [HTs.out]; decide) (rdo_ret _ _ _ _)) (rdo_ret _ _ _ _)))))
  have kb := k2.box
  have kr := k2.res
  have kg := k2.gr
  have km := k2.rdm
  have kz := k2.sz
  simp only [List.setIfInBounds_toArray, List.set_cons_zero, List.set_cons_succ] at kb
  obtain ⟨e0, e1, e2, e3, e4, e5, e6, e7, e8⟩ := Nine.box kb
  obtain ⟨r0, r1, r2, r3, r4, r5, r6, r7, r8⟩ := Nine.box kr
  have rf := row_free kr
  have hz3 : w.heap.size + 3 ≤ w2.heap.size := h2.sz
  have hz1 : w.heap.size ≤ w2.heap.size := by omega
  have HF : Hid (∀ e, e = Ending.returned (.agg #[.int .i64 k, .int .i64 n, .string ⟨s1.toArray⟩, .string ⟨#[]⟩, .int .i64 0, .int .i64 0, .slice none 0 0, .slice none 0 0, .slice none 0 0]) → HdRd L B w (set9 (w2.setCell ⟨w.heap.size + 1 + 1, 1, none⟩ (.int .i64 n)) (w.heap.size + 1) 0 (.int .i64 k) (.int .i64 n) (.string ⟨s1.toArray⟩) (.string ⟨#[]⟩) (.int .i64 0) (.int .i64 0) (.slice none 0 0) (.slice none 0 0) (.slice none 0 0)) e p ao len cap T a bad x k) := fun e he =>
    ⟨⟨n, s1, [], ⟨0, 0, []⟩, []⟩, none, 0, 0, none, 0, 0, a2, b2, w.heap.size, w.heap.size, he, gr_set9 kg (by omega), km.keep (fun q hq => set9_other _ (by have := km.lo; omega)) (set9_other _ (by omega)), HO.out, Nat.le_refl _, Nat.le_refl _, by rw [set9_size]; exact kg.size, OwR.nil _ _ _ _ _, OwR.nil _ _ _ _ _, hx1, by simp⟩
  clear kb kr kg km kz hz1 hz3
  go_wp2_with fail
  refine bodyPost_ret (v := .agg #[.int .i64 k, .int .i64 n, .string ⟨s1.toArray⟩, .string ⟨#[]⟩, .int .i64 0, .int .i64 0, .slice none 0 0, .slice none 0 0, .slice none 0 0]) (by simp [results, Try.results38, go_sem, r0, r1, r2, r3, r4, r5, r6, r7, r8]) rfl ?_
  exact HF.out _ rfl

set_option maxRecDepth 100000 in
set_option maxHeartbeats 4000000 in
theorem head_010 (x : List UInt8) (k : Int) (hk : k = kindW x) (hN : shN k = 0) (hS : shT k = true) (hTs : shS k = 0) (p : Nat) (ao : Option Addr) (len cap a L B : Nat) (bad : Bool) (T : List (List UInt8)) (w : World) (hT : ∀ x ∈ T, x.length ≤ 1048577) (h : Rdm L B w p ao len cap a bad T) :
    Calls Try.prog 38 #[.pointer (some ⟨p, 0, none⟩), tk x, .agg #[.int .i64 (shN k), .int .i64 (shL k), .int .i64 (shM k), .bool (shT k), .int .i64 (shS k), .int .i64 (shP k)]] w fun e w' => HdRd L B w w' e p ao len cap T a bad x k := by
  have HN : Hid (shN k = 0) := hN
  have HS : Hid (shT k = true) := hS
  have HTs : Hid (shS k = 0) := hTs
  rw [hN, hS, hTs]
  have hp := h.lt
  have HK : Hid (∀ w : World, Calls Try.prog 37 #[tk x] w fun e w' => e = .returned (.int .i64 k) ∧ w' = w) := fun w => by rw [hk]; exact kindOfWord_any x w
  clear hk hN hS hTs
  have h0 := HdRel.start h #[.int .i64 0, .int .i64 (shL k), .int .i64 (shM k), .bool true, .int .i64 0, .int .i64 (shP k)] #[.int .i64 k, .int .i64 0, .string ⟨#[]⟩, .string ⟨#[]⟩, .int .i64 0, .int .i64 0, .slice none 0 0, .slice none 0 0, .slice none 0 0]
  have HNB : Hid (∀ (a : Nat) (bad : Bool) (w : World), Rdm L B w p ao len cap a bad T → Calls Try.prog 44 #[.pointer (some ⟨p, 0, none⟩), .string ⟨x.toArray⟩] w fun e w' => NumEnd (numR x) (-10000000) L B w w' e p ao len cap T a bad) := fun a bad w h => numberBehind_any x p ao len cap a L B bad T w hT h
  unfold tk at HK ⊢
  go_enter Try.func38, Try.ntmps38
  go_wp2_with fail
  refine (HK.out _).mono ?_
  rintro e wk ⟨rfl, rfl⟩
  go_wp2_with fail
  refine (HNB.out a bad _ h0.rdm).mono ?_
  rintro e w1 ⟨n, a1, b1, rfl, hg1, hR1, hO1, _, _⟩
  have h1 := h0.call hp hg1 hR1
  have k1 := h1.set hp 1 (.int .i64 n)
  obtain ⟨c0, c3, c4⟩ := six h1.sh
  have bc := row_cell h1.box 1
  have bf := row_free h1.box
  obtain ⟨d0, d3, d4⟩ := six k1.sh
  simp only [List.setIfInBounds_toArray, List.set_cons_zero, List.set_cons_succ, List.getElem?_toArray, List.getElem?_cons_zero, List.getElem?_cons_succ] at bc
  clear hg1 hR1
  go_wp2_with fail
  clear c0 c3 c4 bc bf d0 d3 d4
  refine (ty_any p ao len cap a1 L B b1 T _ k1.rdm).mono ?_
  rintro e w2 ⟨t, at1, lt1, ct1, a2, b2, rfl, hg2, hR2, hO2, ot1⟩
  have zt := k1.sz
  have h2 := k1.call hp hg2 hR2
  have k2 := ((h2.set hp 4 (.int .i64 t.K)).set hp 5 (.int .i64 t.N)).set hp 6 (.slice at1 lt1 ct1)
  have ot := keep_set (keep_set (keep_set (ot1.keep (fun _ _ _ => rfl) zt (Nat.le_refl _)) (show w.heap.size + 1 + 1 < w.heap.size + 3 by omega) 4 (.int .i64 t.K)) (show w.heap.size + 1 + 1 < w.heap.size + 3 by omega) 5 (.int .i64 t.N)) (show w.heap.size + 1 + 1 < w.heap.size + 3 by omega) 6 (.slice at1 lt1 ct1)
  obtain ⟨c0, c3, c4⟩ := six h2.sh
  have bc4 := row_cell h2.box 4
  have bc5 := row_cell h2.box 5
  have bc6 := row_cell h2.box 6
  have bf := row_free h2.box
  obtain ⟨d0, d3, d4⟩ := six k2.sh
  simp only [List.setIfInBounds_toArray, List.set_cons_zero, List.set_cons_succ, List.getElem?_toArray, List.getElem?_cons_zero, List.getElem?_cons_succ] at bc4 bc5 bc6
  clear hg2 hR2 ot1
  have HO : Hid (RdO (hdR x k) T a bad ⟨n, [], [], t, []⟩ a2 b2) := rdo_bind (rdo_neg (by rw [HN.out]; decide) (rdo_ret _ _ _ _)) (rdo_bind (rdo_neg (by rw [HN.out]; decide) (rdo_ret _ _ _ _)) (rdo_bind (hO1) (rdo_bind (rdo_pos HS.out hO2) (rdo_bind (rdo_neg (by rw [HTs.out]; decide) (rdo_ret _ _ _ _)) (rdo_ret _ _ _ _)))))
  have kb := k2.box
  have kr := k2.res
  have kg := k2.gr
  have km := k2.rdm
  have kz := k2.sz
  simp only [List.setIfInBounds_toArray, List.set_cons_zero, List.set_cons_succ] at kb
  obtain ⟨e0, e1, e2, e3, e4, e5, e6, e7, e8⟩ := Nine.box kb
  obtain ⟨r0, r1, r2, r3, r4, r5, r6, r7, r8⟩ := Nine.box kr
  have rf := row_free kr
  have hz3 : w.heap.size + 3 ≤ w2.heap.size := h2.sz
  have hz1 : w.heap.size ≤ w2.heap.size := by omega
  have HF : Hid (∀ e, e = Ending.returned (.agg #[.int .i64 k, .int .i64 n, .string ⟨#[]⟩, .string ⟨#[]⟩, .int .i64 t.K, .int .i64 t.N, .slice at1 lt1 ct1, .slice none 0 0, .slice none 0 0]) → HdRd L B w (set9 (((w2.setCell ⟨w.heap.size + 1 + 1, 4, none⟩ (.int .i64 t.K)).setCell ⟨w.heap.size + 1 + 1, 5, none⟩ (.int .i64 t.N)).setCell ⟨w.heap.size + 1 + 1, 6, none⟩ (.slice at1 lt1 ct1)) (w.heap.size + 1) 0 (.int .i64 k) (.int .i64 n) (.string ⟨#[]⟩) (.string ⟨#[]⟩) (.int .i64 t.K) (.int .i64 t.N) (.slice at1 lt1 ct1) (.slice none 0 0) (.slice none 0 0)) e p ao len cap T a bad x k) := fun e he =>
    ⟨⟨n, [], [], t, []⟩, at1, lt1, ct1, none, 0, 0, a2, b2, w2.heap.size, w2.heap.size, he, gr_set9 kg (by omega), km.keep (fun q hq => set9_other _ (by have := km.lo; omega)) (set9_other _ (by omega)), HO.out, hz1, Nat.le_refl _, by rw [set9_size]; simp, (keep9 (by omega) ot).keep (fun _ _ _ => rfl) (by omega) (Nat.le_refl _), OwR.nil _ _ _ _ _, by simp, by simp⟩
  clear kb kr kg km kz hz1 hz3
  go_wp2_with fail
  refine bodyPost_ret (v := .agg #[.int .i64 k, .int .i64 n, .string ⟨#[]⟩, .string ⟨#[]⟩, .int .i64 t.K, .int .i64 t.N, .slice at1 lt1 ct1, .slice none 0 0, .slice none 0 0]) (by simp [results, Try.results38, go_sem, r0, r1, r2, r3, r4, r5, r6, r7, r8]) rfl ?_
  exact HF.out _ rfl

set_option maxRecDepth 100000 in
set_option maxHeartbeats 4000000 in
theorem head_200 (x : List UInt8) (k : Int) (hk : k = kindW x) (hN : shN k = 2) (hS : shT k = false) (hTs : shS k = 0) (p : Nat) (ao : Option Addr) (len cap a L B : Nat) (bad : Bool) (T : List (List UInt8)) (w : World) (hT : ∀ x ∈ T, x.length ≤ 1048577) (h : Rdm L B w p ao len cap a bad T) :
    Calls Try.prog 38 #[.pointer (some ⟨p, 0, none⟩), tk x, .agg #[.int .i64 (shN k), .int .i64 (shL k), .int .i64 (shM k), .bool (shT k), .int .i64 (shS k), .int .i64 (shP k)]] w fun e w' => HdRd L B w w' e p ao len cap T a bad x k := by
  have HN : Hid (shN k = 2) := hN
  have HS : Hid (shT k = false) := hS
  have HTs : Hid (shS k = 0) := hTs
  rw [hN, hS, hTs]
  have hp := h.lt
  have HK : Hid (∀ w : World, Calls Try.prog 37 #[tk x] w fun e w' => e = .returned (.int .i64 k) ∧ w' = w) := fun w => by rw [hk]; exact kindOfWord_any x w
  clear hk hN hS hTs
  have h0 := HdRel.start h #[.int .i64 2, .int .i64 (shL k), .int .i64 (shM k), .bool false, .int .i64 0, .int .i64 (shP k)] #[.int .i64 k, .int .i64 0, .string ⟨#[]⟩, .string ⟨#[]⟩, .int .i64 0, .int .i64 0, .slice none 0 0, .slice none 0 0, .slice none 0 0]
  have HNB : Hid (∀ (a : Nat) (bad : Bool) (w : World), Rdm L B w p ao len cap a bad T → Calls Try.prog 44 #[.pointer (some ⟨p, 0, none⟩), .string ⟨x.toArray⟩] w fun e w' => NumEnd (numR x) (-10000000) L B w w' e p ao len cap T a bad) := fun a bad w h => numberBehind_any x p ao len cap a L B bad T w hT h
  unfold tk at HK ⊢
  go_enter Try.func38, Try.ntmps38
  go_wp2_with fail
  refine (HK.out _).mono ?_
  rintro e wk ⟨rfl, rfl⟩
  go_wp2_with fail
  refine (token_any p ao len cap a L B bad T _ hT h0.rdm).mono ?_
  rintro e w1 ⟨s1, a1, b1, rfl, hg1, hR1, hO1, hx1⟩
  have h1 := h0.call hp hg1 hR1
  have k1 := h1.set hp 2 (tk s1)
  obtain ⟨c0, c3, c4⟩ := six h1.sh
  have bc := row_cell h1.box 2
  have bf := row_free h1.box
  obtain ⟨d0, d3, d4⟩ := six k1.sh
  simp only [List.setIfInBounds_toArray, List.set_cons_zero, List.set_cons_succ, List.getElem?_toArray, List.getElem?_cons_zero, List.getElem?_cons_succ] at bc
  clear hg1 hR1
  show _
  unfold tk at k1 d0 d3 d4 ⊢
  go_wp2_with fail
  clear c0 c3 c4 bc bf d0 d3 d4
  refine (token_any p ao len cap a1 L B b1 T _ hT k1.rdm).mono ?_
  rintro e w2 ⟨s2, a2, b2, rfl, hg2, hR2, hO2, hx2⟩
  have h2 := k1.call hp hg2 hR2
  have k2 := h2.set hp 3 (tk s2)
  obtain ⟨c0, c3, c4⟩ := six h2.sh
  have bc := row_cell h2.box 3
  have bf := row_free h2.box
  obtain ⟨d0, d3, d4⟩ := six k2.sh
  simp only [List.setIfInBounds_toArray, List.set_cons_zero, List.set_cons_succ, List.getElem?_toArray, List.getElem?_cons_zero, List.getElem?_cons_succ] at bc
  clear hg2 hR2
  show _
  unfold tk at k2 d0 d3 d4 ⊢
  go_wp2_with fail
  clear c0 c3 c4 bc bf d0 d3 d4
  refine (HNB.out a2 b2 _ k2.rdm).mono ?_
  rintro e w3 ⟨n, a3, b3, rfl, hg3, hR3, hO3, _, _⟩
  have h3 := k2.call hp hg3 hR3
  have k3 := h3.set hp 1 (.int .i64 n)
  obtain ⟨c0, c3, c4⟩ := six h3.sh
  have bc := row_cell h3.box 1
  have bf := row_free h3.box
  obtain ⟨d0, d3, d4⟩ := six k3.sh
  simp only [List.setIfInBounds_toArray, List.set_cons_zero, List.set_cons_succ, List.getElem?_toArray, List.getElem?_cons_zero, List.getElem?_cons_succ] at bc
  clear hg3 hR3
  have HO : Hid (RdO (hdR x k) T a bad ⟨n, s1, s2, ⟨0, 0, []⟩, []⟩ a3 b3) := rdo_bind (rdo_pos (by rw [HN.out]; decide) hO1) (rdo_bind (rdo_pos (by rw [HN.out]; decide) hO2) (rdo_bind (hO3) (rdo_bind (rdo_neg (by rw [HS.out]; decide) (rdo_ret _ _ _ _)) (rdo_bind (rdo_neg (by rw [HTs.out]; decide) (rdo_ret _ _ _ _)) (rdo_ret _ _ _ _)))))
  have kb := k3.box
  have kr := k3.res
  have kg := k3.gr
  have km := k3.rdm
  have kz := k3.sz
  simp only [List.setIfInBounds_toArray, List.set_cons_zero, List.set_cons_succ] at kb
  obtain ⟨e0, e1, e2, e3, e4, e5, e6, e7, e8⟩ := Nine.box kb
  obtain ⟨r0, r1, r2, r3, r4, r5, r6, r7, r8⟩ := Nine.box kr
  have rf := row_free kr
  have hz3 : w.heap.size + 3 ≤ w3.heap.size := h3.sz
  have hz1 : w.heap.size ≤ w3.heap.size := by omega
  have HF : Hid (∀ e, e = Ending.returned (.agg #[.int .i64 k, .int .i64 n, .string ⟨s1.toArray⟩, .string ⟨s2.toArray⟩, .int .i64 0, .int .i64 0, .slice none 0 0, .slice none 0 0, .slice none 0 0]) → HdRd L B w (set9 (w3.setCell ⟨w.heap.size + 1 + 1, 1, none⟩ (.int .i64 n)) (w.heap.size + 1) 0 (.int .i64 k) (.int .i64 n) (.string ⟨s1.toArray⟩) (.string ⟨s2.toArray⟩) (.int .i64 0) (.int .i64 0) (.slice none 0 0) (.slice none 0 0) (.slice none 0 0)) e p ao len cap T a bad x k) := fun e he =>
    ⟨⟨n, s1, s2, ⟨0, 0, []⟩, []⟩, none, 0, 0, none, 0, 0, a3, b3, w.heap.size, w.heap.size, he, gr_set9 kg (by omega), km.keep (fun q hq => set9_other _ (by have := km.lo; omega)) (set9_other _ (by omega)), HO.out, Nat.le_refl _, Nat.le_refl _, by rw [set9_size]; exact kg.size, OwR.nil _ _ _ _ _, OwR.nil _ _ _ _ _, hx1, hx2⟩
  clear kb kr kg km kz hz1 hz3
  go_wp2_with fail
  refine bodyPost_ret (v := .agg #[.int .i64 k, .int .i64 n, .string ⟨s1.toArray⟩, .string ⟨s2.toArray⟩, .int .i64 0, .int .i64 0, .slice none 0 0, .slice none 0 0, .slice none 0 0]) (by simp [results, Try.results38, go_sem, r0, r1, r2, r3, r4, r5, r6, r7, r8]) rfl ?_
  exact HF.out _ rfl

end Go.Proofs.Ythmmapahobkhnaa
