/-
  What a law's walk knows: boxes, and rows of words of its own; how calls, boxes and stores change it.
-/
import Derived.Test.YtemcmckofkhjfaaCaHn
namespace Go.Proofs.Ytemcmckofkhjfaa
open Go.RowKit
set_option linter.unusedVariables false
set_option linter.unusedSimpArgs false

/-- Two rows lie apart. -/
def Apa (a b : Value × List Wrd) : Prop := ∀ g, a.1.ownBlock = some g → b.1.ownBlock ≠ some g

/-- From w0 on: these boxes, these rows. -/
structure Inv (w0 W : World) (bx : List (Nat × Array Value × TypeId)) (rs : List (Value × List Wrd)) : Prop where
  bel : Below w0.heap.size w0 W
  box : ∀ b ∈ bx, w0.heap.size ≤ b.1 ∧ W.heap[b.1]? = some (.cells b.2.1 b.2.2 (0, 0))
  row : ∀ r ∈ rs, Wors w0.heap.size W r.1 r.2
  apart : ∀ b ∈ bx, ∀ r ∈ rs, r.1.ownBlock ≠ some b.1
  nod : bx.Pairwise (fun a b => a.1 ≠ b.1)
  rows : rs.Pairwise Apa

theorem Inv.start (w : World) : Inv w w [] [] := ⟨Below.refl _ _, (fun _ h => absurd h List.not_mem_nil), (fun _ h => absurd h List.not_mem_nil), (fun _ h => absurd h List.not_mem_nil), List.Pairwise.nil, List.Pairwise.nil⟩
theorem Inv.drew {w0 W : World} {bx : List (Nat × Array Value × TypeId)} {rs : List (Value × List Wrd)} (h : Inv w0 W bx rs) : Inv w0 W.drew bx rs :=
  ⟨h.bel.drew, h.box, fun r hr => wors_keep (h.row r hr) (fun _ _ => rfl), h.apart, h.nod, h.rows⟩
theorem Inv.lt {w0 W : World} {bx : List (Nat × Array Value × TypeId)} {rs : List (Value × List Wrd)} (h : Inv w0 W bx rs) {b : Nat × Array Value × TypeId} (hb : b ∈ bx) : b.1 < W.heap.size := (Array.getElem?_eq_some_iff.1 (h.box b hb).2).1
theorem Inv.call {w0 W W' : World} {bx : List (Nat × Array Value × TypeId)} {rs : List (Value × List Wrd)} (h : Inv w0 W bx rs) (hb : Below W.heap.size W W') : Inv w0 W' bx rs :=
  ⟨h.bel.trans (hb.mono h.bel.size), fun b hb' => ⟨(h.box b hb').1, (hb.block _ (h.lt hb')).trans (h.box b hb').2⟩, fun r hr => wors_bel (h.row r hr) hb, h.apart, h.nod, h.rows⟩
theorem Inv.alloc {w0 W : World} {bx : List (Nat × Array Value × TypeId)} {rs : List (Value × List Wrd)} (h : Inv w0 W bx rs) (c : Array Value) (t : TypeId) : Inv w0 (W.alloc (.cells c t)) ((W.heap.size, c, t) :: bx) rs := by
  have h1 := h.call ((Below.refl _ W).alloc (Nat.le_refl _) (.cells c t))
  refine ⟨h1.bel, fun b hb => ?_, h1.row, fun b hb r hr e => ?_, List.pairwise_cons.2 ⟨fun b hb => ?_, h.nod⟩, h.rows⟩
  · rcases List.mem_cons.1 hb with rfl | hb
    · exact ⟨h.bel.size, heap_new rfl⟩
    · exact h1.box b hb
  · rcases List.mem_cons.1 hb with rfl | hb
    · have := (wors_own (h.row r hr) e).2
      simp at this
    · exact h.apart b hb r hr e
  · have := h.lt hb
    simp only
    omega
theorem Inv.callRow {w0 W W' : World} {bx : List (Nat × Array Value × TypeId)} {rs : List (Value × List Wrd)} (h : Inv w0 W bx rs) (hb : Below W.heap.size W W') {v : Value} {P : List Wrd} (hN : Wors W.heap.size W' v P) : Inv w0 W' bx ((v, P) :: rs) := by
  have h1 := h.call hb
  refine ⟨h1.bel, h1.box, fun r hr => ?_, fun b hb r hr e => ?_, h.nod, List.pairwise_cons.2 ⟨fun r hr g hg e => ?_, h.rows⟩⟩
  · rcases List.mem_cons.1 hr with rfl | hr
    · exact wors_le hN h.bel.size
    · exact h1.row r hr
  · rcases List.mem_cons.1 hr with rfl | hr
    · have := (wors_own hN e).1
      have := h.lt hb
      omega
    · exact h.apart b hb r hr e
  · have h2 := (wors_own hN hg).1
    have h3 := (wors_own (h.row r hr) e).2
    omega
theorem Inv.weak {w0 W : World} {bx bx' : List (Nat × Array Value × TypeId)} {rs rs' : List (Value × List Wrd)} (h : Inv w0 W bx rs) (hb : bx'.Perm bx) (hr : rs'.Sublist rs) : Inv w0 W bx' rs' :=
  ⟨h.bel, fun b hb' => h.box b (hb.mem_iff.1 hb'), fun r hr' => h.row r (hr.subset hr'), fun b hb' r hr' => h.apart b (hb.mem_iff.1 hb') r (hr.subset hr'), (hb.pairwise_iff (fun {a b} hab => Ne.symm hab)).2 h.nod, h.rows.sublist hr⟩
theorem Inv.take {w0 W : World} {bx bx' : List (Nat × Array Value × TypeId)} {rs rs' : List (Value × List Wrd)} (h : Inv w0 W bx rs) (hb : bx'.Sublist bx) (hr : rs'.Sublist rs) : Inv w0 W bx' rs' :=
  ⟨h.bel, fun b hb' => h.box b (hb.subset hb'), fun r hr' => h.row r (hr.subset hr'), fun b hb' r hr' => h.apart b (hb.subset hb') r (hr.subset hr'), h.nod.sublist hb, h.rows.sublist hr⟩

/-- A box of two cells is written: the first one, the second one. -/
theorem Inv.set0 {w0 W : World} {bx : List (Nat × Array Value × TypeId)} {rs : List (Value × List Wrd)} {h0 : Nat} {t : TypeId} {u0 u1 : Value} (h : Inv w0 W ((h0, #[u0, u1], t) :: bx) rs) (a0 a1 : Value) :
    Inv w0 ((W.setCell ⟨h0, 0, none⟩ a0).setCell ⟨h0, 1, none⟩ a1) ((h0, #[a0, a1], t) :: bx) rs := by
  have hb := h.box _ List.mem_cons_self
  have ho : ∀ k, k ≠ h0 → ((W.setCell ⟨h0, 0, none⟩ a0).setCell ⟨h0, 1, none⟩ a1).heap[k]? = W.heap[k]? := fun k hk => (row_other _ _ _ hk).trans (row_other _ _ _ hk)
  refine ⟨(h.bel.setCell (p := ⟨h0, 0, none⟩) hb.1 _).setCell (p := ⟨h0, 1, none⟩) hb.1 _, fun b hb' => ?_, fun r hr => wors_keep (h.row r hr) (fun g hg => ho g (fun e => ?_)), fun b hb' r hr => ?_, ?_, h.rows⟩
  · rcases List.mem_cons.1 hb' with rfl | hb'
    · refine ⟨hb.1, ?_⟩
      have := row_set (row_set hb.2 0 a0) 1 a1
      rw [this]
      simp
    · have hne := (List.pairwise_cons.1 h.nod).1 b hb'
      have h2 := h.box b (List.mem_cons_of_mem _ hb')
      exact ⟨h2.1, (ho _ (Ne.symm hne)).trans h2.2⟩
  · subst e
    exact h.apart _ List.mem_cons_self r hr hg
  · rcases List.mem_cons.1 hb' with rfl | hb'
    · exact h.apart (h0, #[u0, u1], t) List.mem_cons_self r hr
    · exact h.apart b (List.mem_cons_of_mem _ hb') r hr
  · exact List.pairwise_cons.2 ⟨fun b hb' => (List.pairwise_cons.1 h.nod).1 b hb', (List.pairwise_cons.1 h.nod).2⟩
theorem Inv.set1 {w0 W : World} {bx : List (Nat × Array Value × TypeId)} {rs : List (Value × List Wrd)} {b0 : Nat × Array Value × TypeId} {h0 : Nat} {t : TypeId} {u0 u1 : Value} (h : Inv w0 W (b0 :: (h0, #[u0, u1], t) :: bx) rs) (a0 a1 : Value) :
    Inv w0 ((W.setCell ⟨h0, 0, none⟩ a0).setCell ⟨h0, 1, none⟩ a1) (b0 :: (h0, #[a0, a1], t) :: bx) rs :=
  ((h.weak (List.Perm.swap _ _ _) (List.Sublist.refl _)).set0 a0 a1).weak (List.Perm.swap _ _ _) (List.Sublist.refl _)
theorem Inv.at {w0 W : World} {bx : List (Nat × Array Value × TypeId)} {rs : List (Value × List Wrd)} (h : Inv w0 W bx rs) {p : Nat} {u0 u1 : Value} {t : TypeId} (hb : (p, #[u0, u1], t) ∈ bx) : W.cell? ⟨p, 0, none⟩ = some u0 ∧ W.cell? ⟨p, 1, none⟩ = some u1 := cells2 (h.box _ hb).2
theorem Inv.ne {w0 W : World} {bx : List (Nat × Array Value × TypeId)} {rs : List (Value × List Wrd)} {p p' : Nat} {c c' : Array Value} {t t' : TypeId} (h : Inv w0 W ((p, c, t) :: (p', c', t') :: bx) rs) : p ≠ p' := (List.pairwise_cons.1 h.nod).1 (p', c', t') List.mem_cons_self
theorem Inv.lt2 {w0 W : World} {bx : List (Nat × Array Value × TypeId)} {rs : List (Value × List Wrd)} (h : Inv w0 W bx rs) {p : Nat} {c : Array Value} {t : TypeId} (hb : (p, c, t) ∈ bx) : p < W.heap.size := h.lt hb
theorem Inv.free {w0 W : World} {bx : List (Nat × Array Value × TypeId)} {rs : List (Value × List Wrd)} (h : Inv w0 W bx rs) {p : Nat} {c : Array Value} {t : TypeId} (hb : (p, c, t) ∈ bx) (o : Nat) : W.frozen? ⟨p, o, none⟩ = false := row_free (h.box _ hb).2 o
theorem Inv.ws {w0 W : World} {bx : List (Nat × Array Value × TypeId)} {rs : List (Value × List Wrd)} (h : Inv w0 W bx rs) {ao : Option Addr} {n cap : Nat} {P : List Wrd} (hr : (.slice ao n cap, P) ∈ rs) (hn : n = P.length) (hm : n ≤ 2097153) : Ws w0.heap.size W.heap.size W ao n P := by
  obtain ⟨a, c, e, _, h2⟩ := wors_is (h.row _ hr) (show P.length ≤ 9223372036854775807 by omega)
  injection e with e1 e2 e3
  rw [← e1, ← e2] at h2
  exact h2

/-- A row bears marks now. -/
theorem Inv.mark {w0 W W' : World} {bx : List (Nat × Array Value × TypeId)} {r1 r2 : List (Value × List Wrd)} {v : Value} {P P' : List Wrd} (h : Inv w0 W bx (r1 ++ (v, P) :: r2)) (hos : W'.os = W.os) (htp : W'.tape = W.tape) (hop : W'.output = W.output) (hsz : W.heap.size ≤ W'.heap.size) (hoth : ∀ q, q < W.heap.size → v.ownBlock ≠ some q → W'.heap[q]? = W.heap[q]?) (hN : Wors w0.heap.size W' v P') :
    Inv w0 W' bx (r1 ++ (v, P') :: r2) := by
  have hv : (v, P) ∈ r1 ++ (v, P) :: r2 := by simp
  have hpw := List.pairwise_append.1 h.rows
  have hpc := List.pairwise_cons.1 hpw.2.1
  refine ⟨⟨hos.trans h.bel.os, htp.trans h.bel.tape, hop.trans h.bel.output, Nat.le_trans h.bel.size hsz, fun q hq => ?_⟩, fun b hb => ?_, fun r hr => ?_, fun b hb r hr => ?_, h.nod, ?_⟩
  · exact (hoth q (Nat.lt_of_lt_of_le hq h.bel.size) (fun e => by have := (wors_own (h.row _ hv) e).1; omega)).trans (h.bel.block q hq)
  · have h2 := h.box b hb
    exact ⟨h2.1, (hoth _ (h.lt hb) (h.apart b hb _ hv)).trans h2.2⟩
  · rcases List.mem_append.1 hr with hr | hr
    · exact wors_keep (h.row r (List.mem_append_left _ hr)) (fun g hg => hoth g (wors_own (h.row r (List.mem_append_left _ hr)) hg).2 (hpw.2.2 r hr _ List.mem_cons_self g hg))
    · rcases List.mem_cons.1 hr with rfl | hr
      · exact hN
      · have hr' : r ∈ r1 ++ (v, P) :: r2 := List.mem_append_right _ (List.mem_cons_of_mem _ hr)
        exact wors_keep (h.row r hr') (fun g hg => hoth g (wors_own (h.row r hr') hg).2 (fun e => hpc.1 r hr g e hg))
  · rcases List.mem_append.1 hr with hr | hr
    · exact h.apart b hb r (List.mem_append_left _ hr)
    · rcases List.mem_cons.1 hr with rfl | hr
      · exact h.apart b hb (v, P) hv
      · exact h.apart b hb r (List.mem_append_right _ (List.mem_cons_of_mem _ hr))
  · exact List.pairwise_append.2 ⟨hpw.1, List.pairwise_cons.2 ⟨fun r hr => hpc.1 r hr, hpc.2⟩, fun a ha b hb => by
      rcases List.mem_cons.1 hb with rfl | hb
      · exact hpw.2.2 a ha (v, P) List.mem_cons_self
      · exact hpw.2.2 a ha b (List.mem_cons_of_mem _ hb)⟩

section
variable {w0 W : World} {bx : List (Nat × Array Value × TypeId)} {rs : List (Value × List Wrd)}

theorem inv_toHeap (I : Inv w0 W bx rs) {L B : Nat} {s : Int} {ao : Option Addr} {len : Nat} (cap : Nat) {l : List Wrd} (hB : B ≤ w0.heap.size) (hs : ∀ W, Below w0.heap.size w0 W → Ws L B W ao len l) (hl : len ≤ 1048576) :
    Calls Try.prog 15 #[vH s ao len cap] W fun e W' => ∃ g, e = .returned (vH s (some ⟨g, 0, none⟩) len len) ∧ Inv w0 W' bx ((.slice (some ⟨g, 0, none⟩) len len, l) :: rs) :=
  (toHeap_any L B s ao len cap l W (Nat.le_trans hB I.bel.size) (hs W I.bel) hl).mono fun e W' ⟨g, he, hb, hN⟩ => ⟨g, he, I.callRow hb hN⟩
theorem inv_toWordS (I : Inv w0 W bx rs) {L B : Nat} {ao : Option Addr} {len : Nat} (cap : Nat) {l : List Wrd} (hB : B ≤ w0.heap.size) (hs : ∀ W, Below w0.heap.size w0 W → Ws L B W ao len l) (hl : len ≤ 1048576) :
    Calls Try.prog 20 #[.slice ao len cap] W fun e W' => ∃ g, e = .returned (.slice (some ⟨g, 0, none⟩) len len) ∧ Inv w0 W' bx ((.slice (some ⟨g, 0, none⟩) len len, l) :: rs) :=
  (toWordS_any L B ao len cap l W (Nat.le_trans hB I.bel.size) (hs W I.bel) hl).mono fun e W' ⟨g, he, hb, hN⟩ => ⟨g, he, I.callRow hb hN⟩
theorem inv_toWord (I : Inv w0 W bx rs) (x : Wrd) : Calls Try.prog 19 #[vW x] W fun e W' => e = .returned (vW x) ∧ Inv w0 W' bx rs :=
  (toWord_any x W).mono fun e W' ⟨he, hb⟩ => ⟨he, I.call hb⟩
theorem inv_eqWord (I : Inv w0 W bx rs) (x : Wrd) : Calls Try.prog 22 #[vW x, vW x] W fun e W' => e = .returned (.bool true) ∧ Inv w0 W' bx rs :=
  (eqWord_any x W).mono fun e W' ⟨he, hb⟩ => ⟨he, I.call hb⟩
theorem inv_eqWordS (I : Inv w0 W bx rs) {a1 : Option Addr} {n : Nat} {c1 : Nat} {a2 : Option Addr} {c2 : Nat} {P : List Wrd} (h1 : (.slice a1 n c1, P) ∈ rs) (h2 : (.slice a2 n c2, P) ∈ rs) (hn : n = P.length) (hm : n ≤ 2097153) :
    Calls Try.prog 23 #[.slice a1 n c1, .slice a2 n c2] W fun e W' => e = .returned (.bool true) ∧ Inv w0 W' bx rs :=
  (eqWordS_any _ _ _ _ a1 n c1 a2 n c2 P W (Nat.le_refl _) (Nat.le_refl _) (I.ws h1 hn hm) (I.ws h2 hn hm)).mono fun e W' ⟨he, hb⟩ => ⟨he, I.call hb⟩
theorem inv_eqHeap (I : Inv w0 W bx rs) {s : Int} {a1 : Option Addr} {n : Nat} {c1 : Nat} {a2 : Option Addr} {c2 : Nat} {P : List Wrd} (h1 : (.slice a1 n c1, P) ∈ rs) (h2 : (.slice a2 n c2, P) ∈ rs) (hn : n = P.length) (hm : n ≤ 2097153) :
    Calls Try.prog 10 #[vH s a1 n c1, vH s a2 n c2] W fun e W' => e = .returned (.bool true) ∧ Inv w0 W' bx rs :=
  (eqHeap_any _ _ _ _ s a1 n c1 a2 n c2 P W (Nat.le_refl _) (Nat.le_refl _) (I.ws h1 hn hm) (I.ws h2 hn hm)).mono fun e W' ⟨he, hb⟩ => ⟨he, I.call hb⟩
theorem inv_markHeap {r1 r2 : List (Value × List Wrd)} {s : Int} {ao : Option Addr} {n cap : Nat} {P : List Wrd} (I : Inv w0 W bx (r1 ++ (.slice ao n cap, P) :: r2)) (k : Int) (hn : n = P.length) (h0 : 0 ≤ k) (hl : k + 2 * n ≤ 100000000) :
    Calls Try.prog 11 #[vH s ao n cap, .int .i64 k] W fun e W' => e = .returned (.int .i64 (k + 2 * n)) ∧ Inv w0 W' bx (r1 ++ (.slice ao n cap, upsW k n) :: r2) :=
  (markHeap_any s ao n cap P k W (I.row (.slice ao n cap, P) (by simp)) I.bel.size hn h0 hl).mono fun e W' ⟨he, hb, hoth, hsz, hN⟩ => ⟨he, I.mark hb.os hb.tape hb.output hsz hoth hN⟩
theorem inv_markWordS {r1 r2 : List (Value × List Wrd)} {ao : Option Addr} {n cap : Nat} {P : List Wrd} (I : Inv w0 W bx (r1 ++ (.slice ao n cap, P) :: r2)) (k : Int) (hn : n = P.length) (h0 : 0 ≤ k) (hl : k + 2 * n ≤ 100000000) :
    Calls Try.prog 24 #[.slice ao n cap, .int .i64 k] W fun e W' => e = .returned (.int .i64 (k + 2 * n)) ∧ Inv w0 W' bx (r1 ++ (.slice ao n cap, upsW k n) :: r2) := by
  subst hn
  exact (markWordS_any _ P k W (I.row (.slice ao P.length cap, P) (by simp)) h0 hl).mono fun e W' ⟨he, hk, hN⟩ => ⟨he, I.mark hk.os hk.tape hk.output (Nat.le_of_eq hk.size.symm) (fun q _ hne => hk.block q hne) hN⟩
theorem inv_heldHeap (I : Inv w0 W bx rs) {s : Int} {ao : Option Addr} {n cap : Nat} (k : Int) (hr : (.slice ao n cap, upsW k n) ∈ rs) (h0 : 0 ≤ k) (hl : k + 2 * n ≤ 100000000) :
    Calls Try.prog 12 #[vH s ao n cap, .int .i64 k] W fun e W' => e = .returned (.int .i64 (k + 2 * n)) ∧ Inv w0 W' bx rs :=
  (heldHeap_any s ao n cap k W (I.row _ hr) h0 hl).mono fun e W' ⟨he, hb⟩ => ⟨he, I.call hb⟩
theorem inv_heldWordS (I : Inv w0 W bx rs) {ao : Option Addr} {n cap : Nat} (k : Int) (hr : (.slice ao n cap, upsW k n) ∈ rs) (h0 : 0 ≤ k) (hl : k + 2 * n ≤ 100000000) :
    Calls Try.prog 27 #[.slice ao n cap, .int .i64 k] W fun e W' => e = .returned (.int .i64 (k + 2 * n)) ∧ Inv w0 W' bx rs :=
  (heldWordS_any _ n k W (I.row _ hr) h0 hl).mono fun e W' ⟨he, hb⟩ => ⟨he, I.call hb⟩
end

end Go.Proofs.Ytemcmckofkhjfaa
