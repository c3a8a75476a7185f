/-
  The model's reader of terms: while it reads.
-/
import Derived.Test.YthmmapahobkhnaaPmZ18
import Derived.Test.YthmmapahobkhnaaPmRm8
import Derived.Test.YthmmapahobkhnaaPmRd3
import Derived.Test.YthmmapahobkhnaaPmZ26
namespace Go.Proofs.Ythmmapahobkhnaa
open Go.RowKit Go.PlainAid
set_option linter.unusedVariables false
set_option linter.unusedSimpArgs false

/-- The token that is read first. -/
def firstT (T : List (List UInt8)) (a : Nat) (bad : Bool) : List UInt8 := if bad = true then [] else ((T.drop a).head?).getD []

theorem snext_first (p : Nat) (ao : Option Addr) (len cap a L B : Nat) (bad : Bool) (T : List (List UInt8)) (w : World) (hT : ∀ x ∈ T, x.length ≤ 1048577) (h : Rdr L B w p ao len cap a bad T) :
    Calls Try.prog 25 #[.pointer (some ⟨p, 0, none⟩)] w fun e w' => ∃ a' bad', e = .returned (tk (firstT T a bad)) ∧ w.grownBy w' (some p) ∧ Rdr L B w' p ao len cap a' bad' T ∧ RdO tokR T a bad (firstT T a bad) a' bad' := by
  unfold firstT
  cases bad with
  | true =>
    refine (snext_bad p ao len cap a L B T w h).mono ?_
    rintro e w' ⟨rfl, hg, hR⟩
    exact ⟨_, _, rfl, hg, hR, ⟨fun _ => rfl, fun hb => by cases hb⟩⟩
  | false =>
    rw [if_neg (by decide)]
    by_cases ha : a < len
    · have haT : a < T.length := by have := h.toks.1; omega
      refine (next_tok p ao len cap a L B T w h ha haT).mono ?_
      rintro e w' ⟨rfl, hg, hR⟩
      rw [List.drop_eq_getElem_cons haT]
      refine ⟨_, _, rfl, hg, hR, ⟨fun hb => hb, fun hb => ?_⟩⟩
      rw [List.drop_eq_getElem_cons haT]
      exact ⟨hb, rfl, rfl⟩
    · obtain rfl : a = len := by have := h.le; omega
      have e0 : T.drop a = [] := List.drop_eq_nil_of_le (by have := h.toks.1; omega)
      refine (next_end p ao a cap L B T w h).mono ?_
      rintro e w' ⟨rfl, hg, hR⟩
      rw [e0]
      refine ⟨_, _, rfl, hg, hR, ⟨fun _ => rfl, fun hb => ?_⟩⟩
      rw [e0]
      rfl

/-- What the model's reader of a term comes to. -/
def TmRs (lv : Nat) (L B : Nat) (w w' : World) (e : Ending) (p : Nat) (ao : Option Addr) (len cap : Nat) (T : List (List UInt8)) (a : Nat) (bad : Bool) : Prop :=
  ∃ (t : Tm) (a1 : Option Addr) (l1 c1 : Nat) (a2 : Option Addr) (l2 c2 : Nat) (a3 : Option Addr) (l3 c3 a' : Nat) (bad' : Bool), e = .returned (.agg #[.int .i64 t.K, .int .i64 t.N, .string t.S, .string t.Z, .int .i64 t.T.K, .int .i64 t.T.N, .slice a1 l1 c1, .slice a2 l2 c2, .slice a3 l3 c3]) ∧ w.grownBy w' (some p) ∧ Rdr L B w' p ao len cap a' bad' T ∧ RdO (termS lv) T a bad t a' bad' ∧ FmO w.heap.size w'.heap.size w' 7 lv t a1 l1 a2 l2 a3 l3

def SaidSr (lv : Nat) : Prop := ∀ (p : Nat) (ao : Option Addr) (len cap a L B : Nat) (bad : Bool) (T : List (List UInt8)) (w : World), (∀ x ∈ T, x.length ≤ 1048577) → Rdr L B w p ao len cap a bad T →
    Calls Try.prog 10 #[.pointer (some ⟨p, 0, none⟩), .int .i64 lv] w fun e w' => TmRs lv L B w w' e p ao len cap T a bad

/-- While the model reads a head: the answer's box, the term's (tb) and the shape's (hb). -/
structure LdRel (L B : Nat) (w wr : World) (p : Nat) (ao : Option Addr) (len cap a : Nat) (bad : Bool) (T : List (List UInt8)) (tb hb : Nat) (cs hc : Array Value) : Prop where
  gr : w.grownBy wr (some p)
  rdr : Rdr L B wr p ao len cap a bad T
  res : wr.heap[w.heap.size]? = some (.cells #[.int .i64 0, .int .i64 0, .string ⟨#[]⟩, .string ⟨#[]⟩, .int .i64 0, .int .i64 0, .slice none 0 0, .slice none 0 0, .slice none 0 0] 27 (0, 0))
  box : wr.heap[tb]? = some (.cells cs 27 (0, 0))
  sh : wr.heap[hb]? = some (.cells hc 55 (0, 0))
  lt1 : w.heap.size < tb
  lt2 : tb < hb
  lt3 : hb < wr.heap.size

theorem LdRel.call {L B : Nat} {w wr w1 : World} {p : Nat} {ao : Option Addr} {len cap a a1 : Nat} {bad b1 : Bool} {T : List (List UInt8)} {tb hb : Nat} {cs hc : Array Value} (h : LdRel L B w wr p ao len cap a bad T tb hb cs hc) (hp : p < w.heap.size) (hg : wr.grownBy w1 (some p)) (hR : Rdr L B w1 p ao len cap a1 b1 T) : LdRel L B w w1 p ao len cap a1 b1 T tb hb cs hc := by
  have h1 := h.lt1
  have h2 := h.lt2
  have h3 := h.lt3
  have hz := hg.size
  exact ⟨gr_trans h.gr hg, hR, (hg.block _ (by omega) (by simp; omega)).trans h.res, (hg.block _ (by omega) (by simp; omega)).trans h.box, (hg.block _ (by omega) (by simp; omega)).trans h.sh, h1, h2, by omega⟩
theorem LdRel.below {L B : Nat} {w wr w1 : World} {p : Nat} {ao : Option Addr} {len cap a : Nat} {bad : Bool} {T : List (List UInt8)} {tb hb : Nat} {cs hc : Array Value} (h : LdRel L B w wr p ao len cap a bad T tb hb cs hc) (hp : p < w.heap.size) (hb1 : Below wr.heap.size wr w1) : LdRel L B w w1 p ao len cap a bad T tb hb cs hc := h.call hp (gr_below hb1) (h.rdr.below hb1)
theorem LdRel.set {L B : Nat} {w wr : World} {p : Nat} {ao : Option Addr} {len cap a : Nat} {bad : Bool} {T : List (List UInt8)} {tb hb : Nat} {cs hc : Array Value} (h : LdRel L B w wr p ao len cap a bad T tb hb cs hc) (hp : p < w.heap.size) (j : Nat) (v : Value) : LdRel L B w (wr.setCell ⟨tb, j, none⟩ v) p ao len cap a bad T tb hb (cs.setIfInBounds j v) hc := by
  obtain ⟨Y, hY⟩ : ∃ Y, Y = wr.setCell ⟨tb, j, none⟩ v := ⟨_, rfl⟩
  have ho : ∀ k, k ≠ tb → Y.heap[k]? = wr.heap[k]? := fun k hk => by rw [hY]; exact row_other _ _ _ hk
  have hs : Y.heap.size = wr.heap.size := by rw [hY]; simp
  have hbx : Y.heap[tb]? = some (.cells (cs.setIfInBounds j v) 27 (0, 0)) := by rw [hY]; exact row_set h.box j v
  have h1 : Y.os = wr.os := by rw [hY]; rfl
  have h2 : Y.tape = wr.tape := by rw [hY]; rfl
  have h3 : Y.output = wr.output := by rw [hY]; rfl
  have hl := h.rdr.lo
  have l1 := h.lt1
  have l2 := h.lt2
  have l3 := h.lt3
  rw [← hY]
  clear hY
  have hg := h.gr.size
  exact ⟨⟨h1.trans h.gr.os, h2.trans h.gr.tape, h3.trans h.gr.output, by omega, fun k hk hne => (ho k (by omega)).trans (h.gr.block k hk hne)⟩, ⟨(ho p (by omega)).trans h.rdr.row, ⟨h.rdr.toks.1, fun i hi => by
    obtain ⟨b, o, e, q1, q2, q3⟩ := h.rdr.toks.2 i hi
    exact ⟨b, o, e, q1, q2, (World.cell?_of_block (ho b (by omega))).trans q3⟩⟩, h.rdr.le, h.rdr.sm, h.rdr.lo⟩, (ho _ (by omega)).trans h.res, hbx, (ho _ (by omega)).trans h.sh, l1, l2, by omega⟩

theorem Rdr.keepB {L B : Nat} {w w' : World} {p : Nat} {ao : Option Addr} {len cap a : Nat} {bad : Bool} {T : List (List UInt8)} (h : Rdr L B w p ao len cap a bad T) (hk : ∀ k, k < B → w'.heap[k]? = w.heap[k]?) (hp : w'.heap[p]? = w.heap[p]?) : Rdr L B w' p ao len cap a bad T := by
  refine ⟨hp.trans h.row, ⟨h.toks.1, fun i hi => ?_⟩, h.le, h.sm, h.lo⟩
  obtain ⟨b, o, e, h1, h2, h3⟩ := h.toks.2 i hi
  exact ⟨b, o, e, h1, h2, (World.cell?_of_block (hk b h2)).trans h3⟩

/-- While the parts of a term are read. -/
structure SlLoop (L B : Nat) (w W0 wr : World) (p : Nat) (ao : Option Addr) (len cap : Nat) (T : List (List UInt8)) (a0 : Nat) (b0 : Bool) (tb bs lv : Nat) (c0 c1 c2 c3 c4 c5 c6 c7 v : Value) (j a1 : Nat) (b1 : Bool) (us : List Tm) : Prop where
  gr : w.grownBy wr (some p)
  rdr : Rdr L B wr p ao len cap a1 b1 T
  box : wr.heap[tb]? = some (.cells #[c0, c1, c2, c3, c4, c5, c6, c7, v] 27 (0, 0))
  rdo : RdO (manyR (termS lv) j) T a0 b0 us a1 b1
  ul : us.length = j
  ap : ApRelM bs wr 7 lv v us.length us
  low : ∀ q, w.heap.size ≤ q → q < bs → q ≠ tb → wr.heap[q]? = W0.heap[q]?
  lt : bs ≤ wr.heap.size

theorem SlLoop.drew {L B : Nat} {w W0 wr : World} {p : Nat} {ao : Option Addr} {len cap : Nat} {T : List (List UInt8)} {a0 : Nat} {b0 : Bool} {tb bs lv : Nat} {c0 c1 c2 c3 c4 c5 c6 c7 v : Value} {j a1 : Nat} {b1 : Bool} {us : List Tm} (h : SlLoop L B w W0 wr p ao len cap T a0 b0 tb bs lv c0 c1 c2 c3 c4 c5 c6 c7 v j a1 b1 us) : SlLoop L B w W0 wr.drew p ao len cap T a0 b0 tb bs lv c0 c1 c2 c3 c4 c5 c6 c7 v j a1 b1 us :=
  ⟨⟨h.gr.os, h.gr.tape, h.gr.output, h.gr.size, h.gr.block⟩, h.rdr.drew, h.box, h.rdo, h.ul, apm_below h.ap ((Below.refl _ _).drew), h.low, h.lt⟩

theorem sl_next {L B : Nat} {w W0 wr w1 : World} {p : Nat} {ao : Option Addr} {len cap : Nat} {T : List (List UInt8)} {a0 : Nat} {b0 : Bool} {tb bs lv : Nat} {c0 c1 c2 c3 c4 c5 c6 c7 v : Value} {j a1 : Nat} {b1 : Bool} {us : List Tm} (h : SlLoop L B w W0 wr p ao len cap T a0 b0 tb bs lv c0 c1 c2 c3 c4 c5 c6 c7 v j a1 b1 us) (hp : p < w.heap.size) (htb : w.heap.size < tb) (hbs : tb < bs) (hj : j ≤ 1000) {t : Tm} {r1 : Option Addr} {s1 u1 : Nat} {r2 : Option Addr} {s2 u2 : Nat} {r3 : Option Addr} {s3 u3 a2 : Nat} {b2 : Bool} (hg : wr.grownBy w1 (some p)) (hR : Rdr L B w1 p ao len cap a2 b2 T) (hO : RdO (termS lv) T a1 b1 t a2 b2) (ho : FmO wr.heap.size w1.heap.size w1 7 lv t r1 s1 r2 s2 r3 s3) :
    ∃ g cp w2, (Builtin.append_ #[25, 25] 25 #[v, .slice (some ⟨w1.heap.size, 0, none⟩) 1 1]).run Try.prog (w1.alloc (.cells #[.int .i64 t.K, .int .i64 t.N, .string t.S, .string t.Z, .int .i64 t.T.K, .int .i64 t.T.N, .slice r1 s1 u1, .slice r2 s2 u2, .slice r3 s3 u3] 27)) = .ok (.slice (some ⟨g, 0, none⟩) (j + 1) cp) w2 ∧
      w1.cell? ⟨tb, 8, none⟩ = some v ∧ tb < w1.heap.size ∧ w2.cell? ⟨tb, 8, none⟩ = some v ∧ w2.frozen? ⟨tb, 8, none⟩ = false ∧
      SlLoop L B w W0 (w2.setCell ⟨tb, 8, none⟩ (.slice (some ⟨g, 0, none⟩) (j + 1) cp)) p ao len cap T a0 b0 tb bs lv c0 c1 c2 c3 c4 c5 c6 c7 (.slice (some ⟨g, 0, none⟩) (j + 1) cp) (j + 1) a2 b2 (us ++ [t]) := by
  have hsm : Sm bs wr w1 := Sm.grown hg (by omega)
  have hap := apm_more h.ap rfl t
  have hul := h.ul
  have hlt := h.lt
  have e : (us ++ [t])[us.length]'(by simp) = t := by simp
  have hzw := h.gr.size
  have hrun := apm_run2 (c1 := u1) (c2 := u2) (c3 := u3) hap (by simp) (by omega) hsm (by omega) (by rw [e]; exact ho)
  rw [e] at hrun
  obtain ⟨g, cp, w2, hrun, hap2, hlo⟩ := hrun
  rw [hul] at hrun hap2
  have hz1 := hg.size
  have hz2 := hlo.size
  have o1 := (hg.block tb (by omega) (by simp; omega)).trans h.box
  have o2 := (hlo.block tb (by omega)).trans o1
  obtain ⟨Y, hY⟩ : ∃ Y, Y = w2.setCell ⟨tb, 8, none⟩ (.slice (some ⟨g, 0, none⟩) (j + 1) cp) := ⟨_, rfl⟩
  have hYo : ∀ k, k ≠ tb → Y.heap[k]? = w2.heap[k]? := fun k hk => by rw [hY]; exact row_other _ _ _ hk
  have hYs : Y.heap.size = w2.heap.size := by rw [hY]; simp
  have hYb : Y.heap[tb]? = some (.cells #[c0, c1, c2, c3, c4, c5, c6, c7, .slice (some ⟨g, 0, none⟩) (j + 1) cp] 27 (0, 0)) := by rw [hY, row_set o2]; rfl
  have hYa : ApRelM bs Y 7 lv (.slice (some ⟨g, 0, none⟩) (j + 1) cp) (j + 1) (us ++ [t]) := by rw [hY]; exact apm_set hap2 (by omega) _
  have y1 : Y.os = w2.os := by rw [hY]; rfl
  have y2 : Y.tape = w2.tape := by rw [hY]; rfl
  have y3 : Y.output = w2.output := by rw [hY]; rfl
  refine ⟨g, cp, w2, hrun, row_cell o1 8, by omega, row_cell o2 8, row_free o2 8, ?_⟩
  rw [← hY]
  clear hY
  refine ⟨⟨y1.trans (hlo.os.trans (hg.os.trans h.gr.os)), y2.trans (hlo.tape.trans (hg.tape.trans h.gr.tape)), y3.trans (hlo.output.trans (hg.output.trans h.gr.output)), by omega, fun q hq hne => ?_⟩, ?_, hYb, rdo_many h.rdo hO, by simp [hul], ?_, fun q hq1 hq2 hq3 => ?_, by omega⟩
  · rw [hYo q (by omega), hlo.block q (by omega), hg.block q (by omega) hne]
    exact h.gr.block q hq hne
  · have hl := hR.lo
    exact hR.keepB (fun q hq => (hYo q (by omega)).trans (hlo.block q (by omega))) ((hYo p (by omega)).trans (hlo.block p (by omega)))
  · rw [show (us ++ [t]).length = j + 1 by simp [hul]]
    exact hYa
  · rw [hYo q hq3, hlo.block q hq2, hg.block q (by omega) (by simp; omega)]
    exact h.low q hq1 hq2 hq3

/-- What is read of a type, as a reader tells it. -/
theorem rdo_ty {T : List (List UInt8)} {a a' : Nat} {bad' : Bool} {t' : Tr} (h1 : bad' = (prs 6 (T.drop a)).isNone) (h2 : ∀ t u, prs 6 (T.drop a) = some (t, u) → t' = t ∧ a' = a + u) : RdO tyR T a false t' a' bad' := by
  refine ⟨(by intro h; cases h), fun _ => ?_⟩
  cases hp : prs 6 (T.drop a) with
  | none =>
    have e : tyR (T.drop a) = none := hp
    rw [e]
    rw [h1, hp]
    rfl
  | some q =>
    obtain ⟨t, u⟩ := q
    have e : tyR (T.drop a) = some (t, u) := hp
    rw [e]
    obtain ⟨k1, k2⟩ := h2 t u hp
    exact ⟨by rw [h1, hp]; rfl, k1, k2⟩
theorem rdo_skip {α : Type} {f : Rr α} {T : List (List UInt8)} {a a' : Nat} {v : α} : RdO f T a true v a' true := ⟨fun _ => rfl, fun h => by cases h⟩

/-- Where the parts' loop ends: all are there, or something was bad. -/
theorem rdo_parts {lv n j a0 a5 : Nat} {b0 b5 : Bool} {T : List (List UInt8)} {us : List Tm} (h : RdO (manyR (termS lv) j) T a0 b0 us a5 b5) (hj : j ≤ n) (he : j = n ∨ b5 = true) : RdO (manyR (termS lv) n) T a0 b0 us a5 b5 := by
  rcases he with rfl | rfl
  · exact h
  · exact rdo_stop hj h

end Go.Proofs.Ythmmapahobkhnaa
