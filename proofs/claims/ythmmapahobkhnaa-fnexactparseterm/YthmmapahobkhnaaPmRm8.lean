/-
  The program's reader of terms: a term.
-/
import Derived.Test.YthmmapahobkhnaaPmRm7
import Derived.Test.YthmmapahobkhnaaPmZ22
import Derived.Deep.RegionLaw
namespace Go.Proofs.Ythmmapahobkhnaa
open Go.RowKit Go.PlainAid
set_option linter.unusedVariables false
set_option linter.unusedSimpArgs false

theorem head_any (x : List UInt8) (hx : kindW x ≠ 0) (p : Nat) (ao : Option Addr) (len cap a L B : Nat) (bad : Bool) (T : List (List UInt8)) (w : World) (hT : ∀ x ∈ T, x.length ≤ 1048577) (h : Rdm L B w p ao len cap a bad T) :
    Calls Try.prog 38 #[.pointer (some ⟨p, 0, none⟩), tk x, .agg #[.int .i64 (shN (kindW x)), .int .i64 (shL (kindW x)), .int .i64 (shM (kindW x)), .bool (shT (kindW x)), .int .i64 (shS (kindW x)), .int .i64 (shP (kindW x))]] w fun e w' => HdRd L B w w' e p ao len cap T a bad x (kindW x) := by
  obtain ⟨h1, h2, _⟩ := kindW_some hx
  obtain ⟨k, hk⟩ : ∃ k, k = kindW x := ⟨_, rfl⟩
  rw [← hk] at h1 h2 ⊢
  rcases kinds h1 h2 with rfl | rfl | rfl | rfl | rfl | rfl | rfl | rfl | rfl | rfl | rfl | rfl | rfl | rfl | rfl | rfl | rfl
  · exact head_000 x _ hk rfl rfl rfl p ao len cap a L B bad T w hT h
  · exact head_000 x _ hk rfl rfl rfl p ao len cap a L B bad T w hT h
  · exact head_102 x _ hk rfl rfl rfl p ao len cap a L B bad T w hT h
  · exact head_110 x _ hk rfl rfl rfl p ao len cap a L B bad T w hT h
  · exact head_000 x _ hk rfl rfl rfl p ao len cap a L B bad T w hT h
  · exact head_100 x _ hk rfl rfl rfl p ao len cap a L B bad T w hT h
  · exact head_110 x _ hk rfl rfl rfl p ao len cap a L B bad T w hT h
  · exact head_000 x _ hk rfl rfl rfl p ao len cap a L B bad T w hT h
  · exact head_000 x _ hk rfl rfl rfl p ao len cap a L B bad T w hT h
  · exact head_000 x _ hk rfl rfl rfl p ao len cap a L B bad T w hT h
  · exact head_000 x _ hk rfl rfl rfl p ao len cap a L B bad T w hT h
  · exact head_010 x _ hk rfl rfl rfl p ao len cap a L B bad T w hT h
  · exact head_000 x _ hk rfl rfl rfl p ao len cap a L B bad T w hT h
  · exact head_200 x _ hk rfl rfl rfl p ao len cap a L B bad T w hT h
  · exact head_000 x _ hk rfl rfl rfl p ao len cap a L B bad T w hT h
  · exact head_010 x _ hk rfl rfl rfl p ao len cap a L B bad T w hT h
  · exact head_100 x _ hk rfl rfl rfl p ao len cap a L B bad T w hT h

/-- What a reader of a term comes to. -/
def TmRd (lv : Nat) (L B : Nat) (w w' : World) (e : Ending) (p : Nat) (ao : Option Addr) (len cap : Nat) (T : List (List UInt8)) (a : Nat) (bad : Bool) : Prop :=
  ∃ (t : Tm) (a1 : Option Addr) (l1 c1 : Nat) (a2 : Option Addr) (l2 c2 : Nat) (a3 : Option Addr) (l3 c3 a' : Nat) (bad' : Bool), e = .returned (.agg #[.int .i64 t.K, .int .i64 t.N, .string t.S, .string t.Z, .int .i64 t.T.K, .int .i64 t.T.N, .slice a1 l1 c1, .slice a2 l2 c2, .slice a3 l3 c3]) ∧ w.grownBy w' (some p) ∧ Rdm L B w' p ao len cap a' bad' T ∧ RdO (termR lv) T a bad t a' bad' ∧ FmO w.heap.size w'.heap.size w' 7 lv t a1 l1 a2 l2 a3 l3

def SaidTr (lv : Nat) : Prop := ∀ (p : Nat) (ao : Option Addr) (len cap a L B : Nat) (bad : Bool) (T : List (List UInt8)) (w : World), (∀ x ∈ T, x.length ≤ 1048577) → Rdm L B w p ao len cap a bad T →
    Calls Try.prog 14 #[.pointer (some ⟨p, 0, none⟩), .int .i64 lv] w fun e w' => TmRd lv L B w w' e p ao len cap T a bad

theorem rdo_dead {α β : Type} {f : Rr α} {g : α → Rr β} {T : List (List UInt8)} {a a1 a2 : Nat} {b : Bool} {x : α} {y : β} (h : RdO f T a b x a1 true) : RdO (f.bind g) T a b y a2 true := by
  refine ⟨fun _ => rfl, fun hb => ?_⟩
  have k := h.2 hb
  unfold Rr.bind
  cases hf : f (T.drop a) with
  | none => rfl
  | some p =>
    obtain ⟨x', u⟩ := p
    rw [hf] at k
    cases k.1
theorem manyR_add {α : Type} (f : Rr α) (m : Nat) : ∀ n, ∃ g : List α → Rr (List α), manyR f (n + m) = (manyR f n).bind g := by
  induction m with
  | zero => intro n; exact ⟨Rr.ret, by
      funext T
      unfold Rr.bind
      cases h : manyR f n T with
      | none => simp only [Nat.add_zero, h]
      | some p => obtain ⟨l, u⟩ := p; simp only [Nat.add_zero, h, Rr.ret]⟩
  | succ m ih =>
    intro n
    obtain ⟨g, hg⟩ := ih n
    refine ⟨fun l => (g l).bind fun l => f.bind fun a => Rr.ret (l ++ [a]), ?_⟩
    rw [show n + (m + 1) = (n + m) + 1 by omega, manyR_snoc, hg, bind_assoc]
theorem rdo_stop {α : Type} {f : Rr α} {T : List (List UInt8)} {a a1 a2 n j : Nat} {b : Bool} {l l' : List α} (hj : j ≤ n) (h : RdO (manyR f j) T a b l a1 true) : RdO (manyR f n) T a b l' a2 true := by
  obtain ⟨g, hg⟩ := manyR_add f (n - j) j
  rw [show j + (n - j) = n by omega] at hg
  rw [hg]
  exact rdo_dead h

def zTr : Tm := ⟨0, 0, ⟨#[]⟩, ⟨#[]⟩, ⟨0, 0, []⟩, [], []⟩

theorem tmrd_zero {lv L B : Nat} {w w' : World} {e : Ending} {p : Nat} {ao : Option Addr} {len cap : Nat} {T : List (List UInt8)} {a a' : Nat} {bad : Bool} (he : e = .returned (.agg #[.int .i64 0, .int .i64 0, .string ⟨#[]⟩, .string ⟨#[]⟩, .int .i64 0, .int .i64 0, .slice none 0 0, .slice none 0 0, .slice none 0 0])) (hg : w.grownBy w' (some p)) (hR : Rdm L B w' p ao len cap a' true T) (hO : RdO (termR lv) T a bad zTr a' true) : TmRd lv L B w w' e p ao len cap T a bad :=
  ⟨zTr, none, 0, 0, none, 0, 0, none, 0, 0, a', true, he, hg, hR, hO, FmO.mk (M1 := w.heap.size) (M2 := w.heap.size) (by show (0 : Nat) ≤ _; omega) (by show (0 : Nat) ≤ _; omega) (OwR.nil _ _ _ _ _) (OwR.nil _ _ _ _ _) (OwMR.nil _ _ _ _ _ _) (Nat.le_refl _) (Nat.le_refl _) hg.size⟩

theorem Rdm.drew {L B : Nat} {w : World} {p : Nat} {ao : Option Addr} {len cap a : Nat} {bad : Bool} {T : List (List UInt8)} (h : Rdm L B w p ao len cap a bad T) : Rdm L B w.drew p ao len cap a bad T := ⟨h.row, h.toks, h.le, h.sm, h.lo⟩

/-- While the parts of a term are read. -/
structure TmLoop (L B : Nat) (w W0 wr : World) (p : Nat) (ao : Option Addr) (len cap : Nat) (T : List (List UInt8)) (a0 : Nat) (b0 : Bool) (tb lv : Nat) (c0 c1 c2 c3 c4 c5 c6 c7 v : Value) (j a1 : Nat) (b1 : Bool) (us : List Tm) : Prop where
  gr : w.grownBy wr (some p)
  rdm : Rdm L B wr p ao len cap a1 b1 T
  res : wr.heap[w.heap.size]? = some (.cells #[.int .i64 0, .int .i64 0, .string ⟨#[]⟩, .string ⟨#[]⟩, .int .i64 0, .int .i64 0, .slice none 0 0, .slice none 0 0, .slice none 0 0] 27 (0, 0))
  box : wr.heap[tb]? = some (.cells #[c0, c1, c2, c3, c4, c5, c6, c7, v] 27 (0, 0))
  rdo : RdO (manyR (termR lv) j) T a0 b0 us a1 b1
  ul : us.length = j
  ap : ApRelM (tb + 1) wr 7 lv v us.length us
  low : ∀ q, w.heap.size ≤ q → q < tb → wr.heap[q]? = W0.heap[q]?
  lt : tb < wr.heap.size

theorem TmLoop.drew {L B : Nat} {w W0 wr : World} {p : Nat} {ao : Option Addr} {len cap : Nat} {T : List (List UInt8)} {a0 : Nat} {b0 : Bool} {tb lv : Nat} {c0 c1 c2 c3 c4 c5 c6 c7 v : Value} {j a1 : Nat} {b1 : Bool} {us : List Tm} (h : TmLoop L B w W0 wr p ao len cap T a0 b0 tb lv c0 c1 c2 c3 c4 c5 c6 c7 v j a1 b1 us) : TmLoop L B w W0 wr.drew p ao len cap T a0 b0 tb lv c0 c1 c2 c3 c4 c5 c6 c7 v j a1 b1 us :=
  ⟨⟨h.gr.os, h.gr.tape, h.gr.output, h.gr.size, h.gr.block⟩, h.rdm.drew, h.res, h.box, h.rdo, h.ul, apm_below h.ap ((Below.refl _ _).drew), h.low, h.lt⟩

theorem tm_next {L B : Nat} {w W0 wr w1 : World} {p : Nat} {ao : Option Addr} {len cap : Nat} {T : List (List UInt8)} {a0 : Nat} {b0 : Bool} {tb lv : Nat} {c0 c1 c2 c3 c4 c5 c6 c7 v : Value} {j a1 : Nat} {b1 : Bool} {us : List Tm} (h : TmLoop L B w W0 wr p ao len cap T a0 b0 tb lv c0 c1 c2 c3 c4 c5 c6 c7 v j a1 b1 us) (hp : p < w.heap.size) (htb : w.heap.size < tb) (hj : j ≤ 1000) {t : Tm} {r1 : Option Addr} {s1 u1 : Nat} {r2 : Option Addr} {s2 u2 : Nat} {r3 : Option Addr} {s3 u3 a2 : Nat} {b2 : Bool} (hg : wr.grownBy w1 (some p)) (hR : Rdm L B w1 p ao len cap a2 b2 T) (hO : RdO (termR lv) T a1 b1 t a2 b2) (ho : FmO wr.heap.size w1.heap.size w1 7 lv t r1 s1 r2 s2 r3 s3) :
    ∃ g cp w2, (Builtin.append_ #[25, 25] 25 #[v, .slice (some ⟨w1.heap.size, 0, none⟩) 1 1]).run Try.prog (w1.alloc (.cells #[.int .i64 t.K, .int .i64 t.N, .string t.S, .string t.Z, .int .i64 t.T.K, .int .i64 t.T.N, .slice r1 s1 u1, .slice r2 s2 u2, .slice r3 s3 u3] 27)) = .ok (.slice (some ⟨g, 0, none⟩) (j + 1) cp) w2 ∧
      w1.cell? ⟨tb, 8, none⟩ = some v ∧ tb < w1.heap.size ∧ w2.cell? ⟨tb, 8, none⟩ = some v ∧ w2.frozen? ⟨tb, 8, none⟩ = false ∧
      TmLoop L B w W0 (w2.setCell ⟨tb, 8, none⟩ (.slice (some ⟨g, 0, none⟩) (j + 1) cp)) p ao len cap T a0 b0 tb lv c0 c1 c2 c3 c4 c5 c6 c7 (.slice (some ⟨g, 0, none⟩) (j + 1) cp) (j + 1) a2 b2 (us ++ [t]) := by
  have hsm : Sm (tb + 1) wr w1 := Sm.grown hg (by omega)
  have hap := apm_more h.ap rfl t
  have hul := h.ul
  have hlt := h.lt
  have e : (us ++ [t])[us.length]'(by simp) = t := by simp
  have hzw := h.gr.size
  have hrun := apm_run2 (c1 := u1) (c2 := u2) (c3 := u3) hap (by simp) (by omega) hsm (by omega) (by rw [e]; exact ho)
  rw [e] at hrun
  obtain ⟨g, cp, w2, hrun, hap2, hlo⟩ := hrun
  rw [hul] at hrun hap2
  have hz1 := hg.size
  have hz2 := hlo.size
  have o1 := (hg.block tb hlt (by simp; omega)).trans h.box
  have o2 := (hlo.block tb (by omega)).trans o1
  obtain ⟨Y, hY⟩ : ∃ Y, Y = w2.setCell ⟨tb, 8, none⟩ (.slice (some ⟨g, 0, none⟩) (j + 1) cp) := ⟨_, rfl⟩
  have hYo : ∀ k, k ≠ tb → Y.heap[k]? = w2.heap[k]? := fun k hk => by rw [hY]; exact row_other _ _ _ hk
  have hYs : Y.heap.size = w2.heap.size := by rw [hY]; simp
  have hYb : Y.heap[tb]? = some (.cells #[c0, c1, c2, c3, c4, c5, c6, c7, .slice (some ⟨g, 0, none⟩) (j + 1) cp] 27 (0, 0)) := by rw [hY, row_set o2]; rfl
  have hYa : ApRelM (tb + 1) Y 7 lv (.slice (some ⟨g, 0, none⟩) (j + 1) cp) (j + 1) (us ++ [t]) := by rw [hY]; exact apm_set hap2 (by omega) _
  have y1 : Y.os = w2.os := by rw [hY]; rfl
  have y2 : Y.tape = w2.tape := by rw [hY]; rfl
  have y3 : Y.output = w2.output := by rw [hY]; rfl
  refine ⟨g, cp, w2, hrun, row_cell o1 8, by omega, row_cell o2 8, row_free o2 8, ?_⟩
  rw [← hY]
  clear hY
  refine ⟨⟨y1.trans (hlo.os.trans (hg.os.trans h.gr.os)), y2.trans (hlo.tape.trans (hg.tape.trans h.gr.tape)), y3.trans (hlo.output.trans (hg.output.trans h.gr.output)), by omega, fun q hq hne => ?_⟩, ?_, ?_, hYb, rdo_many h.rdo hO, by simp [hul], ?_, fun q hq1 hq2 => ?_, by omega⟩
  · rw [hYo q (by omega), hlo.block q (by omega), hg.block q (by omega) hne]
    exact h.gr.block q hq hne
  · have hl := hR.lo
    exact hR.keep (fun q hq => (hYo q (by omega)).trans (hlo.block q (by omega))) ((hYo p (by omega)).trans (hlo.block p (by omega)))
  · rw [hYo _ (by omega), hlo.block _ (by omega), hg.block _ (by omega) (by simp; omega)]
    exact h.res
  · rw [show (us ++ [t]).length = j + 1 by simp [hul]]
    exact hYa
  · rw [hYo q (by omega), hlo.block q (by omega), hg.block q (by omega) (by simp; omega)]
    exact h.low q hq1 hq2

end Go.Proofs.Ythmmapahobkhnaa
