/-
  What the model's 'l12Show' has in memory: how many looks are left, the row of bytes. No walk.
-/
import Derived.Test.YtaljpbgggembmaaDoorShxBy5
namespace Go.Proofs.YtaljpbgggembmaaDoor
open Go.RowKit
set_option linter.unusedVariables false
set_option linter.unusedSimpArgs false

/-- Looks left in block M, a row of bytes behind it. -/
structure Ml (w : World) (M : Nat) (n : Int) (v : Value) (T : List UInt8) : Prop where
  blk : w.heap[M]? = some (.cells #[.int .i64 n] 3 (0, 0))
  row : Byr (M + 1) w v T
theorem Ml.lt {w : World} {M : Nat} {n : Int} {v : Value} {T : List UInt8} (h : Ml w M n v T) : M < w.heap.size := (Array.getElem?_eq_some_iff.1 h.blk).1
theorem Ml.cell {w : World} {M : Nat} {n : Int} {v : Value} {T : List UInt8} (h : Ml w M n v T) : w.cell? ⟨M, 0, none⟩ = some (.int .i64 n) := row_cell h.blk 0
theorem Ml.below {w w' : World} {M : Nat} {n : Int} {v : Value} {T : List UInt8} (h : Ml w M n v T) (hb : Below w.heap.size w w') : Ml w' M n v T := by
  refine ⟨(hb.block _ h.lt).trans h.blk, byr_keep h.row fun g hg => ?_⟩
  obtain ⟨_, c, fz, hc⟩ := byr_own h.row hg
  exact hb.block g (Array.getElem?_eq_some_iff.1 hc).1
theorem Ml.drew {w : World} {M : Nat} {n : Int} {v : Value} {T : List UInt8} (h : Ml w M n v T) : Ml w.drew M n v T := h.below ⟨rfl, rfl, rfl, Nat.le_refl _, fun _ _ => rfl⟩
theorem Ml.setN {w : World} {M : Nat} {n : Int} {v : Value} {T : List UInt8} (h : Ml w M n v T) (m : Int) : Ml (w.setCell ⟨M, 0, none⟩ (.int .i64 m)) M m v T ∧ Sg M w (w.setCell ⟨M, 0, none⟩ (.int .i64 m)) := by
  refine ⟨⟨by rw [row_set h.blk]; rfl, byr_keep h.row fun g hg => ?_⟩, (Sg.refl M w).set 0 _⟩
  have := (byr_own h.row hg).1
  exact row_other _ _ _ (by show g ≠ M; omega)
/-- A block of another kind is written. -/
theorem Ml.other {w : World} {M k : Nat} {n : Int} {v : Value} {T : List UInt8} (h : Ml w M n v T) {cs : Array Value} {t : TypeId} {fr : Nat × Nat} (hk : w.heap[k]? = some (.cells cs t fr)) (hM : k ≠ M) (ht : t ≠ 5) (o : Nat) (y : Value) : Ml (w.setCell ⟨k, o, none⟩ y) M n v T := by
  refine ⟨(row_other _ _ _ (fun e => hM e.symm)).trans h.blk, byr_keep h.row fun g hg => ?_⟩
  obtain ⟨_, c, fz, hc⟩ := byr_own h.row hg
  refine row_other _ _ _ (fun e => ?_)
  have e' : g = k := e
  subst e'
  rw [hk] at hc
  injection hc with hc
  injection hc with _ e2 _
  exact ht e2
theorem Sg.drewS {S : Nat} {w w' : World} (h : Sg S w w') : Sg S w w'.drew := ⟨h.bel.drew, h.oth.drew⟩

theorem byr_formS {base : Nat} {w : World} {v : Value} {T : List UInt8} (h : Byr base w v T) : ∃ ao cap, v = .slice ao T.length cap := byr_form h

/-- Bytes behind the row. -/
theorem Ml.add {w : World} {M : Nat} {n : Int} {v : Value} {T : List UInt8} (h : Ml w M n v T) (bs : List UInt8) (h0 : 0 < bs.length) (cs : List Value) (hcs : cs = Lib.byteCells bs) (k : Nat) (hk : k = bs.length) (hl : T.length + bs.length ≤ 10000000) :
    ∃ g cap' w2, (Builtin.append_ #[39, 39] 39 #[v, .slice (some ⟨w.heap.size, 0, none⟩) k k]).run Tryd.prog (w.alloc (.cells cs.toArray 5)) = .ok (.slice (some ⟨g, 0, none⟩) (T.length + k) cap') w2 ∧
      Ml w2 M n (.slice (some ⟨g, 0, none⟩) (T.length + k) cap') (T ++ bs) ∧ Sg M w w2 := by
  subst hk
  have hlt := h.lt
  obtain ⟨i0, hi, hz0, hz1, hz2⟩ := info_parts Tryd.infoByte
  have hA : Below w.heap.size w (w.alloc (.cells cs.toArray 5)) := (Below.refl _ _).alloc (Nat.le_refl _) _
  have hrA := (h.below hA).row
  have hcl : cs.length = bs.length := by rw [hcs]; simp [Lib.byteCells]
  obtain ⟨g, cap', w2, hrun, hown, hgrow, hat, hlt2⟩ := run_append_lies (P := Tryd.prog) (w.alloc (.cells cs.toArray 5)) 39 39 (M + 1) 5 i0 _ 1 1 Tryd.underlying39 hi hz0 hz1 hz2 rfl (by omega) v T.length _ hrA
    ⟨w.heap.size, 0, none⟩ bs.length bs.length cs (by rw [hcl, Nat.mul_one]) (fun j u hu => World.news_of_block (cs := cs.toArray) (t := 5) (fr := (0, 0)) (heap_alloc_new w _) j u (by simpa using hu)) (fun u hu => by
      rw [hcs] at hu
      obtain ⟨_, _, rfl⟩ := List.mem_map.1 hu
      rfl)
    (by omega) (by unfold maxLen; omega) (by omega) (by simp; omega) _ rfl
  have hvM : v.ownBlock ≠ some M := fun e => by have := (byr_own h.row e).1; omega
  have hb2 : w2.heap[M]? = _ := (hgrow.block M (by simp; omega) (fun e => hvM e.symm)).trans ((hA.block M hlt).trans h.blk)
  refine ⟨g, cap', w2, hrun, ⟨hb2, ?_⟩, (Sg.below hA (by omega)).trans ⟨⟨hgrow.os, hgrow.tape, hgrow.output, hgrow.size, fun k hk => hgrow.block k (by simp; omega) (fun e => by have := (byr_own hrA e.symm).1; omega)⟩, (Lib.OthersKept.refl _ _ _).grown hgrow (fun g hg => (byr_own hrA hg).2)⟩⟩
  unfold Byr
  rw [List.length_append, show Lib.byteCells (T ++ bs) = Lib.byteCells T ++ cs by rw [hcs]; simp [Lib.byteCells]]
  exact hown

/-- A text behind the row. -/
theorem Ml.addS {w : World} {M : Nat} {n : Int} {v : Value} {T : List UInt8} (h : Ml w M n v T) (t : List UInt8) (hl : T.length + t.length ≤ 10000000) :
    ∃ vo' vc' w2, (Builtin.append_ #[39, 9] 39 #[v, .string ⟨t.toArray⟩]).run Tryd.prog w = .ok (.slice vo' (T.length + t.length) vc') w2 ∧ Ml w2 M n (.slice vo' (T.length + t.length) vc') (T ++ t) ∧ Sg M w w2 := by
  have hlt := h.lt
  obtain ⟨i0, hi, hz0, hz1, hz2⟩ := info_parts Tryd.infoByte
  have hsz : (⟨t.toArray⟩ : ByteArray).size = t.length := by simp [ByteArray.size]
  obtain ⟨v', w2, hrun, hown, hgrow, _⟩ := Lib.run_append_own_string (P := Tryd.prog) w (M + 1) 39 9 39 5 i0 Tryd.underlying39 Tryd.underlying9 hi hz0 hz1 hz2 v T.length _ h.row ⟨t.toArray⟩ (by rw [hsz]; unfold maxLen; omega) (by rw [hsz]; omega) (by omega)
  have hvM : v.ownBlock ≠ some M := fun e => by have := (byr_own h.row e).1; omega
  have hb2 : w2.heap[M]? = _ := (hgrow.block M hlt (fun e => hvM e.symm)).trans h.blk
  have hr2 : Byr (M + 1) w2 v' (T ++ t) := by
    unfold Byr
    rw [List.length_append, ← hsz, show Lib.byteCells (T ++ t) = Lib.byteCells T ++ Lib.strCells ⟨t.toArray⟩ by rw [strCells_bytes]; simp [Lib.byteCells]]
    exact hown
  obtain ⟨vo', vc', hve'⟩ := byr_form hr2
  rw [List.length_append] at hve'
  subst hve'
  exact ⟨vo', vc', w2, hrun, ⟨hb2, hr2⟩, ⟨⟨hgrow.os, hgrow.tape, hgrow.output, hgrow.size, fun k hk => hgrow.block k (by omega) (fun e => by have := (byr_own h.row e.symm).1; omega)⟩, (Lib.OthersKept.refl _ _ _).grown hgrow (fun g hg => (byr_own h.row hg).2)⟩⟩

/-- How many looks are left, as the world has it. -/
def leftM (M : Nat) (w : World) : Nat := match w.cell? ⟨M, 0, none⟩ with
  | some v => (intOf v).toNat
  | none => 0
theorem Ml.left {w : World} {M n : Nat} {v : Value} {T : List UInt8} (h : Ml w M (n : Int) v T) : leftM M w = n := by
  unfold leftM
  rw [h.cell]
  simp [intOf]

/-- What 'l12Show' comes to with this much fuel of the plain text. -/
def SaidM (M : Nat) (s : Int) (ao : Option Addr) (len cap : Nat) (l : List Wrd) (f : Nat) : Prop :=
  ∀ (n : Nat) (x : Wrd) (T : List UInt8) (v : Value) (w : World), n < f → rgt (heads l) x = true → Ml w M (n : Int) v T → Ws 0 M w ao len l → T.length + 32 * n + 2 ≤ 900000 →
    Calls Tryd.prog 12 #[vH s ao len cap, vW x, .pointer (some ⟨M, 0, none⟩), v] w fun e w' => ∃ v', e = .returned v' ∧ Sg M w w' ∧ Ml w' M ((shw l f n x).2 : Int) v' (T ++ (shw l f n x).1)

end Go.Proofs.YtaljpbgggembmaaDoor
