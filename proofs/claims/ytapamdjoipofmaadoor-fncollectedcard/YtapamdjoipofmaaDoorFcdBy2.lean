/-
  'WriteString' and 'WriteByte' at a builder that lies in a 'shower'.
-/
import Derived.Test.YtapamdjoipofmaaDoorFcdZ26
namespace Go.Proofs.YtapamdjoipofmaaDoor
open Go.RowKit
set_option linter.unusedVariables false
set_option linter.unusedSimpArgs false

theorem row4_set2 {w : World} {b : Nat} {x0 x1 x2 x3 y : Value} {t : TypeId} (h : w.heap[b]? = some (.cells #[x0, x1, x2, x3] t (0, 0))) : (w.setCell ⟨b, 2, none⟩ y).heap[b]? = some (.cells #[x0, x1, y, x3] t (0, 0)) := by rw [row_set h]; rfl
theorem row4_set3 {w : World} {b : Nat} {x0 x1 x2 x3 y : Value} {t : TypeId} (h : w.heap[b]? = some (.cells #[x0, x1, x2, x3] t (0, 0))) : (w.setCell ⟨b, 3, none⟩ y).heap[b]? = some (.cells #[x0, x1, x2, y] t (0, 0)) := by rw [row_set h]; rfl
theorem row4_set1 {w : World} {b : Nat} {x0 x1 x2 x3 y : Value} {t : TypeId} (h : w.heap[b]? = some (.cells #[x0, x1, x2, x3] t (0, 0))) : (w.setCell ⟨b, 1, none⟩ y).heap[b]? = some (.cells #[x0, y, x2, x3] t (0, 0)) := by rw [row_set h]; rfl
theorem Sg.set {S : Nat} {a w : World} (h : Sg S a w) (o : Nat) (v : Value) : Sg S a (w.setCell ⟨S, o, none⟩ v) := ⟨h.bel.setCell (p := ⟨S, o, none⟩) (Nat.le_refl _) v, h.oth.setCell _ rfl v⟩

theorem copyCheck_any {w : World} {S : Nat} {ao : Option Addr} {len cap : Nat} {n : Int} {T : List UInt8} (h : Shw w S ao len cap n T) :
    Calls Tryd.prog 51 #[.pointer (some ⟨S, 2, none⟩)] w fun e w' => e = .returned (.tuple #[]) ∧ Sg S w w' ∧ ∃ v, w'.heap[S]? = some (.cells #[.slice ao len cap, .int .i64 n, .pointer (some ⟨S, 2, none⟩), v] 60 (0, 0)) ∧ Byr (S + 1) w' v T := by
  obtain ⟨p, v, hb, hp, hr⟩ := h.at_
  obtain ⟨_, _, c2, _⟩ := cells4b hb
  rcases hp with rfl | rfl
  · refine (copyCheck_fresh S w c2 (by simp [World.shape?, hb]) (row_free hb 2)).mono ?_
    rintro e w' ⟨rfl, rfl⟩
    refine ⟨rfl, (Sg.refl S w).set 2 _, v, row4_set2 hb, byr_keep hr fun g hg => ?_⟩
    have := (byr_own hr hg).1
    exact row_other _ _ _ (by show g ≠ S; omega)
  · refine (copyCheck_used S w c2).mono ?_
    rintro e w' ⟨rfl, rfl⟩
    exact ⟨rfl, Sg.refl _ _, v, hb, hr⟩

/-- 'append' in a plain region, by the equation of its run. -/
theorem list_run2 {P : Program} {ops : Array Oper} {rest : List Oper} {o : Oper} {a : Act} {W w2 : World} {Q : Exit → Act → World → Prop} {t t' ty : TypeId} {v u r : Value} (hrun : (Builtin.append_ #[t, t'] ty #[v, u]).run P W = .ok r w2) (hgd : o.guard = none) (s x : Operand)
    (ho : o.op = .call { callee := .builtin .append, args := #[s, x], argTypes := #[t, t'] }) (hty : o.type = ty) (hs : a.eval s = v) (hx : a.eval x = u) (h : wpList P ops Q rest (a.put o.dst r) w2) : wpList P ops Q (o :: rest) a W :=
  wpList_plain hgd fun _ hK => by
    unfold Oper.wp execOp
    simp only [ho, hty, resolve, invoke, builtin, Sem.run_bind, Sem.run_pure, Result.andThen_ok, List.map_toArray, List.map_cons, List.map_nil, hs, hx, hrun]
    exact hK _ _ h

theorem byr_form {base : Nat} {w : World} {v : Value} {T : List UInt8} (h : Byr base w v T) : ∃ ao cap, v = .slice ao T.length cap := by
  rcases h.2 with ⟨rfl, hn⟩ | ⟨g, cap, cur, rfl, _⟩
  · exact ⟨none, 0, by rw [hn]⟩
  · exact ⟨_, cap, rfl⟩
theorem strCells_bytes (s : ByteArray) : Lib.strCells s = Lib.byteCells s.data.toList := rfl

set_option maxRecDepth 100000 in
set_option maxHeartbeats 1000000 in
theorem writeString_any {w : World} {S : Nat} {ao : Option Addr} {len cap : Nat} {n : Int} {T : List UInt8} (t : List UInt8) (h : Shw w S ao len cap n T) (hl : T.length + t.length ≤ 10000000) :
    Calls Tryd.prog 41 #[.pointer (some ⟨S, 2, none⟩), .string ⟨t.toArray⟩] w fun e w' => (∃ r, e = .returned r) ∧ Sg S w w' ∧ Shw w' S ao len cap n (T ++ t) := by
  go_enter Tryd.func41, Tryd.ntmps41
  go_wp2_with fail
  refine (copyCheck_any h).mono ?_
  rintro e w1 ⟨rfl, hg1, v, hb1, hr1⟩
  obtain ⟨c0, c1, c2, c3⟩ := cells4b hb1
  obtain ⟨i0, hi, hz0, hz1, hz2⟩ := info_parts Tryd.infoByte
  have hlt : S < w1.heap.size := (Array.getElem?_eq_some_iff.1 hb1).1
  have hsz : (⟨t.toArray⟩ : ByteArray).size = t.length := by simp [ByteArray.size]
  obtain ⟨v', w2, hrun, hown, hgrow, _⟩ := Lib.run_append_own_string (P := Tryd.prog) w1 (S + 1) 22 9 22 5 i0 Tryd.underlying22 Tryd.underlying9 hi hz0 hz1 hz2 v T.length _ hr1 ⟨t.toArray⟩ (by rw [hsz]; unfold maxLen; omega) (by rw [hsz]; omega) (by omega)
  have hvS : v.ownBlock ≠ some S := fun e => by have := (byr_own hr1 e).1; omega
  have hb2 : w2.heap[S]? = _ := (hgrow.block S hlt (fun e => hvS e.symm)).trans hb1
  obtain ⟨d0, d1, d2, d3⟩ := cells4b hb2
  have d4 := row_free hb2
  have hr2 : Byr (S + 1) w2 v' (T ++ t) := by
    unfold Byr
    rw [List.length_append, ← hsz, show Lib.byteCells (T ++ t) = Lib.byteCells T ++ Lib.strCells ⟨t.toArray⟩ by rw [strCells_bytes]; simp [Lib.byteCells]]
    exact hown
  have hg2 : Sg S w w2 := by
    refine hg1.trans ⟨⟨hgrow.os, hgrow.tape, hgrow.output, hgrow.size, fun k hk => hgrow.block k (by omega) (fun e => by have := (byr_own hr1 e.symm).1; omega)⟩, (Lib.OthersKept.refl _ _ _).grown hgrow (fun g hg => (byr_own hr1 hg).2)⟩
  have HR : Hid (_ = _) := hrun
  obtain ⟨vo, vc, hve⟩ := byr_form hr1
  subst hve
  obtain ⟨vo', vc', hve'⟩ := byr_form hr2
  rw [List.length_append] at hve'
  subst hve'
  clear hrun hown hgrow hi hz0 hz1 hz2 d0 d1 d2
  go_wp2_with (at_builtin; refine list_run2 HR.out (by rfl) _ _ (by rfl) (by rfl) (by rfl) (by rfl) ?_)
  refine bodyPost_ret (v := .tuple #[.int .i64 (t.length : Int), .nilIface]) (by simp [results, Tryd.results41, go_sem]) rfl ⟨⟨_, rfl⟩, hg2.set 3 _, _, _, row4_set3 hb2, Or.inr rfl, byr_keep hr2 fun g hg => ?_⟩
  have := (byr_own hr2 hg).1
  exact row_other _ _ _ (by show g ≠ S; omega)

set_option maxRecDepth 100000 in
set_option maxHeartbeats 1000000 in
theorem writeByte_any {w : World} {S : Nat} {ao : Option Addr} {len cap : Nat} {n : Int} {T : List UInt8} (c : Int) (b : UInt8) (hcb : c = (b.toNat : Int)) (h : Shw w S ao len cap n T) (hl : T.length + 1 ≤ 10000000) :
    Calls Tryd.prog 50 #[.pointer (some ⟨S, 2, none⟩), .int .u8 c] w fun e w' => (∃ r, e = .returned r) ∧ Sg S w w' ∧ Shw w' S ao len cap n (T ++ [b]) := by
  subst hcb
  go_enter Tryd.func50, Tryd.ntmps50
  go_wp2_with fail
  refine (copyCheck_any h).mono ?_
  rintro e w1 ⟨rfl, hg1, v, hb1, hr1⟩
  obtain ⟨c0, c1, c2, c3⟩ := cells4b hb1
  obtain ⟨i0, hi, hz0, hz1, hz2⟩ := info_parts Tryd.infoByte
  have hlt : S < w1.heap.size := (Array.getElem?_eq_some_iff.1 hb1).1
  have hA : Below w1.heap.size w1 (w1.alloc (.cells #[.int .u8 (b.toNat : Int)] 5)) := (Below.refl _ _).alloc (Nat.le_refl _) _
  have hrA : Byr (S + 1) (w1.alloc (.cells #[.int .u8 (b.toNat : Int)] 5)) v T := byr_keep hr1 fun g hg => by
    obtain ⟨_, cc, fz, hc⟩ := byr_own hr1 hg
    exact hA.block g (Array.getElem?_eq_some_iff.1 hc).1
  obtain ⟨g, cap', w2, hrun, hown, hgrow, hat, hlt2⟩ := run_append_lies (P := Tryd.prog) (w1.alloc (.cells #[.int .u8 (b.toNat : Int)] 5)) 22 22 (S + 1) 5 i0 _ 1 1 Tryd.underlying22 hi hz0 hz1 hz2 rfl (by omega) v T.length _ hrA
    ⟨w1.heap.size, 0, none⟩ 1 1 [.int .u8 (b.toNat : Int)] rfl (World.news_of_block (cs := #[.int .u8 (b.toNat : Int)]) (t := 5) (fr := (0, 0)) (heap_alloc_new w1 _)) (by simp [Value.oneCell'])
    (by omega) (by unfold maxLen; omega) (by omega) (by simp; omega) _ rfl
  have hvS : v.ownBlock ≠ some S := fun e => by have := (byr_own hr1 e).1; omega
  have hb2 : w2.heap[S]? = _ := (hgrow.block S (by simp; omega) (fun e => hvS e.symm)).trans ((hA.block S hlt).trans hb1)
  obtain ⟨d0, d1, d2, d3⟩ := cells4b hb2
  have d4 := row_free hb2
  have hr2 : Byr (S + 1) w2 (.slice (some ⟨g, 0, none⟩) (T.length + 1) cap') (T ++ [b]) := by
    unfold Byr
    rw [List.length_append, show Lib.byteCells (T ++ [b]) = Lib.byteCells T ++ [.int .u8 (b.toNat : Int)] by simp [Lib.byteCells]]
    exact hown
  have hg2 : Sg S w w2 := by
    refine (hg1.trans (Sg.below hA (by omega))).trans ⟨⟨hgrow.os, hgrow.tape, hgrow.output, hgrow.size, fun k hk => hgrow.block k (by simp; omega) (fun e => by have := (byr_own hrA e.symm).1; omega)⟩, (Lib.OthersKept.refl _ _ _).grown hgrow (fun g hg => (byr_own hrA hg).2)⟩
  have HR : Hid (_ = _) := hrun
  obtain ⟨vo, vc, hve⟩ := byr_form hr1
  subst hve
  clear hrun hown hgrow hi hz0 hz1 hz2 d0 d1 d2 hat hlt2 hA hrA
  go_wp2_with (at_builtin; refine list_run2 HR.out (by rfl) _ _ (by rfl) (by rfl) (by rfl) (by rfl) ?_)
  refine bodyPost_ret (v := .nilIface) (by simp [results, Tryd.results50, go_sem]) rfl ⟨⟨_, rfl⟩, hg2.set 3 _, _, _, row4_set3 hb2, Or.inr rfl, byr_keep hr2 fun g' hg' => ?_⟩
  have := (byr_own hr2 hg').1
  exact row_other _ _ _ (by show g' ≠ S; omega)

end Go.Proofs.YtapamdjoipofmaaDoor
