/-
  The model's 'l12Collect'.
-/
import Derived.Test.YtkplfdckfbihcaaFrtMo
import Derived.Deep.RegionHeld3
namespace Go.Proofs.Ytkplfdckfbihcaa
open Go.RowKit
set_option linter.unusedVariables false
set_option linter.unusedSimpArgs false

/-- What 'l12Collect' knows on its way. -/
structure Cst (w W : World) (s : Int) (ao : Option Addr) (len cap : Nat) (l : List Wrd) (ps : List Nat) (vt vc vo : Value) (Cc Oo : List Wrd) (y : Wrd) (T : Nat) : Prop where
  bel : Below w.heap.size w W
  b2 : W.heap[w.heap.size]? = some (.cells #[.int .i64 s, .slice ao len cap] 26 (0, 0))
  b4 : W.heap[w.heap.size + 1]? = some (.cells #[.int .i64 0, .slice none 0 0] 26 (0, 0))
  b10 : W.heap[T]? = some (.cells #[.int .i64 y.K, .int .i64 y.N] 28 (0, 0))
  to : Nums (w.heap.size + 2) W vt (toL len l ps)
  ce : Wors (w.heap.size + 2) W vc Cc
  ou : Wors (w.heap.size + 2) W vo Oo
  tc : ∀ k, vt.ownBlock = some k → vc.ownBlock ≠ some k
  tou : ∀ k, vt.ownBlock = some k → vo.ownBlock ≠ some k
  co : ∀ k, vc.ownBlock = some k → vo.ownBlock ≠ some k
  nt : vt.ownBlock ≠ some T
  nc : vc.ownBlock ≠ some T
  no : vo.ownBlock ≠ some T
  hT : w.heap.size + 2 ≤ T

section
variable {w W W' : World} {s : Int} {ao : Option Addr} {len cap : Nat} {l : List Wrd} {ps : List Nat} {vt vc vo : Value} {Cc Oo : List Wrd} {y : Wrd} {T : Nat}

theorem Cst.lt (h : Cst w W s ao len cap l ps vt vc vo Cc Oo y T) : T < W.heap.size := (Array.getElem?_eq_some_iff.1 h.b10).1
theorem Cst.drew (h : Cst w W s ao len cap l ps vt vc vo Cc Oo y T) : Cst w W.drew s ao len cap l ps vt vc vo Cc Oo y T :=
  ⟨h.bel.drew, h.b2, h.b4, h.b10, nums_keep h.to (fun _ _ => rfl), wors_keep h.ce (fun _ _ => rfl), wors_keep h.ou (fun _ _ => rfl), h.tc, h.tou, h.co, h.nt, h.nc, h.no, h.hT⟩
theorem Cst.below (h : Cst w W s ao len cap l ps vt vc vo Cc Oo y T) (hb : Below W.heap.size W W') : Cst w W' s ao len cap l ps vt vc vo Cc Oo y T :=
  ⟨h.bel.trans (hb.mono h.bel.size), (hb.block _ (Array.getElem?_eq_some_iff.1 h.b2).1).trans h.b2, (hb.block _ (Array.getElem?_eq_some_iff.1 h.b4).1).trans h.b4, (hb.block _ h.lt).trans h.b10, nums_bel h.to hb, wors_bel h.ce hb, wors_bel h.ou hb, h.tc, h.tou, h.co, h.nt, h.nc, h.no, h.hT⟩
/-- Something is moved. -/
theorem Cst.move (h : Cst w W s ao len cap l ps vt vc vo Cc Oo y T) {ps' : List Nat} {vc' : Value} {Cc' : List Wrd} (hN : Nums (w.heap.size + 2) W' vt (toL len l ps')) (hC : Wors (w.heap.size + 2) W' vc' Cc') (hm : ChM vt vc vc' W W') : Cst w W' s ao len cap l ps' vt vc' vo Cc' Oo y T := by
  have ht : ∀ k, vt.ownBlock = some k → w.heap.size + 2 ≤ k ∧ k < W.heap.size := fun k hk => nums_own h.to hk
  have hc : ∀ k, vc.ownBlock = some k → w.heap.size + 2 ≤ k ∧ k < W.heap.size := fun k hk => wors_own h.ce hk
  have ho : ∀ k, vo.ownBlock = some k → w.heap.size + 2 ≤ k ∧ k < W.heap.size := fun k hk => wors_own h.ou hk
  have hl2 := (Array.getElem?_eq_some_iff.1 h.b4).1
  have hs := hm.size
  refine ⟨⟨hm.os.trans h.bel.os, hm.tape.trans h.bel.tape, hm.output.trans h.bel.output, Nat.le_trans h.bel.size hs, fun k hk => (hm.block k (by omega) (fun e => by have := (ht k e).1; omega) (fun e => by have := (hc k e).1; omega)).trans (h.bel.block k hk)⟩, ?_, ?_, ?_, hN, hC, ?_, fun k hk e => ?_, h.tou, fun k hk e => ?_, h.nt, fun e => ?_, h.no, h.hT⟩
  · exact (hm.block _ (by omega) (fun e => by have := (ht _ e).1; omega) (fun e => by have := (hc _ e).1; omega)).trans h.b2
  · exact (hm.block _ (by omega) (fun e => by have := (ht _ e).1; omega) (fun e => by have := (hc _ e).1; omega)).trans h.b4
  · exact (hm.block _ h.lt h.nt h.nc).trans h.b10
  · exact wors_keep h.ou (fun g hg => hm.block g (ho g hg).2 (fun e => h.tou g e hg) (fun e => h.co g e hg))
  · rcases hm.new k e with e | e
    · exact h.tc k hk e
    · have := (ht k hk).2; omega
  · rcases hm.new k hk with e2 | e2
    · exact h.co k e2 e
    · have := (ho k e).2; omega
  · rcases hm.new _ e with e2 | e2
    · exact h.nc e2
    · have := h.lt; omega
/-- The word at hand is laid. -/
theorem Cst.lay (h : Cst w W s ao len cap l ps vt vc vo Cc Oo y T) (z : Wrd) : Cst w ((W.setCell ⟨T, 0, none⟩ (.int .i64 z.K)).setCell ⟨T, 1, none⟩ (.int .i64 z.N)) s ao len cap l ps vt vc vo Cc Oo z T := by
  have hT := h.hT
  obtain ⟨z1, z2, z3, z4⟩ := lay_two h.b10 (show w.heap.size ≤ T by omega) h.bel (.int .i64 z.K) (.int .i64 z.N) _ rfl
  exact ⟨z2, (z3 _ (by omega)).trans h.b2, (z3 _ (by omega)).trans h.b4, z1, nums_keep h.to (fun g hg => z3 g (fun e => h.nt (by rw [← e]; exact hg))), wors_keep h.ce (fun g hg => z3 g (fun e => h.nc (by rw [← e]; exact hg))), wors_keep h.ou (fun g hg => z3 g (fun e => h.no (by rw [← e]; exact hg))), h.tc, h.tou, h.co, h.nt, h.nc, h.no, h.hT⟩
/-- A word is put behind those that are out. -/
theorem Cst.push {va : Option Addr} {vn vcp : Nat} (h : Cst w W s ao len cap l ps vt vc (.slice va vn vcp) Cc Oo y T) (hvn : vn = Oo.length) (hl : vn ≤ 1048576) (z : Wrd) :
    ∃ va' vcp' W', (Builtin.append_ #[24, 24] 24 #[.slice va vn vcp, .slice (some ⟨W.heap.size, 0, none⟩) 1 1]).run Try.prog (W.alloc (.cells #[.int .i64 z.K, .int .i64 z.N] 28)) = .ok (.slice va' (vn + 1) vcp') W' ∧ Cst w W' s ao len cap l ps vt vc (.slice va' (vn + 1) vcp') Cc (Oo ++ [z]) y T := by
  have hb : Below W.heap.size W (W.alloc (.cells #[.int .i64 z.K, .int .i64 z.N] 28)) := (Below.refl _ _).alloc (Nat.le_refl _) _
  have hY := h.below hb
  have hone : Ws 0 (W.alloc (.cells #[.int .i64 z.K, .int .i64 z.N] 28)).heap.size (W.alloc (.cells #[.int .i64 z.K, .int .i64 z.N] 28)) (some ⟨W.heap.size, 0, none⟩) 1 [z] := by
    have hY0 : (W.alloc (.cells #[.int .i64 z.K, .int .i64 z.N] 28)).heap[W.heap.size]? = some (.cells #[.int .i64 z.K, .int .i64 z.N] 28 (0, 0)) := heap_new rfl
    refine ⟨rfl, by omega, fun i hi => ⟨W.heap.size, 0, rfl, Nat.zero_le _, by simp, ?_⟩⟩
    obtain rfl : i = 0 := by simp at hi; exact hi
    exact ⟨row_cell hY0 0, row_cell hY0 1⟩
  have hl2 := (Array.getElem?_eq_some_iff.1 hY.b4).1
  obtain ⟨va', vcp', W', hr, hN, hg, ho⟩ := wors_app2 hY.ou (by omega) 1 hone (by rw [← hvn]; omega)
  rw [← hvn] at hr hN ho
  have hown : ∀ k, (Value.slice va vn vcp).ownBlock = some k → w.heap.size + 2 ≤ k ∧ k < (W.alloc (.cells #[.int .i64 z.K, .int .i64 z.N] 28)).heap.size := fun k hk => wors_own hY.ou hk
  refine ⟨va', vcp', W', hr, ⟨grown_to hg (wors_le hY.ou (Nat.le_add_right _ 2)) hY.bel hY.bel.size, ?_, ?_, ?_, ?_, ?_, hN, h.tc, fun k hk e => ?_, fun k hk e => ?_, h.nt, h.nc, fun e => ?_, h.hT⟩⟩
  · exact (hg.block _ (by omega) (fun e => by have := (hown _ e.symm).1; omega)).trans hY.b2
  · exact (hg.block _ (by omega) (fun e => by have := (hown _ e.symm).1; omega)).trans hY.b4
  · exact (hg.block _ hY.lt (fun e => h.no e.symm)).trans hY.b10
  · exact nums_keep hY.to (fun g hgk => hg.block g (nums_own hY.to hgk).2 (fun e => h.tou g hgk e.symm))
  · exact wors_keep hY.ce (fun g hgk => hg.block g (wors_own hY.ce hgk).2 (fun e => h.co g hgk e.symm))
  · rcases ho k e with e2 | e2
    · exact h.tou k hk e2
    · have := (nums_own hY.to hk).2; omega
  · rcases ho k e with e2 | e2
    · exact h.co k hk e2
    · have := (wors_own hY.ce hk).2; omega
  · rcases ho _ e with e2 | e2
    · exact h.no e2
    · have := hY.lt; omega
/-- A word among those that were moved is set. -/
theorem Cst.put {g vn vcp : Nat} (h : Cst w W s ao len cap l ps vt (.slice (some ⟨g, 0, none⟩) vn vcp) vo Cc Oo y T) (j : Nat) (hj : j < Cc.length) (z : Wrd) : Cst w ((W.setCell ⟨g, j * 2, none⟩ (.int .i64 z.K)).setCell ⟨g, j * 2 + 1, none⟩ (.int .i64 z.N)) s ao len cap l ps vt (.slice (some ⟨g, 0, none⟩) vn vcp) vo (Cc.set j z) Oo y T := by
  obtain ⟨p1, p2⟩ := wors_put h.ce j hj z _ rfl
  have hgo : (Value.slice (some ⟨g, 0, none⟩) vn vcp).ownBlock = some g := rfl
  have hgb := (wors_own h.ce hgo).1
  refine ⟨⟨p2.os.trans h.bel.os, p2.tape.trans h.bel.tape, p2.output.trans h.bel.output, Nat.le_trans h.bel.size (Nat.le_of_eq p2.size.symm), fun k hk => (p2.block k (fun e => ?_)).trans (h.bel.block k hk)⟩, (p2.block _ (fun e => ?_)).trans h.b2, (p2.block _ (fun e => ?_)).trans h.b4, (p2.block _ h.nc).trans h.b10, nums_keep h.to (fun k hk => p2.block k (fun e => h.tc k hk e)), p1, wors_keep h.ou (fun k hk => p2.block k (fun e => h.co k e hk)), h.tc, h.tou, h.co, h.nt, h.nc, h.no, h.hT⟩
  · rw [hgo] at e; injection e with e; omega
  · rw [hgo] at e; injection e with e; omega
  · rw [hgo] at e; injection e with e; omega

theorem cst_move {va : Option Addr} {vn vcp : Nat} (h : Cst w W s ao len cap l ps vt (.slice va vn vcp) vo Cc Oo y T) {x : Wrd} (hs : Ws 0 w.heap.size w ao len l) (hl : len ≤ 1048576) (hcap : len ≤ cap) (hP : PL l ps) (hx : RW l x) (hvn : vn = Cc.length) (hCl : Cc.length = wrds l ps) (hcb : Cc.length ≤ 2000000) :
    Calls Try.prog 49 #[.slice ao len cap, vt, .slice va vn vcp, vW x] W fun e W' => ∃ va' vn' vcp', e = .returned (.tuple #[.slice va' vn' vcp', vW (mvW l (meet1 ps x) x)]) ∧ vn' = (Cc ++ newO l ps x).length ∧ Cst w W' s ao len cap l (meet1 ps x) vt (.slice va' vn' vcp') vo (Cc ++ newO l ps x) Oo y T := by
  have hl2 := (Array.getElem?_eq_some_iff.1 h.b4).1
  refine (l12Move_any 0 w.heap.size (w.heap.size + 2) (w.heap.size + 2) ao len cap l vt va vn vcp Cc ps x W h.bel.size (hs.below h.bel (Nat.le_refl _)) hl hcap hP hx h.to h.ce hvn hCl hcb h.tc (by omega) (by omega) (by omega)).mono ?_
  rintro e W' ⟨va', vn', vcp', he, hn, h1, h2, h3⟩
  exact ⟨va', vn', vcp', he, hn, h.move h1 h2 h3⟩
end

end Go.Proofs.Ytkplfdckfbihcaa
