/-
  Free names: 'gatherBound', and free names in plain words.
-/
import Derived.Test.YtbdmdgghhefmcaaPfoZ6
import Derived.Test.YtbdmdgghhefmcaaPfoZ14
namespace Go.Proofs.Ytbdmdgghhefmcaa
open Go.RowKit
set_option linter.unusedVariables false
set_option linter.unusedSimpArgs false

/-- The bound row has grown: the struct's rows are as told. -/
theorem st_bound {p : Nat} {w W w2 : World} {vb vf : Value} {Bd Fr Q : List (List UInt8)} (h : FnSt p w vb vf Bd Fr) (hW : Below w.heap.size w W) {g cap n : Nat}
    (hT : Toks (p + 1) w2 (.slice (some ⟨g, 0, none⟩) n cap) Q) (hg : W.grownBy w2 vb.ownBlock) (hat : vb.ownBlock = some g ∨ g = W.heap.size) :
    Kp p vb vf w (.slice (some ⟨g, 0, none⟩) n cap) vf (w2.setCell ⟨p, 0, none⟩ (.slice (some ⟨g, 0, none⟩) n cap)) ∧ FnSt p (w2.setCell ⟨p, 0, none⟩ (.slice (some ⟨g, 0, none⟩) n cap)) (.slice (some ⟨g, 0, none⟩) n cap) vf Q Fr := by
  have hp := h.lt
  have hz := hW.size
  have hown : ∀ k, vb.ownBlock = some k → p < k := fun k e => by have := (toks_own h.bound e).1; omega
  have hblk : ∀ k, k < w.heap.size → vb.ownBlock ≠ some k → w2.heap[k]? = w.heap[k]? := fun k hk hne => (hg.block k (by omega) (fun e => hne e.symm)).trans (hW.block k hk)
  have hpb := (hblk p hp (fun e => by have := hown p e; omega)).trans h.box
  have hgp : p < g := by
    rcases hat with e | e
    · exact hown g e
    · omega
  refine ⟨⟨?_, ?_, ?_, ?_, fun k hk hkp h1 h2 => ?_, fun k hk => ?_⟩, ⟨?_, ?_, ?_, ?_⟩⟩
  · exact hg.os.trans hW.os
  · exact hg.tape.trans hW.tape
  · exact hg.output.trans hW.output
  · have := hg.size
    rw [World.size_setCell]
    omega
  · rw [row_other _ _ _ hkp]
    exact hblk k hk h1
  · rcases hk with e | e
    · have e : g = k := by simpa [Value.ownBlock] using e
      subst e
      rcases hat with e | e
      · exact Or.inl e
      · exact Or.inr (Or.inr (by omega))
    · exact Or.inr (Or.inl e)
  · rw [row_set hpb]; rfl
  · refine toks_keep hT fun k hk => ?_
    have e : g = k := by simpa [Value.ownBlock] using hk
    rw [row_other _ _ _ (by omega)]
  · refine toks_keep h.free fun k hk => ?_
    have h1 := toks_own h.free hk
    rw [row_other _ _ _ (by omega)]
    exact hblk k h1.2 (fun e => h.apart k e hk)
  · intro k hk e
    have e2 : g = k := by simpa [Value.ownBlock] using hk
    subst e2
    rcases hat with e3 | e3
    · exact h.apart g e3 e
    · have := (toks_own h.free e).2
      omega

/-- The bound row is cut back. -/
theorem st_cut {p : Nat} {w : World} {g n cap : Nat} {vf : Value} {Bd N Fr : List (List UInt8)} (h : FnSt p w (.slice (some ⟨g, 0, none⟩) n cap) vf (Bd ++ N) Fr) :
    Kp p (.slice (some ⟨g, 0, none⟩) n cap) vf w (.slice (some ⟨g, 0, none⟩) Bd.length cap) vf (w.setCell ⟨p, 0, none⟩ (.slice (some ⟨g, 0, none⟩) Bd.length cap)) ∧ FnSt p (w.setCell ⟨p, 0, none⟩ (.slice (some ⟨g, 0, none⟩) Bd.length cap)) (.slice (some ⟨g, 0, none⟩) Bd.length cap) vf Bd Fr := by
  have hp := h.lt
  have hg : p < g := by have := (toks_own h.bound (g := g) rfl).1; omega
  refine ⟨⟨rfl, rfl, rfl, by rw [World.size_setCell]; exact Nat.le_refl _, fun k hk hkp _ _ => row_other _ _ _ hkp, fun k hk => by rcases hk with e | e; exact Or.inl e; exact Or.inr (Or.inl e)⟩, ⟨?_, ?_, ?_, fun k hk => h.apart k hk⟩⟩
  · rw [row_set h.box]; rfl
  · rcases toks_cut h.bound with hT | ⟨e, _⟩
    · refine toks_keep hT fun k hk => ?_
      have e : g = k := by simpa [Value.ownBlock] using hk
      rw [row_other _ _ _ (by omega)]
    · cases e
  · refine toks_keep h.free fun k hk => ?_
    have h1 := toks_own h.free hk
    rw [row_other _ _ _ (by omega)]

def SaidGa (l : Nat) : Prop := ∀ (L B D : Nat) (w0 : World) (t : Tm) (v : Value) (p : Nat) (vb vf : Value) (Bd Fr : List (List UInt8)) (m : Nat) (w : World), Fv L B w0 D l t v → nodesM l t = some m → FnSt p w vb vf Bd Fr → Bd.length + 2 * l ≤ 1000 → Fr.length + m ≤ 1000 →
    Calls Try.prog 56 #[.pointer (some ⟨p, 0, none⟩), v] w fun e w' => ∃ vb' vf', e = .returned (.tuple #[]) ∧ Kp p vb vf w vb' vf' w' ∧ FnSt p w' vb' vf' Bd (freeW l t Bd Fr)

set_option maxRecDepth 100000 in
set_option maxHeartbeats 1000000 in
theorem gb_any (l : Nat) (IH : SaidGa l) (L B D : Nat) (w0 : World) (t : Tm) (v : Value) (p : Nat) (vb vf : Value) (Bd Fr N : List (List UInt8)) (m nb c : Nat) (w : World) (hv : Fv L B w0 D l t v) (hm : nodesM l t = some m) (h : FnSt p w vb vf Bd Fr) (h1 : Bd.length + 2 * l + 2 ≤ 1000) (h2 : Fr.length + m ≤ 1000) (hN : 0 < N.length) (hN2 : N.length ≤ 2)
    (hs : ∀ j u, (N.map tk)[j]? = some u → w.cell? ⟨nb, 0 + j, none⟩ = some u) :
    Calls Try.prog 65 #[.pointer (some ⟨p, 0, none⟩), v, .slice (some ⟨nb, 0, none⟩) N.length c] w fun e w' => ∃ vb' vf', e = .returned (.tuple #[]) ∧ Kp p vb vf w vb' vf' w' ∧ FnSt p w' vb' vf' Bd (freeW l t (Bd ++ N) Fr) := by
  have hp := h.lt
  obtain ⟨c0, c1⟩ := two_cells h.box
  have c2 := row_free h.box
  obtain ⟨ab, cb, rfl⟩ := toks_form h.bound
  obtain ⟨g, cap, w2, hrun, hT2, hgr, hat, hlt⟩ := toks_grow h.bound (by omega) N hN (by omega) nb c hs
  obtain ⟨hB, hS⟩ := st_bound h (Below.refl _ _) hT2 hgr hat
  have hown : ∀ k, Value.ownBlock (.slice ab Bd.length cb) = some k → p < k := fun k e => by have := (toks_own h.bound e).1; omega
  have hbx2 : w2.heap[p]? = some (.cells #[.slice ab Bd.length cb, vf] 83 (0, 0)) := (hgr.block p (by omega) (fun e => by have := hown p e.symm; omega)).trans h.box
  obtain ⟨d0, d1⟩ := two_cells hbx2
  have d2 := row_free hbx2
  have HR : Hid (_ = _) := hrun
  have HV : Hid (Fv L B w0 D l t v) := hv
  have HG := IH L B D w0 t v p _ _ (Bd ++ N) Fr m _ hv hm hS (by rw [List.length_append]; omega) h2
  have hlp : p < w2.heap.size := (Array.getElem?_eq_some_iff.1 hbx2).1
  have HS : Hid (Kp p _ _ w _ _ _) := hB
  clear hrun hgr hat hT2 hbx2 hown hs hv hS hB
  obtain ⟨τ, u, rfl⟩ := HV.out.iface
  go_enter Try.func65, Try.ntmps65
  go_wp2_with (at_builtin; refine list_run HR.out (by rfl) _ _ (by rfl) (by rfl) (by rfl) (by rfl) ?_)
  refine HG.mono ?_
  rintro e w4 ⟨vb4, vf4, rfl, hb4, hS4⟩
  obtain ⟨x0, x1⟩ := two_cells hS4.box
  have x2 := row_free hS4.box
  rcases hS4.bound.2 with ⟨_, hn⟩ | ⟨g4, cap4, cur4, rfl, _, _, hle, _⟩
  · rw [List.length_append] at hn; omega
  obtain ⟨hB5, hS5⟩ := st_cut hS4
  have hle2 : Bd.length ≤ cap4 := by rw [List.length_append] at hle; omega
  rw [List.length_append] at x0
  go_wp2_with fail
  refine bodyPost_end (v := .tuple #[]) (by simp [results, Try.results65, go_sem]) rfl ?_
  exact ⟨_, _, rfl, (HS.out.trans hb4).trans hB5, hS5⟩

end Go.Proofs.Ytbdmdgghhefmcaa

/-
  What it is that a form's type is asked: the six that 'gather' knows.
-/
namespace Go.Proofs.Ytbdmdgghhefmcaa
open Go.RowKit
set_option linter.unusedVariables false
set_option linter.unusedSimpArgs false

theorem is_varForm (W : World) (v : Value) : (Instr.typeAssert (.iface 96 v) 86 96 true).run Try.prog W = .ok (.tuple #[v, .bool true]) W := by kernel_rfl
theorem no_varForm (W : World) (u : TypeId) (v : Value) (h : u ≠ 96) : (Instr.typeAssert (.iface u v) 86 96 true).run Try.prog W = .ok (.tuple #[.agg #[.string ⟨#[]⟩, .slice none 0 0], .bool false]) W := by
  have hz : (zeroValue 96).run Try.prog W = .ok (.agg #[.string ⟨#[]⟩, .slice none 0 0]) W := by kernel_rfl
  simp [Instr.typeAssert, run_underlying Try.underlying96, h, hz]
theorem is_fnForm (W : World) (v : Value) : (Instr.typeAssert (.iface 99 v) 86 99 true).run Try.prog W = .ok (.tuple #[v, .bool true]) W := by kernel_rfl
theorem no_fnForm (W : World) (u : TypeId) (v : Value) (h : u ≠ 99) : (Instr.typeAssert (.iface u v) 86 99 true).run Try.prog W = .ok (.tuple #[.agg #[.int .i64 0, .string ⟨#[]⟩, .int .i64 0, .int .i64 0, .slice none 0 0, .nilIface], .bool false]) W := by
  have hz : (zeroValue 99).run Try.prog W = .ok (.agg #[.int .i64 0, .string ⟨#[]⟩, .int .i64 0, .int .i64 0, .slice none 0 0, .nilIface]) W := by kernel_rfl
  simp [Instr.typeAssert, run_underlying Try.underlying99, h, hz]
theorem is_letForm (W : World) (v : Value) : (Instr.typeAssert (.iface 102 v) 86 102 true).run Try.prog W = .ok (.tuple #[v, .bool true]) W := by kernel_rfl
theorem no_letForm (W : World) (u : TypeId) (v : Value) (h : u ≠ 102) : (Instr.typeAssert (.iface u v) 86 102 true).run Try.prog W = .ok (.tuple #[.agg #[.string ⟨#[]⟩, .int .i64 0, .nilIface, .nilIface], .bool false]) W := by
  have hz : (zeroValue 102).run Try.prog W = .ok (.agg #[.string ⟨#[]⟩, .int .i64 0, .nilIface, .nilIface]) W := by kernel_rfl
  simp [Instr.typeAssert, run_underlying Try.underlying102, h, hz]
theorem is_fixForm (W : World) (v : Value) : (Instr.typeAssert (.iface 104 v) 86 104 true).run Try.prog W = .ok (.tuple #[v, .bool true]) W := by kernel_rfl
theorem no_fixForm (W : World) (u : TypeId) (v : Value) (h : u ≠ 104) : (Instr.typeAssert (.iface u v) 86 104 true).run Try.prog W = .ok (.tuple #[.agg #[.string ⟨#[]⟩, .int .i64 0, .int .i64 0, .int .i64 0, .slice none 0 0, .nilIface, .nilIface], .bool false]) W := by
  have hz : (zeroValue 104).run Try.prog W = .ok (.agg #[.string ⟨#[]⟩, .int .i64 0, .int .i64 0, .int .i64 0, .slice none 0 0, .nilIface, .nilIface]) W := by kernel_rfl
  simp [Instr.typeAssert, run_underlying Try.underlying104, h, hz]
theorem is_caseForm (W : World) (v : Value) : (Instr.typeAssert (.iface 106 v) 86 106 true).run Try.prog W = .ok (.tuple #[v, .bool true]) W := by kernel_rfl
theorem no_caseForm (W : World) (u : TypeId) (v : Value) (h : u ≠ 106) : (Instr.typeAssert (.iface u v) 86 106 true).run Try.prog W = .ok (.tuple #[.agg #[.string ⟨#[]⟩, .string ⟨#[]⟩, .nilIface, .nilIface, .nilIface], .bool false]) W := by
  have hz : (zeroValue 106).run Try.prog W = .ok (.agg #[.string ⟨#[]⟩, .string ⟨#[]⟩, .nilIface, .nilIface, .nilIface]) W := by kernel_rfl
  simp [Instr.typeAssert, run_underlying Try.underlying106, h, hz]
theorem is_tryForm (W : World) (v : Value) : (Instr.typeAssert (.iface 108 v) 86 108 true).run Try.prog W = .ok (.tuple #[v, .bool true]) W := by kernel_rfl
theorem no_tryForm (W : World) (u : TypeId) (v : Value) (h : u ≠ 108) : (Instr.typeAssert (.iface u v) 86 108 true).run Try.prog W = .ok (.tuple #[.agg #[.string ⟨#[]⟩, .nilIface, .nilIface], .bool false]) W := by
  have hz : (zeroValue 108).run Try.prog W = .ok (.agg #[.string ⟨#[]⟩, .nilIface, .nilIface]) W := by kernel_rfl
  simp [Instr.typeAssert, run_underlying Try.underlying108, h, hz]

end Go.Proofs.Ytbdmdgghhefmcaa
