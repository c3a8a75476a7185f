/-
  From the reading of an argument to the numbers and instructions that lie there.
-/
import Derived.Test.YtchdmpipfmedaaaIn
import Derived.ProofKit
import Derived.Deep.Slices
import Derived.Deep.Strs
import Derived.ChangeOld
import Derived.OpenShut
namespace Go.Proofs.Ytchdmpipfmedaaa
open Go.RowKit
set_option linter.unusedVariables false
set_option linter.unusedSimpArgs false

theorem choose_list {α : Type} {p : Nat → α → Prop} : ∀ n : Nat, (∀ i, i < n → ∃ x, p i x) → ∃ l : List α, l.length = n ∧ ∀ i (hi : i < l.length), p i l[i]
  | 0, _ => ⟨[], rfl, fun i hi => by simp at hi⟩
  | n + 1, h => by
    obtain ⟨l, hl, hp⟩ := choose_list n (fun i hi => h i (by omega))
    obtain ⟨x, hx⟩ := h n (by omega)
    refine ⟨l ++ [x], by simp [hl], fun i hi => ?_⟩
    by_cases hn : i < l.length
    · rw [List.getElem_append_left hn]; exact hp i hn
    · have e : i = n := by simp at hi; omega
      subst e
      rw [List.getElem_append_right (by omega)]
      simpa [hl] using hx

theorem spot_cell {w : World} {a : Addr} {v : Value} (h : w.cell? a = some v) : a.spot = none ∧ a.block < w.heap.size := by
  unfold World.cell? at h
  split at h
  · rename_i c t fr hh
    refine ⟨?_, (Array.getElem?_eq_some_iff.1 hh).1⟩
    cases hs : a.spot with
    | none => rfl
    | some x => simp [hs] at h
  · cases h

theorem at_add (b o n : Nat) : Addr.add ⟨b, o, none⟩ n = ⟨b, o + n, none⟩ := by
  unfold Addr.add
  by_cases h : n = 0 <;> simp [h]

section
variable {H : Type} {enc : TypeId × Value → H} {W : World} {spare : Nat → Bool} {held : Bool}

/-- A slice that can be read, element by element. -/
theorem read_slice {t e : TypeId} {nc : Nat} (ht : Try.prog.underlying t = some (.slice e)) (hnc : Try.prog.cellsOf e = nc) (hpos : 0 < nc) {fuel : Nat} {cs : List Value} {x : DataW H × List MemPlace} (h : DataW.trod enc Try.prog W 0 spare held fuel t cs = some x) :
    ∃ ao len cap, cs = [.slice ao len cap] ∧ len ≤ 9223372036854775807 ∧ ∀ i, i < len → ∃ (b o n : Nat) (cs' : List Value) (y : DataW H × List MemPlace), ao = some ⟨b, o, none⟩ ∧ b < W.heap.size ∧ n < fuel ∧ cs'.length = nc ∧ (∀ j, j < nc → W.cell? ⟨b, o + i * nc + j, none⟩ = cs'[j]?) ∧ DataW.trod enc Try.prog W 0 spare held n e cs' = some y := by
  rcases DataW.trod_slice ht h with ⟨rfl, _⟩ | ⟨a, len, cap, elems, rest, n, hn, rfl, _, _, hl, hm, hlen, hel, _, _⟩
  · exact ⟨none, 0, 0, rfl, by omega, fun i hi => by omega⟩
  · rw [hnc] at hel
    refine ⟨some a, len, cap, rfl, by unfold maxLen at hm; omega, fun i hi => ?_⟩
    have get : ∀ i, i < len → ∃ (cs' : List Value) (y : DataW H × List MemPlace), W.cells? 0 (a.add (i * nc)) nc = some cs' ∧ DataW.trod enc Try.prog W 0 spare held n e cs' = some y := by
      intro i hi
      have h1 := hel i hi
      rw [List.getElem?_eq_getElem (by omega)] at h1
      obtain ⟨cs', h2, h3⟩ := Option.bind_eq_some_iff.1 h1
      exact ⟨cs', _, h2, h3⟩
    obtain ⟨cs0, y0, g0, _⟩ := get 0 (by omega)
    obtain ⟨_, l0, c0⟩ := World.cells?_some g0
    have z0 := c0 0 (by omega)
    rw [List.getElem?_eq_getElem (by omega)] at z0
    have ha : a.spot = none := by
      have := (spot_cell z0).1
      simpa [Addr.add] using this
    obtain ⟨b, o, sp⟩ := a
    simp only at ha
    subst ha
    obtain ⟨cs', y, g1, g2⟩ := get i hi
    obtain ⟨_, l1, c1⟩ := World.cells?_some g1
    refine ⟨b, o, n, cs', y, rfl, ?_, by omega, l1, fun j hj => ?_, g2⟩
    · have := (spot_cell z0).2
      simpa [Addr.add] using this
    · have := c1 j (by omega)
      rw [at_add, at_add] at this
      exact this

theorem Try.cellsIntI : Try.prog.cellsOf 3 = 1 := by kernel_rfl

theorem in64_of {n : Int} (h : (Lit.int .i64 n).wf = true) : in64 n := by
  simp [Lit.wf, IntKind.min, IntKind.max, IntKind.signed, IntKind.bits] at h
  exact ⟨by omega, by omega⟩

set_option maxRecDepth 100000 in
theorem read_ints {fuel : Nat} {cs : List Value} {x : DataW H × List MemPlace} (h : DataW.trod enc Try.prog W 0 spare held fuel 33 cs = some x) :
    ∃ ao len cap l, cs = [.slice ao len cap] ∧ Is 0 W.heap.size W ao len l ∧ ∀ x ∈ l, in64 x := by
  obtain ⟨ao, len, cap, rfl, hm, he⟩ := read_slice Try.underlying33 Try.cellsIntI (by omega) h
  obtain ⟨l, hl, hp⟩ := choose_list (p := fun i (n : Int) => ∃ b o, ao = some ⟨b, o, none⟩ ∧ b < W.heap.size ∧ W.cell? ⟨b, o + i, none⟩ = some (.int .i64 n) ∧ in64 n) len (fun i hi => by
    obtain ⟨b, o, n, cs', y, rfl, hb, _, hlen, hc, ht⟩ := he i hi
    obtain ⟨k, rfl, _, hw⟩ := DataW.trod_int Try.underlying3 ht
    have := hc 0 (by omega)
    exact ⟨k, b, o, rfl, hb, by simpa using this, in64_of hw⟩)
  refine ⟨ao, len, cap, l, rfl, ⟨hl.symm, hm, fun i hi => ?_⟩, fun x hx => ?_⟩
  · obtain ⟨b, o, e, hb, hc, _⟩ := hp i hi
    exact ⟨b, o, e, Nat.zero_le _, hb, hc⟩
  · obtain ⟨i, hi, rfl⟩ := List.getElem_of_mem hx
    obtain ⟨_, _, _, _, _, h⟩ := hp i hi
    exact h

theorem Try.cellsLIns : Try.prog.cellsOf 38 = 7 := by kernel_rfl
theorem Try.cellsIntsI : Try.prog.cellsOf 33 = 1 := by kernel_rfl

set_option maxRecDepth 100000 in
theorem read_ins {fuel : Nat} {cs : List Value} {x : DataW H × List MemPlace} (h : DataW.trod enc Try.prog W 0 spare held fuel 38 cs = some x) :
    ∃ (i : Insn) (ao : Option Addr) (len cap : Nat), cs = [.int .i64 i.Op, .int .i64 i.D, .int .i64 i.X, .int .i64 i.Y, .int .i64 i.N, .slice ao len cap, .int .i64 i.To] ∧ Is 0 W.heap.size W ao len i.L ∧ okI i := by
  obtain ⟨xs, m, hm, _, hl, hlen, hf⟩ := DataW.trod_struct Try.underlying38 h
  rw [Try.cellsLIns] at hl
  match cs, hl with
  | [c0, c1, c2, c3, c4, c5, c6], _ =>
    have h0 : DataW.trod enc Try.prog W 0 spare held m 3 (List.take (Try.prog.cellsOf 3) [c0, c1, c2, c3, c4, c5, c6]) = xs[0]? := hf 0 _ rfl
    have h1 : DataW.trod enc Try.prog W 0 spare held m 3 (List.take (Try.prog.cellsOf 3) [c1, c2, c3, c4, c5, c6]) = xs[1]? := hf 1 _ rfl
    have h2 : DataW.trod enc Try.prog W 0 spare held m 3 (List.take (Try.prog.cellsOf 3) [c2, c3, c4, c5, c6]) = xs[2]? := hf 2 _ rfl
    have h3 : DataW.trod enc Try.prog W 0 spare held m 3 (List.take (Try.prog.cellsOf 3) [c3, c4, c5, c6]) = xs[3]? := hf 3 _ rfl
    have h4 : DataW.trod enc Try.prog W 0 spare held m 3 (List.take (Try.prog.cellsOf 3) [c4, c5, c6]) = xs[4]? := hf 4 _ rfl
    have h5 : DataW.trod enc Try.prog W 0 spare held m 33 (List.take (Try.prog.cellsOf 33) [c5, c6]) = xs[5]? := hf 5 _ rfl
    have h6 : DataW.trod enc Try.prog W 0 spare held m 3 (List.take (Try.prog.cellsOf 3) [c6]) = xs[6]? := hf 6 _ rfl
    rw [Try.cellsIntI] at h0 h1 h2 h3 h4 h6
    rw [Try.cellsIntsI] at h5
    simp only [List.take_succ_cons, List.take_zero] at h0 h1 h2 h3 h4 h5 h6
    have hx : xs.length = 7 := hlen
    match xs, hx with
    | [y0, y1, y2, y3, y4, y5, y6], _ =>
      obtain ⟨k0, e0, _, w0⟩ := DataW.trod_int Try.underlying3 h0
      obtain ⟨k1, e1, _, w1⟩ := DataW.trod_int Try.underlying3 h1
      obtain ⟨k2, e2, _, w2⟩ := DataW.trod_int Try.underlying3 h2
      obtain ⟨k3, e3, _, w3⟩ := DataW.trod_int Try.underlying3 h3
      obtain ⟨k4, e4, _, w4⟩ := DataW.trod_int Try.underlying3 h4
      obtain ⟨ao, len, cap, l, e5, hs, w5⟩ := read_ints h5
      obtain ⟨k6, e6, _, w6⟩ := DataW.trod_int Try.underlying3 h6
      simp at e0 e1 e2 e3 e4 e5 e6
      subst e0 e1 e2 e3 e4 e5 e6
      refine ⟨⟨k0, k1, k2, k3, k4, l, k6⟩, ao, len, cap, rfl, hs, fun x hx => ?_⟩
      simp only [allI, List.mem_append, List.mem_cons, List.not_mem_nil, or_false] at hx
      rcases hx with (rfl | rfl | rfl | rfl | rfl | rfl) | hx
      · exact in64_of w0
      · exact in64_of w1
      · exact in64_of w2
      · exact in64_of w3
      · exact in64_of w4
      · exact in64_of w6
      · exact w5 x hx
end

end Go.Proofs.Ytchdmpipfmedaaa
