/-
  From the reading of an argument to the piece that lies there.
-/
import Derived.Test.YtchdmpipfmedaaaRdI
namespace Go.Proofs.Ytchdmpipfmedaaa
open Go.RowKit
set_option linter.unusedVariables false
set_option linter.unusedSimpArgs false

section
variable {H : Type} {enc : TypeId × Value → H} {W : World} {spare : Nat → Bool} {held : Bool}

theorem Try.cellsLPiece : Try.prog.cellsOf 24 = 4 := by kernel_rfl
theorem Try.cellsLInsS : Try.prog.cellsOf 22 = 1 := by kernel_rfl

set_option maxRecDepth 100000 in
theorem read_inss {fuel : Nat} {cs : List Value} {x : DataW H × List MemPlace} (h : DataW.trod enc Try.prog W 0 spare held fuel 22 cs = some x) :
    ∃ ao len cap l, cs = [.slice ao len cap] ∧ Iss 0 W.heap.size W ao len l ∧ ∀ x ∈ l, okI x := by
  obtain ⟨ao, len, cap, rfl, hm, he⟩ := read_slice Try.underlying22 Try.cellsLIns (by omega) h
  obtain ⟨l, hl, hp⟩ := choose_list (p := fun i (n : Insn) => (∃ b o, ao = some ⟨b, o, none⟩ ∧ b < W.heap.size ∧ ElI 0 W.heap.size W b (o + i * 7) n) ∧ okI n) len (fun i hi => by
    obtain ⟨b, o, n, cs', y, rfl, hb, _, hlen, hc, ht⟩ := he i hi
    obtain ⟨k, a2, l2, c2, rfl, hs, hok⟩ := read_ins ht
    refine ⟨k, ⟨b, o, rfl, hb, a2, l2, c2, ⟨?_, ?_, ?_, ?_, ?_, ?_, ?_⟩, hs⟩, hok⟩
    · have := hc 0 (by omega); simpa using this
    · have := hc 1 (by omega); simpa using this
    · have := hc 2 (by omega); simpa using this
    · have := hc 3 (by omega); simpa using this
    · have := hc 4 (by omega); simpa using this
    · have := hc 5 (by omega); simpa using this
    · have := hc 6 (by omega); simpa using this)
  refine ⟨ao, len, cap, l, rfl, ⟨hl.symm, hm, fun i hi => ?_⟩, fun x hx => ?_⟩
  · obtain ⟨⟨b, o, e, hb, hc⟩, _⟩ := hp i hi
    exact ⟨b, o, e, Nat.zero_le _, hb, hc⟩
  · obtain ⟨i, hi, rfl⟩ := List.getElem_of_mem hx
    exact (hp i hi).2

set_option maxRecDepth 100000 in
theorem read_piece {fuel : Nat} {cs : List Value} {x : DataW H × List MemPlace} (h : DataW.trod enc Try.prog W 0 spare held fuel 24 cs = some x) :
    ∃ (i : Pc) (ao : Option Addr) (len cap : Nat), cs = [.int .i64 i.Lam, .int .i64 i.In, .int .i64 i.Regs, .slice ao len cap] ∧ Iss 0 W.heap.size W ao len i.Ins ∧ okP i := by
  obtain ⟨xs, m, hm, _, hl, hlen, hf⟩ := DataW.trod_struct Try.underlying24 h
  rw [Try.cellsLPiece] at hl
  match cs, hl with
  | [c0, c1, c2, c3], _ =>
    have h0 : DataW.trod enc Try.prog W 0 spare held m 3 (List.take (Try.prog.cellsOf 3) [c0, c1, c2, c3]) = xs[0]? := hf 0 _ rfl
    have h1 : DataW.trod enc Try.prog W 0 spare held m 3 (List.take (Try.prog.cellsOf 3) [c1, c2, c3]) = xs[1]? := hf 1 _ rfl
    have h2 : DataW.trod enc Try.prog W 0 spare held m 3 (List.take (Try.prog.cellsOf 3) [c2, c3]) = xs[2]? := hf 2 _ rfl
    have h3 : DataW.trod enc Try.prog W 0 spare held m 22 (List.take (Try.prog.cellsOf 22) [c3]) = xs[3]? := hf 3 _ rfl
    rw [Try.cellsIntI] at h0 h1 h2
    rw [Try.cellsLInsS] at h3
    simp only [List.take_succ_cons, List.take_zero] at h0 h1 h2 h3
    have hx : xs.length = 4 := hlen
    match xs, hx with
    | [y0, y1, y2, y3], _ =>
      obtain ⟨k0, e0, _, w0⟩ := DataW.trod_int Try.underlying3 h0
      obtain ⟨k1, e1, _, w1⟩ := DataW.trod_int Try.underlying3 h1
      obtain ⟨k2, e2, _, w2⟩ := DataW.trod_int Try.underlying3 h2
      obtain ⟨ao, len, cap, l, e3, hs, w3⟩ := read_inss h3
      simp at e0 e1 e2 e3
      subst e0 e1 e2 e3
      exact ⟨⟨k0, k1, k2, l⟩, ao, len, cap, rfl, hs, in64_of w0, in64_of w1, in64_of w2, w3⟩
end

end Go.Proofs.Ytchdmpipfmedaaa
