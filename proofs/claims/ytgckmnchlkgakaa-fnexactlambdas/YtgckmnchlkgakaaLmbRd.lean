/-
  From the reading of an argument of the laws' own type to the tree that lies there.
-/
import Derived.Test.YtgckmnchlkgakaaLmbRd0
import Derived.Test.YtgckmnchlkgakaaLmbTr
import Derived.ProofKit
import Derived.Deep.Slices
import Derived.Deep.Strs
import Derived.ChangeOld
import Derived.OpenShut
namespace Go.Proofs.Ytgckmnchlkgakaa
open Go.RowKit
set_option linter.unusedVariables false
set_option linter.unusedSimpArgs false

theorem Try.cellsLTy : Try.prog.cellsOf 24 = 3 := by kernel_rfl
theorem Try.cellsLTyS : Try.prog.cellsOf 22 = 1 := by kernel_rfl
theorem Try.cellsInt : Try.prog.cellsOf 3 = 1 := by kernel_rfl

theorem choose_tr {n : Nat} {p : Nat → Tr → Prop} (h : ∀ i, i < n → ∃ x, p i x) : ∃ f : Nat → Tr, ∀ i, i < n → p i (f i) := by
  classical
  refine ⟨fun i => if hi : i < n then Classical.choose (h i hi) else ⟨0, 0, []⟩, fun i hi => ?_⟩
  simp only [dif_pos hi]
  exact Classical.choose_spec (h i hi)

theorem cell_spot {w : World} {a : Addr} {v : Value} (h : w.cell? a = some v) : a.spot = none ∧ a.block < w.heap.size := by
  unfold World.cell? at h
  split at h
  · rename_i c t fr hh
    refine ⟨?_, (Array.getElem?_eq_some_iff.1 hh).1⟩
    cases hs : a.spot with
    | none => rfl
    | some x => simp [hs] at h
  · cases h

theorem add_at (b o n : Nat) : Addr.add ⟨b, o, none⟩ n = ⟨b, o + n, none⟩ := by
  unfold Addr.add
  by_cases h : n = 0 <;> simp [h]

section
variable {H : Type} {enc : TypeId × Value → H} {W : World} {spare : Nat → Bool} {held : Bool}

set_option maxRecDepth 100000 in
theorem read_ty (fuel : Nat) (ih : ∀ f, f < fuel → ∀ (cs : List Value) (x : DataW H × List MemPlace), DataW.trod enc Try.prog W 0 spare held f 22 cs = some x → ∃ ao len cap ts, cs = [.slice ao len cap] ∧ Hs 0 W.heap.size W f ao len ts)
    (cs : List Value) (x : DataW H × List MemPlace) (h : DataW.trod enc Try.prog W 0 spare held fuel 24 cs = some x) :
    ∃ k n ao len cap ts, cs = [.int .i64 k, .int .i64 n, .slice ao len cap] ∧ Hs 0 W.heap.size W fuel ao len ts := by
  obtain ⟨xs, m, hm, _, hl, hlen, hf⟩ := DataW.trod_struct Try.underlying24 h
  rw [Try.cellsLTy] at hl
  match cs, hl with
  | [c0, c1, c2], _ =>
    have h0 : DataW.trod enc Try.prog W 0 spare held m 3 (List.take (Try.prog.cellsOf 3) [c0, c1, c2]) = xs[0]? := hf 0 _ rfl
    have h1 : DataW.trod enc Try.prog W 0 spare held m 3 (List.take (Try.prog.cellsOf 3) [c1, c2]) = xs[1]? := hf 1 _ rfl
    have h2 : DataW.trod enc Try.prog W 0 spare held m 22 (List.take (Try.prog.cellsOf 22) [c2]) = xs[2]? := hf 2 _ rfl
    rw [Try.cellsInt] at h0 h1
    rw [Try.cellsLTyS] at h2
    simp only [List.take_succ_cons, List.take_zero] at h0 h1 h2
    have hx : xs.length = 3 := hlen
    match xs, hx with
    | [y0, y1, y2], _ =>
      obtain ⟨k, e0, _, _⟩ := DataW.trod_int Try.underlying3 h0
      obtain ⟨n, e1, _, _⟩ := DataW.trod_int Try.underlying3 h1
      obtain ⟨ao, len, cap, ts, e2, hs⟩ := ih m (by omega) _ _ h2
      simp at e0 e1 e2
      subst e0 e1 e2
      exact ⟨k, n, ao, len, cap, ts, rfl, hs.deeper (by omega)⟩

set_option maxRecDepth 100000 in
theorem read_tys : ∀ (fuel : Nat) (cs : List Value) (x : DataW H × List MemPlace), DataW.trod enc Try.prog W 0 spare held fuel 22 cs = some x → ∃ ao len cap ts, cs = [.slice ao len cap] ∧ Hs 0 W.heap.size W fuel ao len ts := by
  intro fuel
  induction fuel using Nat.strongRecOn with
  | ind fuel ih =>
    intro cs x h
    rcases DataW.trod_slice Try.underlying22 h with ⟨rfl, _⟩ | ⟨a, len, cap, elems, rest, n, hn, rfl, _, _, hl, hm, hlen, hel, _, _⟩
    · exact ⟨none, 0, 0, [], rfl, Hs.nil _ _ _ _ _⟩
    · rw [Try.cellsLTy] at hel
      have key : ∀ i, i < len → ∃ t : Tr, ∃ b o, a = ⟨b, o, none⟩ ∧ b < W.heap.size ∧ El W (Hs 0 W.heap.size W n) b (o + i * 3) t := by
        intro i hi
        have h1 := hel i hi
        rw [List.getElem?_eq_getElem (by omega)] at h1
        obtain ⟨cs', h2, h3⟩ := Option.bind_eq_some_iff.1 h1
        obtain ⟨k, m, ao, len', cap', ts, rfl, hs⟩ := read_ty n (fun f hf => ih f (by omega)) _ _ h3
        obtain ⟨_, _, hc⟩ := World.cells?_some h2
        have c0 := hc 0 (by omega)
        have c1 := hc 1 (by omega)
        have c2 := hc 2 (by omega)
        simp only [List.getElem?_cons_zero, List.getElem?_cons_succ] at c0 c1 c2
        have hsp := cell_spot c1
        have ha : a.spot = none := by
          have hc0 := cell_spot c0
          by_cases hi0 : i = 0
          · subst hi0; simpa [Addr.add] using hc0.1
          · cases hsa : a.spot with
            | none => rfl
            | some y =>
              exfalso
              have g := hel 0 (by omega)
              rw [List.getElem?_eq_getElem (by omega)] at g
              obtain ⟨cs2, g2, _⟩ := Option.bind_eq_some_iff.1 g
              obtain ⟨_, gl, gc⟩ := World.cells?_some g2
              have g0 := gc 0 (by omega)
              rw [List.getElem?_eq_getElem (by omega)] at g0
              have := (cell_spot g0).1
              simp [Addr.add, hsa] at this
        obtain ⟨b, o, sp⟩ := a
        simp only at ha
        subst ha
        rw [add_at, add_at] at c0 c1 c2
        refine ⟨⟨k, m, ts⟩, b, o, rfl, (cell_spot c0).2, ao, len', cap', c0, c1, c2, hs⟩
      obtain ⟨T, hT⟩ := choose_tr key
      refine ⟨some a, len, cap, (List.range len).map T, rfl, ?_⟩
      subst hn
      refine ⟨by simp, by unfold maxLen at hm; omega, fun i hi => ?_⟩
      have hi' : i < len := by simpa using hi
      obtain ⟨b, o, rfl, hb, hE⟩ := hT i hi'
      exact ⟨b, o, rfl, Nat.zero_le _, hb, by simpa using hE⟩
end

end Go.Proofs.Ytgckmnchlkgakaa
