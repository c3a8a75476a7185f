/-
  From the reading of an argument to the words and heaps that lie there.
-/
import Derived.Test.YtaljpbgggembmaaDoorShxWo
import Derived.ProofKit
import Derived.Deep.Slices
import Derived.Deep.Strs
import Derived.ChangeOld
import Derived.OpenShut
namespace Go.Proofs.YtaljpbgggembmaaDoor
open Go.RowKit
set_option linter.unusedVariables false
set_option linter.unusedSimpArgs false

/-- An int of 64 bits. -/
def in64 (n : Int) : Prop := -9223372036854775808 ≤ n ∧ n ≤ 9223372036854775807
def okW (x : Wrd) : Prop := in64 x.K ∧ in64 x.N

theorem choose_list {α : Type} {p : Nat → α → Prop} : ∀ n : Nat, (∀ i, i < n → ∃ x, p i x) → ∃ l : List α, l.length = n ∧ ∀ i (hi : i < l.length), p i l[i]
  | 0, _ => ⟨[], rfl, fun i hi => by simp at hi⟩
  | n + 1, h => by
    obtain ⟨l, hl, hp⟩ := choose_list n (fun i hi => h i (by omega))
    obtain ⟨x, hx⟩ := h n (by omega)
    refine ⟨l ++ [x], by simp [hl], fun i hi => ?_⟩
    by_cases hn : i < l.length
    · rw [List.getElem_append_left hn]; exact hp i hn
    · have e : i = n := by simp at hi; omega
      subst e
      rw [List.getElem_append_right (by omega)]
      simpa [hl] using hx

theorem spot_cell {w : World} {a : Addr} {v : Value} (h : w.cell? a = some v) : a.spot = none ∧ a.block < w.heap.size := by
  unfold World.cell? at h
  split at h
  · rename_i c t fr hh
    refine ⟨?_, (Array.getElem?_eq_some_iff.1 hh).1⟩
    cases hs : a.spot with
    | none => rfl
    | some x => simp [hs] at h
  · cases h

theorem at_add (b o n : Nat) : Addr.add ⟨b, o, none⟩ n = ⟨b, o + n, none⟩ := by
  unfold Addr.add
  by_cases h : n = 0 <;> simp [h]

section
variable {H : Type} {enc : TypeId × Value → H} {W : World} {spare : Nat → Bool} {held : Bool}

/-- A slice that can be read, element by element. -/
theorem read_slice {t e : TypeId} {nc : Nat} (ht : Tryd.prog.underlying t = some (.slice e)) (hnc : Tryd.prog.cellsOf e = nc) (hpos : 0 < nc) {fuel : Nat} {cs : List Value} {x : DataW H × List MemPlace} (h : DataW.trod enc Tryd.prog W 0 spare held fuel t cs = some x) :
    ∃ ao len cap, cs = [.slice ao len cap] ∧ len ≤ 9223372036854775807 ∧ ∀ i, i < len → ∃ (b o n : Nat) (cs' : List Value) (y : DataW H × List MemPlace), ao = some ⟨b, o, none⟩ ∧ b < W.heap.size ∧ n < fuel ∧ cs'.length = nc ∧ (∀ j, j < nc → W.cell? ⟨b, o + i * nc + j, none⟩ = cs'[j]?) ∧ DataW.trod enc Tryd.prog W 0 spare held n e cs' = some y := by
  rcases DataW.trod_slice ht h with ⟨rfl, _⟩ | ⟨a, len, cap, elems, rest, n, hn, rfl, _, _, hl, hm, hlen, hel, _, _⟩
  · exact ⟨none, 0, 0, rfl, by omega, fun i hi => by omega⟩
  · rw [hnc] at hel
    refine ⟨some a, len, cap, rfl, by unfold maxLen at hm; omega, fun i hi => ?_⟩
    have get : ∀ i, i < len → ∃ (cs' : List Value) (y : DataW H × List MemPlace), W.cells? 0 (a.add (i * nc)) nc = some cs' ∧ DataW.trod enc Tryd.prog W 0 spare held n e cs' = some y := by
      intro i hi
      have h1 := hel i hi
      rw [List.getElem?_eq_getElem (by omega)] at h1
      obtain ⟨cs', h2, h3⟩ := Option.bind_eq_some_iff.1 h1
      exact ⟨cs', _, h2, h3⟩
    obtain ⟨cs0, y0, g0, _⟩ := get 0 (by omega)
    obtain ⟨_, l0, c0⟩ := World.cells?_some g0
    have z0 := c0 0 (by omega)
    rw [List.getElem?_eq_getElem (by omega)] at z0
    have ha : a.spot = none := by
      have := (spot_cell z0).1
      simpa [Addr.add] using this
    obtain ⟨b, o, sp⟩ := a
    simp only at ha
    subst ha
    obtain ⟨cs', y, g1, g2⟩ := get i hi
    obtain ⟨_, l1, c1⟩ := World.cells?_some g1
    refine ⟨b, o, n, cs', y, rfl, ?_, by omega, l1, fun j hj => ?_, g2⟩
    · have := (spot_cell z0).2
      simpa [Addr.add] using this
    · have := c1 j (by omega)
      rw [at_add, at_add] at this
      exact this

theorem Tryd.cellsIntI : Tryd.prog.cellsOf 3 = 1 := by kernel_rfl

theorem in64_of {n : Int} (h : (Lit.int .i64 n).wf = true) : in64 n := by
  simp [Lit.wf, IntKind.min, IntKind.max, IntKind.signed, IntKind.bits] at h
  exact ⟨by omega, by omega⟩

set_option maxRecDepth 100000 in
theorem Tryd.cellsLWord : Tryd.prog.cellsOf 26 = 2 := by kernel_rfl
theorem Tryd.cellsLHeap : Tryd.prog.cellsOf 24 = 2 := by kernel_rfl
theorem Tryd.cellsLWordS : Tryd.prog.cellsOf 22 = 1 := by kernel_rfl

set_option maxRecDepth 100000 in
theorem read_word {fuel : Nat} {cs : List Value} {x : DataW H × List MemPlace} (h : DataW.trod enc Tryd.prog W 0 spare held fuel 26 cs = some x) :
    ∃ i : Wrd, cs = [.int .i64 i.K, .int .i64 i.N] ∧ okW i := by
  obtain ⟨xs, m, hm, _, hl, hlen, hf⟩ := DataW.trod_struct Tryd.underlying26 h
  rw [Tryd.cellsLWord] at hl
  match cs, hl with
  | [c0, c1], _ =>
    have h0 : DataW.trod enc Tryd.prog W 0 spare held m 3 (List.take (Tryd.prog.cellsOf 3) [c0, c1]) = xs[0]? := hf 0 _ rfl
    have h1 : DataW.trod enc Tryd.prog W 0 spare held m 3 (List.take (Tryd.prog.cellsOf 3) [c1]) = xs[1]? := hf 1 _ rfl
    rw [Tryd.cellsIntI] at h0 h1
    simp only [List.take_succ_cons, List.take_zero] at h0 h1
    have hx : xs.length = 2 := hlen
    match xs, hx with
    | [y0, y1], _ =>
      obtain ⟨k0, e0, _, w0⟩ := DataW.trod_int Tryd.underlying3 h0
      obtain ⟨k1, e1, _, w1⟩ := DataW.trod_int Tryd.underlying3 h1
      simp at e0 e1
      subst e0 e1
      exact ⟨⟨k0, k1⟩, rfl, in64_of w0, in64_of w1⟩

set_option maxRecDepth 100000 in
theorem read_words {fuel : Nat} {cs : List Value} {x : DataW H × List MemPlace} (h : DataW.trod enc Tryd.prog W 0 spare held fuel 22 cs = some x) :
    ∃ ao len cap l, cs = [.slice ao len cap] ∧ Ws 0 W.heap.size W ao len l ∧ ∀ x ∈ l, okW x := by
  obtain ⟨ao, len, cap, rfl, hm, he⟩ := read_slice Tryd.underlying22 Tryd.cellsLWord (by omega) h
  obtain ⟨l, hl, hp⟩ := choose_list (p := fun i (n : Wrd) => (∃ b o, ao = some ⟨b, o, none⟩ ∧ b < W.heap.size ∧ Two W b (o + i * 2) n) ∧ okW n) len (fun i hi => by
    obtain ⟨b, o, n, cs', y, rfl, hb, _, hlen, hc, ht⟩ := he i hi
    obtain ⟨k, rfl, hok⟩ := read_word ht
    refine ⟨k, ⟨b, o, rfl, hb, ⟨?_, ?_⟩⟩, hok⟩
    · have := hc 0 (by omega); simpa using this
    · have := hc 1 (by omega); simpa using this)
  refine ⟨ao, len, cap, l, rfl, ⟨hl.symm, hm, fun i hi => ?_⟩, fun x hx => ?_⟩
  · obtain ⟨⟨b, o, e, hb, hc⟩, _⟩ := hp i hi
    exact ⟨b, o, e, Nat.zero_le _, hb, hc⟩
  · obtain ⟨i, hi, rfl⟩ := List.getElem_of_mem hx
    exact (hp i hi).2

set_option maxRecDepth 100000 in
theorem read_heap {fuel : Nat} {cs : List Value} {x : DataW H × List MemPlace} (h : DataW.trod enc Tryd.prog W 0 spare held fuel 24 cs = some x) :
    ∃ (s : Int) (ao : Option Addr) (len cap : Nat) (l : List Wrd), cs = [.int .i64 s, .slice ao len cap] ∧ Ws 0 W.heap.size W ao len l ∧ in64 s ∧ ∀ x ∈ l, okW x := by
  obtain ⟨xs, m, hm, _, hl, hlen, hf⟩ := DataW.trod_struct Tryd.underlying24 h
  rw [Tryd.cellsLHeap] at hl
  match cs, hl with
  | [c0, c1], _ =>
    have h0 : DataW.trod enc Tryd.prog W 0 spare held m 3 (List.take (Tryd.prog.cellsOf 3) [c0, c1]) = xs[0]? := hf 0 _ rfl
    have h1 : DataW.trod enc Tryd.prog W 0 spare held m 22 (List.take (Tryd.prog.cellsOf 22) [c1]) = xs[1]? := hf 1 _ rfl
    rw [Tryd.cellsIntI] at h0
    rw [Tryd.cellsLWordS] at h1
    simp only [List.take_succ_cons, List.take_zero] at h0 h1
    have hx : xs.length = 2 := hlen
    match xs, hx with
    | [y0, y1], _ =>
      obtain ⟨k0, e0, _, w0⟩ := DataW.trod_int Tryd.underlying3 h0
      obtain ⟨ao, len, cap, l, e1, hs, w1⟩ := read_words h1
      simp at e0 e1
      subst e0 e1
      exact ⟨k0, ao, len, cap, l, rfl, hs, in64_of w0, w1⟩
end

end Go.Proofs.YtaljpbgggembmaaDoor
