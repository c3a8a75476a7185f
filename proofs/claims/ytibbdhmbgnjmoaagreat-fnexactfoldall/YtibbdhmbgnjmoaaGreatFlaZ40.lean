/-
  A set of keys of two addresses and a number, each with an address of a block of its own: a new one is not found, and is laid behind the others.
-/
import Derived.Test.YtibbdhmbgnjmoaaGreatFlaZ14
import Derived.LaidEqlPtr
import Derived.Laws.StructEq
import Derived.MapKept
import Derived.Test.YtibbdhmbgnjmoaaGreatFlaZ39
import Derived.Test.YtibbdhmbgnjmoaaGreatFlaZ1
import Derived.ProofKit
import Derived.Deep.Slices
import Derived.Deep.Strs
import Derived.ChangeOld
import Derived.OpenShut
import Derived.Test.YtibbdhmbgnjmoaaGreatFlaZ4
import Derived.Deep.RegionWith
import Derived.Deep.RegionLaw
namespace Go.Proofs.YtibbdhmbgnjmoaaGreat
open Go.RowKit
set_option linter.unusedVariables false
set_option linter.unusedSimpArgs false

theorem Tryz.stood : Tryz.prog.stoodInHeld 144 = false := by kernel_rfl
theorem Tryz.infoTyP : (Tryz.prog.info? 31).map (fun i => i.size) = some 3 := by kernel_rfl

theorem Tryz.infoU : (Tryz.prog.info? 120).map (fun i => i.zero) = some (some (.agg #[])) := by kernel_rfl

/-- The key of a block c. -/
def keyV (c : Nat) (q : Option Addr) (n : Int) : Value := .agg #[.pointer (some ⟨c, 0, none⟩), .pointer q, .int .i64 n]

set_option maxRecDepth 100000 in
set_option maxHeartbeats 1000000 in
theorem key_other {w : World} {c c' : Nat} {q q' : Option Addr} {n n' : Int} {cs cs' : Array Value} {t t' : TypeId} (hne : c ≠ c') (h : w.heap[c]? = some (.cells cs t (0, 0))) (h' : w.heap[c']? = some (.cells cs' t' (0, 0))) :
    (Op.equal 144 (keyV c q n) (keyV c' q' n')).run Tryz.prog w = .ok false w := by
  obtain ⟨i0, hi, hz⟩ := Option.map_eq_some_iff.1 Tryz.infoTyP
  have hA : (⟨c, 0, none⟩ : Addr) ≠ ⟨c', 0, none⟩ := by intro e; exact hne (congrArg Addr.block e)
  have hs := run_sameAddr_other (P := Tryz.prog) w (a := ⟨c, 0, none⟩) (b := ⟨c', 0, none⟩) hA h h'
  have hp : ∀ d : Nat, (Op.equalIn (d + 1) 77 (.pointer (some ⟨c, 0, none⟩)) (.pointer (some ⟨c', 0, none⟩))).run Tryz.prog w = .ok false w := fun d => by
    simp [Op.equalIn, run_underlying Tryz.underlying77, sizeOf, typeInfo, hi, hz, hs]
  have hpart : ∀ a b d : Value, (part 77 #[a, b, d] 0).run Tryz.prog w = .ok a w := fun a b d => by
    simp [part, isAgg, run_underlying Tryz.underlying77]
  unfold Op.equal keyV
  show (Op.equalIn (9999 + 1) _ _ _).run _ _ = _
  rw [run_equalIn_struct w 9999 _ _ _ (by unfold Program.fieldsOf; rw [Tryz.underlying144]) Tryz.stood]
  simp [Program.fieldsOf, Tryz.underlying144, Op.eqFields, hpart, hp 9998]

/-- What lies in the map's block: keys of the blocks in cs. -/
def KeysIn (es : Array MapEntry) (cs : List Nat) : Prop := ∀ e ∈ es.toList, ∃ c q n, c ∈ cs ∧ e.key = keyV c q n

theorem find_none {w : World} {c : Nat} {q : Option Addr} {n : Int} {cs : List Nat} (hfr : ∀ x, x = c ∨ x ∈ cs → ∃ a t, w.heap[x]? = some (.cells a t (0, 0))) (hc : c ∉ cs) :
    ∀ (es : List MapEntry) (i : Nat), (∀ e ∈ es, ∃ c q n, c ∈ cs ∧ e.key = keyV c q n) → (Instr.findAsking 144 (keyV c q n) es i).run Tryz.prog w = .ok none w := by
  intro es
  induction es with
  | nil => intro i _; simp [Instr.findAsking]
  | cons e es ih =>
    intro i h
    obtain ⟨c', q', n', hc', he⟩ := h e (by simp)
    obtain ⟨a, t, ha⟩ := hfr c (Or.inl rfl)
    obtain ⟨a', t', ha'⟩ := hfr c' (Or.inr hc')
    have hne : c ≠ c' := fun e => hc (e ▸ hc')
    have hk := key_other (q := q) (n := n) (q' := q') (n' := n') hne ha ha'
    simp [Instr.findAsking, he, hk, ih (i + 1) (fun e he => h e (by simp [he]))]

theorem find_key {w : World} {c : Nat} {q : Option Addr} {n : Int} {cs : List Nat} (hfr : ∀ x, x = c ∨ x ∈ cs → ∃ a t, w.heap[x]? = some (.cells a t (0, 0))) (hc : c ∉ cs) {es : Array MapEntry} (hk : KeysIn es cs) :
    (Instr.findKey 144 (keyV c q n) es.toList).run Tryz.prog w = .ok none w := by
  have h2 := find_none (w := w) (q := q) (n := n) hfr hc es.toList 0 hk
  unfold Instr.findKey
  simp only [Sem.run_bind, run_underlying Tryz.underlying144, Result.andThen_ok]
  cases hes : es.toList with
  | nil => simp [Instr.findNow]
  | cons e l =>
    rw [hes] at h2
    simp [Instr.findNow, Instr.sameNow, h2]

set_option maxRecDepth 100000 in
theorem check_key {w : World} (b : Bool) (c : Nat) (q : Option Addr) (n : Int) : (Instr.checkKey b 10000 144 (keyV c q n)).run Tryz.prog w = .ok () w := by
  have hp : ∀ (d : Nat) (v : Option Addr), (Instr.checkKey b (d + 1) 77 (.pointer v)).run Tryz.prog w = .ok () w := fun d v => by simp [Instr.checkKey, run_underlying Tryz.underlying77]
  have hn : ∀ (d : Nat) (v : Int), (Instr.checkKey b (d + 1) 3 (.int .i64 v)).run Tryz.prog w = .ok () w := fun d v => by simp [Instr.checkKey, run_underlying Tryz.underlying3]
  have hpart0 : ∀ a b d : Value, (part 77 #[a, b, d] 0).run Tryz.prog w = .ok a w := fun a b d => by simp [part, isAgg, run_underlying Tryz.underlying77]
  have hpart1 : ∀ a b d : Value, (part 77 #[a, b, d] 1).run Tryz.prog w = .ok b w := fun a b d => by simp [part, isAgg, run_underlying Tryz.underlying77]
  have hpart2 : ∀ a b d : Value, (part 3 #[a, b, d] 2).run Tryz.prog w = .ok d w := fun a b d => by simp [part, isAgg, run_underlying Tryz.underlying3]
  unfold keyV
  show (Instr.checkKey b (9999 + 1) _ _).run _ _ = _
  rw [Instr.checkKey]
  simp only [Sem.run_bind, run_underlying Tryz.underlying144, Result.andThen_ok]
  simp [hpart0, hpart1, hpart2, hp 9998, hn 9998]

theorem lookup_new {w : World} {mp c : Nat} {q : Option Addr} {n : Int} {cs : List Nat} {es : Array MapEntry} {clock : Nat} (hm : w.heap[mp]? = some (.map es clock)) (hfr : ∀ x, x = c ∨ x ∈ cs → ∃ a t, w.heap[x]? = some (.cells a t (0, 0))) (hc : c ∉ cs) (hk : KeysIn es cs) :
    (Instr.lookup 142 (.map (some mp)) (keyV c q n) true).run Tryz.prog w = .ok (.tuple #[.agg #[], .bool false]) w := by
  have h1 := find_key (w := w) (q := q) (n := n) hfr hc hk
  have h2 := check_key (w := w) es.isEmpty c q n
  obtain ⟨i1, hi1, hz1⟩ := Option.map_eq_some_iff.1 Tryz.infoU
  have hz : (zeroValue 120).run Tryz.prog w = .ok (.agg #[]) w := by
    simp [zeroValue, typeInfo, hi1, hz1]
  have hg := MapKept.run_getObj_map (P := Tryz.prog) hm
  unfold Instr.lookup
  simp [run_underlying Tryz.underlying142, hg, h1, h2, hz]

theorem update_new {w : World} {mp c : Nat} {q : Option Addr} {n : Int} {cs : List Nat} {es : Array MapEntry} {clock : Nat} (hm : w.heap[mp]? = some (.map es clock)) (hfr : ∀ x, x = c ∨ x ∈ cs → ∃ a t, w.heap[x]? = some (.cells a t (0, 0))) (hc : c ∉ cs) (hk : KeysIn es cs) :
    (Instr.mapUpdate 142 (.map (some mp)) (keyV c q n) (.agg #[])).run Tryz.prog w = .ok () { w with heap := w.heap.setIfInBounds mp (.map (es.push { key := keyV c q n, val := .agg #[], born := clock }) (clock + 1)) } := by
  have h1 := find_key (w := w) (q := q) (n := n) hfr hc hk
  have h2 := check_key (w := w) false c q n
  have hg := MapKept.run_getObj_map (P := Tryz.prog) hm
  have hs := fun o => MapKept.run_setObj_map (P := Tryz.prog) o hm
  unfold Instr.mapUpdate
  simp [run_underlying Tryz.underlying142, hg, hs, h1, h2]

end Go.Proofs.YtibbdhmbgnjmoaaGreat

/-
  From the reading of an argument of the laws' own type to the tree that lies there.
-/
namespace Go.Proofs.YtibbdhmbgnjmoaaGreat
open Go.RowKit
set_option linter.unusedVariables false
set_option linter.unusedSimpArgs false

theorem Tryz.cellsLTy : Tryz.prog.cellsOf 24 = 3 := by kernel_rfl
theorem Tryz.cellsLTyS : Tryz.prog.cellsOf 22 = 1 := by kernel_rfl
theorem Tryz.cellsInt : Tryz.prog.cellsOf 3 = 1 := by kernel_rfl

theorem choose_tr {n : Nat} {p : Nat → Tr → Prop} (h : ∀ i, i < n → ∃ x, p i x) : ∃ f : Nat → Tr, ∀ i, i < n → p i (f i) := by
  classical
  refine ⟨fun i => if hi : i < n then Classical.choose (h i hi) else ⟨0, 0, []⟩, fun i hi => ?_⟩
  simp only [dif_pos hi]
  exact Classical.choose_spec (h i hi)

theorem cell_spot {w : World} {a : Addr} {v : Value} (h : w.cell? a = some v) : a.spot = none ∧ a.block < w.heap.size := by
  unfold World.cell? at h
  split at h
  · rename_i c t fr hh
    refine ⟨?_, (Array.getElem?_eq_some_iff.1 hh).1⟩
    cases hs : a.spot with
    | none => rfl
    | some x => simp [hs] at h
  · cases h

theorem add_at (b o n : Nat) : Addr.add ⟨b, o, none⟩ n = ⟨b, o + n, none⟩ := by
  unfold Addr.add
  by_cases h : n = 0 <;> simp [h]

section
variable {H : Type} {enc : TypeId × Value → H} {W : World} {spare : Nat → Bool} {held : Bool}

set_option maxRecDepth 100000 in
theorem read_ty (fuel : Nat) (ih : ∀ f, f < fuel → ∀ (cs : List Value) (x : DataW H × List MemPlace), DataW.trod enc Tryz.prog W 0 spare held f 22 cs = some x → ∃ ao len cap ts, cs = [.slice ao len cap] ∧ Hs 0 W.heap.size W f ao len ts)
    (cs : List Value) (x : DataW H × List MemPlace) (h : DataW.trod enc Tryz.prog W 0 spare held fuel 24 cs = some x) :
    ∃ k n ao len cap ts, cs = [.int .i64 k, .int .i64 n, .slice ao len cap] ∧ Hs 0 W.heap.size W fuel ao len ts := by
  obtain ⟨xs, m, hm, _, hl, hlen, hf⟩ := DataW.trod_struct Tryz.underlying24 h
  rw [Tryz.cellsLTy] at hl
  match cs, hl with
  | [c0, c1, c2], _ =>
    have h0 : DataW.trod enc Tryz.prog W 0 spare held m 3 (List.take (Tryz.prog.cellsOf 3) [c0, c1, c2]) = xs[0]? := hf 0 _ rfl
    have h1 : DataW.trod enc Tryz.prog W 0 spare held m 3 (List.take (Tryz.prog.cellsOf 3) [c1, c2]) = xs[1]? := hf 1 _ rfl
    have h2 : DataW.trod enc Tryz.prog W 0 spare held m 22 (List.take (Tryz.prog.cellsOf 22) [c2]) = xs[2]? := hf 2 _ rfl
    rw [Tryz.cellsInt] at h0 h1
    rw [Tryz.cellsLTyS] at h2
    simp only [List.take_succ_cons, List.take_zero] at h0 h1 h2
    have hx : xs.length = 3 := hlen
    match xs, hx with
    | [y0, y1, y2], _ =>
      obtain ⟨k, e0, _, _⟩ := DataW.trod_int Tryz.underlying3 h0
      obtain ⟨n, e1, _, _⟩ := DataW.trod_int Tryz.underlying3 h1
      obtain ⟨ao, len, cap, ts, e2, hs⟩ := ih m (by omega) _ _ h2
      simp at e0 e1 e2
      subst e0 e1 e2
      exact ⟨k, n, ao, len, cap, ts, rfl, hs.deeper (by omega)⟩

set_option maxRecDepth 100000 in
theorem read_tys : ∀ (fuel : Nat) (cs : List Value) (x : DataW H × List MemPlace), DataW.trod enc Tryz.prog W 0 spare held fuel 22 cs = some x → ∃ ao len cap ts, cs = [.slice ao len cap] ∧ Hs 0 W.heap.size W fuel ao len ts := by
  intro fuel
  induction fuel using Nat.strongRecOn with
  | ind fuel ih =>
    intro cs x h
    rcases DataW.trod_slice Tryz.underlying22 h with ⟨rfl, _⟩ | ⟨a, len, cap, elems, rest, n, hn, rfl, _, _, hl, hm, hlen, hel, _, _⟩
    · exact ⟨none, 0, 0, [], rfl, Hs.nil _ _ _ _ _⟩
    · rw [Tryz.cellsLTy] at hel
      have key : ∀ i, i < len → ∃ t : Tr, ∃ b o, a = ⟨b, o, none⟩ ∧ b < W.heap.size ∧ El W (Hs 0 W.heap.size W n) b (o + i * 3) t := by
        intro i hi
        have h1 := hel i hi
        rw [List.getElem?_eq_getElem (by omega)] at h1
        obtain ⟨cs', h2, h3⟩ := Option.bind_eq_some_iff.1 h1
        obtain ⟨k, m, ao, len', cap', ts, rfl, hs⟩ := read_ty n (fun f hf => ih f (by omega)) _ _ h3
        obtain ⟨_, _, hc⟩ := World.cells?_some h2
        have c0 := hc 0 (by omega)
        have c1 := hc 1 (by omega)
        have c2 := hc 2 (by omega)
        simp only [List.getElem?_cons_zero, List.getElem?_cons_succ] at c0 c1 c2
        have hsp := cell_spot c1
        have ha : a.spot = none := by
          have hc0 := cell_spot c0
          by_cases hi0 : i = 0
          · subst hi0; simpa [Addr.add] using hc0.1
          · cases hsa : a.spot with
            | none => rfl
            | some y =>
              exfalso
              have g := hel 0 (by omega)
              rw [List.getElem?_eq_getElem (by omega)] at g
              obtain ⟨cs2, g2, _⟩ := Option.bind_eq_some_iff.1 g
              obtain ⟨_, gl, gc⟩ := World.cells?_some g2
              have g0 := gc 0 (by omega)
              rw [List.getElem?_eq_getElem (by omega)] at g0
              have := (cell_spot g0).1
              simp [Addr.add, hsa] at this
        obtain ⟨b, o, sp⟩ := a
        simp only at ha
        subst ha
        rw [add_at, add_at] at c0 c1 c2
        refine ⟨⟨k, m, ts⟩, b, o, rfl, (cell_spot c0).2, ao, len', cap', c0, c1, c2, hs⟩
      obtain ⟨T, hT⟩ := choose_tr key
      refine ⟨some a, len, cap, (List.range len).map T, rfl, ?_⟩
      subst hn
      refine ⟨by simp, by unfold maxLen at hm; omega, fun i hi => ?_⟩
      have hi' : i < len := by simpa using hi
      obtain ⟨b, o, rfl, hb, hE⟩ := hT i hi'
      exact ⟨b, o, rfl, Nat.zero_le _, hb, by simpa using hE⟩
end

end Go.Proofs.YtibbdhmbgnjmoaaGreat

/-
  What is left to be compared, as a list; what lies in memory of it, in whatever row: no walk.
-/
namespace Go.Proofs.YtibbdhmbgnjmoaaGreat
open Go.RowKit
set_option linter.unusedVariables false
set_option linter.unusedSimpArgs false

theorem Tryz.infoTwo : (Tryz.prog.info? 117).map (fun i => (i.zero, i.size, i.bytes)) = some (some (.agg #[.int .i64 0, .int .i64 0, .slice none 0 0, .int .i64 0, .int .i64 0, .slice none 0 0]), 6, 80) := by kernel_rfl

/-- Two types that are left to be compared. -/
structure It where
  k : Int
  n : Int
  ao : Option Addr
  len : Nat
  cap : Nat
  ts : List Tr
  bs : List Nat
  k' : Int
  n' : Int
  ao' : Option Addr
  len' : Nat
  cap' : Nat
  ts' : List Tr

def It.x (i : It) : Tr := ⟨i.k, i.n, i.ts⟩
def It.y (i : It) : Tr := ⟨i.k', i.n', i.ts'⟩
def It.cells (i : It) : List Value := [.int .i64 i.k, .int .i64 i.n, .slice i.ao i.len i.cap, .int .i64 i.k', .int .i64 i.n', .slice i.ao' i.len' i.cap']

/-- What holds of them in the world in which the call began. -/
structure AnySt (w : World) (D L' B' : Nat) (r : Option Nat) (its : List It) (cs : List Nat) : Prop where
  ow : ∀ i ∈ its, Ow w D i.ao i.len i.ts i.bs ∧ Hs L' B' w D i.ao' i.len' i.ts'
  nodup : (its.flatMap It.bs ++ cs).Nodup
  bnd : ∀ b ∈ its.flatMap It.bs ++ cs, b < w.heap.size ∧ r ≠ some b
  fro : ∀ b ∈ cs, ∃ a t, w.heap[b]? = some (.cells a t (0, 0))

/-- What lies in the world at hand. -/
structure AnyDyn (w wr : World) (r : Option Nat) (mp : Nat) (v : Value) (its : List It) (cs : List Nat) : Prop where
  grown : w.grownBy wr r
  row : wr.ownsRow 0 117 6 v its.length (its.flatMap It.cells)
  blk : ∀ x, v.ownBlock = some x → r = some x ∨ w.heap.size ≤ x
  map : ∃ es clock, wr.heap[mp]? = some (.map es clock) ∧ KeysIn es cs

theorem any_below {w wr w1 : World} {r : Option Nat} {mp : Nat} {v : Value} {its : List It} {cs : List Nat} (h : AnyDyn w wr r mp v its cs) (hb : Below wr.heap.size wr w1) : AnyDyn w w1 r mp v its cs := by
  refine ⟨⟨hb.os.trans h.grown.os, hb.tape.trans h.grown.tape, hb.output.trans h.grown.output, Nat.le_trans h.grown.size hb.size, fun i hi hr => (hb.block i (Nat.lt_of_lt_of_le hi h.grown.size)).trans (h.grown.block i hi hr)⟩, ⟨h.row.1, ?_⟩, h.blk, ?_⟩
  · rcases h.row.2 with hn | ⟨g, cap, cur, rfl, hg, hh, r⟩
    · exact Or.inl hn
    · exact Or.inr ⟨g, cap, cur, rfl, hg, (hb.block g (Array.getElem?_eq_some_iff.1 hh).1).trans hh, r⟩
  · obtain ⟨es, clock, hm, hk⟩ := h.map
    exact ⟨es, clock, (hb.block mp (Array.getElem?_eq_some_iff.1 hm).1).trans hm, hk⟩

theorem cells_len (i : It) : i.cells.length = 6 := rfl
theorem cells_flat (its : List It) : (its.flatMap It.cells).length = its.length * 6 := by
  induction its with
  | nil => rfl
  | cons i l ih => simp only [List.flatMap_cons, List.length_append, ih, cells_len, List.length_cons]; omega

/-- The last one of a row, and the row without it. -/
theorem any_pop {w wr : World} {r : Option Nat} {mp : Nat} {v : Value} {init : List It} {it : It} {cs : List Nat} (h : AnyDyn w wr r mp v (init ++ [it]) cs) :
    ∃ g cap, v = .slice (some ⟨g, 0, none⟩) (init.length + 1) cap ∧ g < wr.heap.size ∧ init.length + 1 ≤ cap ∧ cap ≤ 9223372036854775807 ∧
      wr.cell? ⟨g, init.length * 6, none⟩ = some (.int .i64 it.k) ∧ wr.cell? ⟨g, init.length * 6 + 1, none⟩ = some (.int .i64 it.n) ∧ wr.cell? ⟨g, init.length * 6 + 2, none⟩ = some (.slice it.ao it.len it.cap) ∧
      wr.cell? ⟨g, init.length * 6 + 3, none⟩ = some (.int .i64 it.k') ∧ wr.cell? ⟨g, init.length * 6 + 4, none⟩ = some (.int .i64 it.n') ∧ wr.cell? ⟨g, init.length * 6 + 5, none⟩ = some (.slice it.ao' it.len' it.cap') ∧
      AnyDyn w wr r mp (.slice (some ⟨g, 0, none⟩) init.length cap) init cs := by
  have hrow := h.row
  rw [List.length_append, List.flatMap_append] at hrow
  simp only [List.length_singleton, List.flatMap_cons, List.flatMap_nil, List.append_nil] at hrow
  rcases hrow.2 with ⟨_, hn⟩ | ⟨g, cap, cur, rfl, hg, hh, hc1, hc2, hc3, ht⟩
  · omega
  · have hl := cells_flat init
    have look : ∀ j, j < 6 → wr.cell? ⟨g, init.length * 6 + j, none⟩ = it.cells[j]? := by
      intro j hj
      rw [row_cell hh]
      have e : (cur.toList.take ((init.length + 1) * 6))[init.length * 6 + j]? = it.cells[j]? := by
        rw [ht, List.getElem?_append_right (by omega), hl]; congr 1; omega
      rw [List.getElem?_take, if_pos (by omega)] at e
      simpa using e
    refine ⟨g, cap, rfl, (Array.getElem?_eq_some_iff.1 hh).1, hc1, by unfold maxLen at hc2; omega, look 0 (by omega), look 1 (by omega), look 2 (by omega), look 3 (by omega), look 4 (by omega), look 5 (by omega), h.grown, ⟨hl, Or.inr ⟨g, cap, cur, rfl, hg, hh, by omega, hc2, hc3, ?_⟩⟩, fun x hx => h.blk x hx, h.map⟩
    have e2 : cur.toList.take (init.length * 6) = (cur.toList.take ((init.length + 1) * 6)).take (init.length * 6) := by rw [List.take_take]; congr 1; omega
    rw [e2, ht, List.take_append_of_le_length (by omega), List.take_of_length_le (by omega)]

/-- One more behind them: what 'append' gives. -/
theorem any_push {w wr : World} {r : Option Nat} {mp : Nat} {v : Value} {its : List It} {cs : List Nat} (h : AnyDyn w wr r mp v its cs) (hsz : its.length ≤ 1048577) (it : It) :
    ∃ g cap w2, (Builtin.append_ #[111, 111] 111 #[v, .slice (some ⟨wr.heap.size, 0, none⟩) 1 1]).run Tryz.prog (wr.alloc (.cells #[.int .i64 it.k, .int .i64 it.n, .slice it.ao it.len it.cap, .int .i64 it.k', .int .i64 it.n', .slice it.ao' it.len' it.cap'] 117)) = .ok (.slice (some ⟨g, 0, none⟩) (its.length + 1) cap) w2 ∧
      AnyDyn w w2 r mp (.slice (some ⟨g, 0, none⟩) (its.length + 1) cap) (its ++ [it]) cs ∧ wr.grownBy w2 v.ownBlock ∧ (v.ownBlock = some g ∨ g = wr.heap.size + 1) := by
  obtain ⟨i0, hi, hz0, hz1, hz2⟩ := info_parts Tryz.infoTwo
  have hX : Below wr.heap.size wr (wr.alloc (.cells #[.int .i64 it.k, .int .i64 it.n, .slice it.ao it.len it.cap, .int .i64 it.k', .int .i64 it.n', .slice it.ao' it.len' it.cap'] 117)) := (Below.refl _ _).alloc (Nat.le_refl _) _
  have h1 := any_below h hX
  have hgw := h.grown.size
  obtain ⟨g, cap, w2, hrun, hown2, hgrow, hat, hlt⟩ := run_append_lies (P := Tryz.prog) (wr.alloc (.cells #[.int .i64 it.k, .int .i64 it.n, .slice it.ao it.len it.cap, .int .i64 it.k', .int .i64 it.n', .slice it.ao' it.len' it.cap'] 117)) 111 111 0 117 i0 _ 6 80 Tryz.underlying111 hi hz0 hz1 hz2 rfl (by omega) v its.length _ h1.row
    ⟨wr.heap.size, 0, none⟩ 1 1 it.cells rfl (World.news_of_block (cs := #[.int .i64 it.k, .int .i64 it.n, .slice it.ao it.len it.cap, .int .i64 it.k', .int .i64 it.n', .slice it.ao' it.len' it.cap']) (t := 117) (fr := (0, 0)) (heap_alloc_new wr _)) (by simp [Value.oneCell', It.cells])
    (by omega) (by unfold maxLen; omega) (by omega) (by simp) _ rfl
  have hnm : v.ownBlock ≠ some mp := by
    intro e
    obtain ⟨es, clock, hm, _⟩ := h1.map
    rcases h1.row.2 with ⟨rfl, _⟩ | ⟨g1, cap1, cur, rfl, _, hh, _⟩
    · cases e
    · have e' : g1 = mp := by simpa [Value.ownBlock] using e
      subst e'
      rw [hm] at hh; cases hh
  refine ⟨g, cap, w2, hrun, ⟨⟨hgrow.os.trans h1.grown.os, hgrow.tape.trans h1.grown.tape, hgrow.output.trans h1.grown.output, Nat.le_trans h1.grown.size hgrow.size, fun i hi hr => ?_⟩, ?_, ?_, ?_⟩, ⟨hgrow.os, hgrow.tape, hgrow.output, Nat.le_trans (by simp) hgrow.size, fun i hi hr => ?_⟩, by simpa using hat⟩
  · have hne : v.ownBlock ≠ some i := fun e => by
      rcases h1.blk i e with h2 | h2
      · exact hr h2.symm
      · omega
    exact (hgrow.block i (Nat.lt_of_lt_of_le hi h1.grown.size) (fun e => hne e.symm)).trans (h1.grown.block i hi hr)
  · rw [List.length_append, List.flatMap_append]
    simpa using hown2
  · intro x hx
    have hx' : g = x := by simpa [Value.ownBlock] using hx
    subst hx'
    rcases hat with hat | hat
    · exact h1.blk g hat
    · right; simp at hat; omega
  · obtain ⟨es, clock, hm, hk⟩ := h1.map
    exact ⟨es, clock, (hgrow.block mp (Array.getElem?_eq_some_iff.1 hm).1 (fun e => hnm e.symm)).trans hm, hk⟩
  · exact (hgrow.block i (by simp; omega) hr).trans (Below.heap_alloc _ _ _ hi)

/-- A key more in the map. -/
theorem any_key {w wr : World} {r : Option Nat} {mp : Nat} {v : Value} {its : List It} {cs : List Nat} (h : AnyDyn w wr r mp v its cs) (hmp : w.heap.size ≤ mp) {es : Array MapEntry} {clock : Nat} (hm : wr.heap[mp]? = some (.map es clock)) (hk : KeysIn es cs) (c : Nat) (q : Option Addr) (n : Int) :
    AnyDyn w { wr with heap := wr.heap.setIfInBounds mp (.map (es.push { key := keyV c q n, val := .agg #[], born := clock }) (clock + 1)) } r mp v its (c :: cs) := by
  have hlt : mp < wr.heap.size := (Array.getElem?_eq_some_iff.1 hm).1
  have other : ∀ i, i ≠ mp → (wr.heap.setIfInBounds mp (.map (es.push { key := keyV c q n, val := .agg #[], born := clock }) (clock + 1)))[i]? = wr.heap[i]? := fun i hi => by
    rw [Array.getElem?_setIfInBounds]; rw [if_neg (fun e => hi e.symm)]
  refine ⟨⟨h.grown.os, h.grown.tape, h.grown.output, by simpa using h.grown.size, fun i hi hr => (other i (by omega)).trans (h.grown.block i hi hr)⟩, ⟨h.row.1, ?_⟩, h.blk, ?_⟩
  · rcases h.row.2 with hn | ⟨g, cap, cur, rfl, hg, hh, r⟩
    · exact Or.inl hn
    · refine Or.inr ⟨g, cap, cur, rfl, hg, (other g ?_).trans hh, r⟩
      intro e; subst e; rw [hm] at hh; cases hh
  · refine ⟨es.push { key := keyV c q n, val := .agg #[], born := clock }, clock + 1, by rw [Array.getElem?_setIfInBounds]; simp [hlt], ?_⟩
    intro e he
    rw [Array.toList_push, List.mem_append] at he
    rcases he with he | he
    · obtain ⟨c', q', n', h1, h2⟩ := hk e he
      exact ⟨c', q', n', List.mem_cons_of_mem _ h1, h2⟩
    · simp at he
      subst he
      exact ⟨c, q, n, by simp, rfl⟩

theorem choose_it {n : Nat} {p : Nat → It → Prop} (h : ∀ i, i < n → ∃ x, p i x) : ∃ l : List It, l.length = n ∧ ∀ i (hi : i < l.length), p i l[i] := by
  classical
  refine ⟨(List.range n).attach.map fun i => Classical.choose (h i.1 (List.mem_range.1 i.2)), by simp, fun i hi => ?_⟩
  have hi' : i < n := by simpa using hi
  have := Classical.choose_spec (h i hi')
  simpa using this

/-- The parts of two that are alike, one by one. -/
theorem any_parts {w : World} {D L' B' : Nat} {it : It} (hw : Ow w D it.ao it.len it.ts it.bs) (hh : Hs L' B' w D it.ao' it.len' it.ts') (hlen : it.len = it.len') (hpos : 0 < it.len) :
    ∃ (c c' o' : Nat) (ch : List It), it.ao = some ⟨c, 0, none⟩ ∧ it.ao' = some ⟨c', o', none⟩ ∧ L' ≤ c' ∧ c' < B' ∧ ch.length = it.len ∧ (∃ a t, w.heap[c]? = some (.cells a t (0, 0))) ∧ it.bs = c :: ch.flatMap It.bs ∧ it.len = it.ts.length ∧ it.len' = it.ts'.length ∧
      (∀ i (hi : i < ch.length) (h1 : i < it.ts.length) (h2 : i < it.ts'.length), ch[i].x = it.ts[i] ∧ ch[i].y = it.ts'[i] ∧ Ow w D ch[i].ao ch[i].len ch[i].ts ch[i].bs ∧ Hs L' B' w D ch[i].ao' ch[i].len' ch[i].ts' ∧
        w.cell? ⟨c, i * 3, none⟩ = some (.int .i64 ch[i].k) ∧ w.cell? ⟨c, i * 3 + 1, none⟩ = some (.int .i64 ch[i].n) ∧ w.cell? ⟨c, i * 3 + 2, none⟩ = some (.slice ch[i].ao ch[i].len ch[i].cap) ∧
        w.cell? ⟨c', o' + i * 3, none⟩ = some (.int .i64 ch[i].k') ∧ w.cell? ⟨c', o' + i * 3 + 1, none⟩ = some (.int .i64 ch[i].n') ∧ w.cell? ⟨c', o' + i * 3 + 2, none⟩ = some (.slice ch[i].ao' ch[i].len' ch[i].cap')) := by
  cases D with
  | zero => have := hw.1; omega
  | succ d =>
    rcases hw with ⟨h0, _, _⟩ | ⟨c, a, bss, e, hl, hm, hg, hc, hbl, hbs, hE⟩
    · omega
    · have hl' := hh.1
      obtain ⟨c', o', e', hLc, hB, _⟩ := hh.2.2 0 (by omega)
      have key : ∀ i, i < it.len → ∃ x : It, ∀ (h1 : i < it.ts.length) (h2 : i < it.ts'.length) (h3 : i < bss.length), x.x = it.ts[i] ∧ x.y = it.ts'[i] ∧ x.bs = bss[i] ∧ Ow w (d + 1) x.ao x.len x.ts x.bs ∧ Hs L' B' w (d + 1) x.ao' x.len' x.ts' ∧
          w.cell? ⟨c, i * 3, none⟩ = some (.int .i64 x.k) ∧ w.cell? ⟨c, i * 3 + 1, none⟩ = some (.int .i64 x.n) ∧ w.cell? ⟨c, i * 3 + 2, none⟩ = some (.slice x.ao x.len x.cap) ∧
          w.cell? ⟨c', o' + i * 3, none⟩ = some (.int .i64 x.k') ∧ w.cell? ⟨c', o' + i * 3 + 1, none⟩ = some (.int .i64 x.n') ∧ w.cell? ⟨c', o' + i * 3 + 2, none⟩ = some (.slice x.ao' x.len' x.cap') := by
        intro i hi
        obtain ⟨ao1, len1, cap1, x0, x1, x2, ho⟩ := hE i (by omega) (by omega)
        obtain ⟨c2, o2, e2, _, _, ao2, len2, cap2, y0, y1, y2, hs⟩ := hh.2.2 i (by omega)
        rw [e'] at e2
        cases e2
        refine ⟨⟨it.ts[i].K, it.ts[i].N, ao1, len1, cap1, it.ts[i].A, bss[i], it.ts'[i].K, it.ts'[i].N, ao2, len2, cap2, it.ts'[i].A⟩, fun h1 h2 h3 => ⟨tr_eta _, tr_eta _, rfl, ho.deeper (by omega), hs.deeper (by omega), x0, x1, x2, y0, y1, y2⟩⟩
      obtain ⟨ch, hcl, hch⟩ := choose_it key
      have hbss : ch.map It.bs = bss := by
        apply List.ext_getElem
        · simp; omega
        · intro i h1 h2
          simp only [List.getElem_map]
          exact (hch i (by simpa using h1) (by omega) (by omega) h2).2.2.1
      refine ⟨c, c', o', ch, e, e', hLc, hB, hcl, ⟨a, _, hg⟩, by rw [hbs, ← hbss, List.flatMap_def], hl, hl', fun i hi h1 h2 => ?_⟩
      obtain ⟨q1, q2, q3, q4⟩ := hch i hi h1 h2 (by omega)
      exact ⟨q1, q2, q4⟩

theorem sum_le_len (f : It → Nat) (hf : ∀ i, 1 ≤ f i) (l : List It) : l.length ≤ (l.map f).sum := by
  induction l with
  | nil => simp
  | cons i l ih => have := hf i; simp only [List.map_cons, List.sum_cons, List.length_cons]; omega
theorem cnt_pos (t : Tr) : 1 ≤ cnt t := by rw [cnt_eq]; omega

end Go.Proofs.YtibbdhmbgnjmoaaGreat

/-
  'append' at a step of a region that draws, by the equation of its run: no walk. (As in the text Lc, for those that cannot import it.)
-/
namespace Go.Proofs.YtibbdhmbgnjmoaaGreat
open Go.RowKit
set_option linter.unusedVariables false
set_option linter.unusedSimpArgs false


end Go.Proofs.YtibbdhmbgnjmoaaGreat
