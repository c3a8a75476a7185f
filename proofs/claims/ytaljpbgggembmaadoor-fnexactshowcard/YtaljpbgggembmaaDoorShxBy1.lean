/-
  A builder that lies in a 'shower': 'copyCheck', 'WriteString', 'WriteByte', 'String' at it.
-/
import Derived.Test.YtaljpbgggembmaaDoorShxTr
import Derived.Test.YtaljpbgggembmaaDoorShxLwM
import Derived.Test.YtaljpbgggembmaaDoorShxWoS0
import Derived.Lib.OthersKept
import Derived.Lib.AppendStr
import Derived.Lib.UnsafeStr
import Derived.Lib.Builder
import Derived.Deep.AppendLies
namespace Go.Proofs.YtaljpbgggembmaaDoor
open Go.RowKit
set_option linter.unusedVariables false
set_option linter.unusedSimpArgs false

theorem Tryd.infoByte : (Tryd.prog.info? 5).map (fun i => (i.zero, i.size, i.bytes)) = some (some (.int .u8 0), 1, 1) := by kernel_rfl
theorem Tryd.infoBuilder : (Tryd.prog.info? 45).map (fun i => i.size) = some 2 := by kernel_rfl
theorem Tryd.liesBuilder : liesAt Tryd.prog Tryd.prog.depth 47 (4 / Tryd.prog.cellsOf 47) 2 45 1 = true := by kernel_rfl

/-- A row of bytes of one's own. -/
def Byr (base : Nat) (w : World) (v : Value) (T : List UInt8) : Prop := w.ownsRow base 5 1 v T.length (Lib.byteCells T)
theorem byr_own {base : Nat} {w : World} {v : Value} {T : List UInt8} (h : Byr base w v T) {g : Nat} (hg : v.ownBlock = some g) : base ≤ g ∧ ∃ c fz, w.heap[g]? = some (.cells c 5 fz) := by
  rcases h.2 with ⟨rfl, _⟩ | ⟨g', cap, cur, rfl, hb', hh, _⟩
  · cases hg
  · have e : g' = g := by simpa [Value.ownBlock] using hg
    subst e
    exact ⟨hb', _, _, hh⟩
theorem byr_keep {base : Nat} {w w' : World} {v : Value} {T : List UInt8} (h : Byr base w v T) (hk : ∀ g, v.ownBlock = some g → w'.heap[g]? = w.heap[g]?) : Byr base w' v T := by
  refine ⟨h.1, ?_⟩
  rcases h.2 with hn | ⟨g, cap, cur, rfl, hg, hh, r⟩
  · exact Or.inl hn
  · exact Or.inr ⟨g, cap, cur, rfl, hg, (hk g rfl).trans hh, r⟩

/-- What a writer changes: its own block S, rows of bytes from base on; all else stands. -/
structure Sg (S : Nat) (w w' : World) : Prop where
  bel : Below S w w'
  oth : Lib.OthersKept 5 (some S) w w'
theorem Sg.refl (S : Nat) (w : World) : Sg S w w := ⟨Below.refl _ _, Lib.OthersKept.refl _ _ _⟩
theorem Sg.trans {S : Nat} {a b c : World} (h : Sg S a b) (k : Sg S b c) : Sg S a c := ⟨h.bel.trans k.bel, h.oth.trans k.oth⟩
theorem Sg.blk {S : Nat} {w w' : World} (h : Sg S w w') {k : Nat} {cs : Array Value} {t : TypeId} {fr : Nat × Nat} (hk : w.heap[k]? = some (.cells cs t fr)) (hS : k ≠ S) (ht : t ≠ 5) : w'.heap[k]? = some (.cells cs t fr) :=
  h.oth k _ hk (fun e => hS (Option.some.inj e)) (fun c fz e => by injection e with _ e2 _; exact ht e2)
theorem Sg.below {S : Nat} {w w' : World} (hb : Below w.heap.size w w') (hS : S ≤ w.heap.size) : Sg S w w' :=
  ⟨hb.mono hS, fun k o hk _ _ => (hb.block k (Array.getElem?_eq_some_iff.1 hk).1).trans hk⟩

/-- A shower in block S: the heap's words, how many looks are left, the text so far. -/
structure Shw (w : World) (S : Nat) (ao : Option Addr) (len cap : Nat) (n : Int) (T : List UInt8) : Prop where
  at_ : ∃ p v, w.heap[S]? = some (.cells #[.slice ao len cap, .int .i64 n, p, v] 47 (0, 0)) ∧ (p = .pointer none ∨ p = .pointer (some ⟨S, 2, none⟩)) ∧ Byr (S + 1) w v T
theorem Shw.lt {w : World} {S : Nat} {ao : Option Addr} {len cap : Nat} {n : Int} {T : List UInt8} (h : Shw w S ao len cap n T) : S < w.heap.size := by
  obtain ⟨p, v, hb, _⟩ := h.at_
  exact (Array.getElem?_eq_some_iff.1 hb).1
theorem Shw.below {w w' : World} {S : Nat} {ao : Option Addr} {len cap : Nat} {n : Int} {T : List UInt8} (h : Shw w S ao len cap n T) (hb : Below w.heap.size w w') : Shw w' S ao len cap n T := by
  have hlt := h.lt
  obtain ⟨p, v, h1, h2, h3⟩ := h.at_
  refine ⟨p, v, (hb.block _ hlt).trans h1, h2, byr_keep h3 fun g hg => ?_⟩
  obtain ⟨_, c, fz, hc⟩ := byr_own h3 hg
  exact hb.block g (Array.getElem?_eq_some_iff.1 hc).1
theorem cells4b {w : World} {b : Nat} {x0 x1 x2 x3 : Value} {t : TypeId} {fr : Nat × Nat} (h : w.heap[b]? = some (.cells #[x0, x1, x2, x3] t fr)) :
    w.cell? ⟨b, 0, none⟩ = some x0 ∧ w.cell? ⟨b, 1, none⟩ = some x1 ∧ w.cell? ⟨b, 2, none⟩ = some x2 ∧ w.cell? ⟨b, 3, none⟩ = some x3 := ⟨row_cell h 0, row_cell h 1, row_cell h 2, row_cell h 3⟩

set_option maxRecDepth 100000 in
set_option maxHeartbeats 1000000 in
theorem copyCheck_used (S : Nat) (w : World) (h0 : w.cell? ⟨S, 2, none⟩ = some (.pointer (some ⟨S, 2, none⟩))) :
    Calls Tryd.prog 37 #[.pointer (some ⟨S, 2, none⟩)] w fun e w' => e = .returned (.tuple #[]) ∧ w' = w := by
  obtain ⟨j, hj, hjs⟩ := Option.map_eq_some_iff.1 Tryd.infoBuilder
  go_enter Tryd.func37, Tryd.ntmps37
  go_wp2_with fail
  rw [Lib.run_neq_ptr_same w _ Tryd.underlying43 hj]
  simp only [Result.andThen]
  rw [Oper.upon_value]
  go_wp2_with fail
  go_end0
  exact ⟨rfl, rfl⟩

set_option maxRecDepth 100000 in
set_option maxHeartbeats 1000000 in
theorem copyCheck_fresh (S : Nat) (w : World) (h0 : w.cell? ⟨S, 2, none⟩ = some (.pointer none)) (hsh : w.shape? S = some (47, 4)) (hfz : w.frozen? ⟨S, 2, none⟩ = false) :
    Calls Tryd.prog 37 #[.pointer (some ⟨S, 2, none⟩)] w fun e w' => e = .returned (.tuple #[]) ∧ w' = w.setCell ⟨S, 2, none⟩ (.pointer (some ⟨S, 2, none⟩)) := by
  obtain ⟨j, hj, hjs⟩ := Option.map_eq_some_iff.1 Tryd.infoBuilder
  go_enter Tryd.func37, Tryd.ntmps37
  go_wp2_with fail
  rw [Lib.run_to_unsafe w ⟨S, 2, none⟩ Tryd.underlying43 Tryd.underlying84 hj (by rw [hjs]; decide) hsh (by show 2 < 4; omega)]
  simp only [Result.andThen]
  rw [Oper.upon_value]
  go_wp2_with fail
  rw [run_callFunc_extern Tryd.func42 (by kernel_rfl) (by kernel_rfl) (by kernel_rfl) (e := Extern.AbiNoEscape.same) (by kernel_rfl)]
  rw [Lib.run_noEscape]
  simp only [Result.andThen]
  rw [Oper.upon_value]
  go_wp2_with fail
  rw [Lib.run_from_unsafe w ⟨S, 2, none⟩ Tryd.underlying84 Tryd.underlying43 hj hsh Tryd.liesBuilder]
  simp only [Result.andThen]
  rw [Oper.upon_value]
  go_wp2_with fail
  go_end0
  exact ⟨rfl, rfl⟩

end Go.Proofs.YtaljpbgggembmaaDoor
