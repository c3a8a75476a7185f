/-
  What the model's 'l1Next' comes to.
-/
import Derived.Test.YtikfbgkjgbdoiaaPp
import Derived.Test.YtikfbgkjgbdoiaaSp
import Derived.BigQuiet
namespace Go.Proofs.Ytikfbgkjgbdoiaa
open Go.RowKit
set_option linter.unusedVariables false
set_option linter.unusedSimpArgs false

/-- The reader in block p: its tokens, where it is, whether it is bad. -/
structure Rdr (L B : Nat) (w : World) (p : Nat) (ao : Option Addr) (len cap a : Nat) (bad : Bool) (T : List (List UInt8)) : Prop where
  row : w.heap[p]? = some (.cells #[.slice ao len cap, .int .i64 a, .bool bad] 81 (0, 0))
  toks : Stx L B w ao len T
  le : a ≤ len
  sm : len ≤ 1048577
  lo : B ≤ p

theorem Rdr.lt {L B : Nat} {w : World} {p : Nat} {ao : Option Addr} {len cap a : Nat} {bad : Bool} {T : List (List UInt8)} (h : Rdr L B w p ao len cap a bad T) : p < w.heap.size := (Array.getElem?_eq_some_iff.1 h.row).1

theorem Rdr.below {L B : Nat} {w w' : World} {p : Nat} {ao : Option Addr} {len cap a : Nat} {bad : Bool} {T : List (List UInt8)} (h : Rdr L B w p ao len cap a bad T) (hb : Below w.heap.size w w') : Rdr L B w' p ao len cap a bad T :=
  ⟨(hb.block p h.lt).trans h.row, h.toks.below hb (by have := h.lt; have := h.lo; omega), h.le, h.sm, h.lo⟩

theorem Stx.set {L B : Nat} {w : World} {ao : Option Addr} {len : Nat} {T : List (List UInt8)} (h : Stx L B w ao len T) {p : Nat} (hB : B ≤ p) (o : Nat) (v : Value) : Stx L B (w.setCell ⟨p, o, none⟩ v) ao len T := by
  refine ⟨h.1, fun i hi => ?_⟩
  obtain ⟨b, o', e, h1, h2, h3⟩ := h.2 i hi
  exact ⟨b, o', e, h1, h2, (World.cell?_of_block (a := ⟨b, o' + i, none⟩) (row_other _ _ _ (show b ≠ p by omega))).trans h3⟩

theorem Rdr.setA {L B : Nat} {w : World} {p : Nat} {ao : Option Addr} {len cap a : Nat} {bad : Bool} {T : List (List UInt8)} (h : Rdr L B w p ao len cap a bad T) (a' : Nat) (ha : a' ≤ len) : Rdr L B (w.setCell ⟨p, 1, none⟩ (.int .i64 a')) p ao len cap a' bad T :=
  ⟨by rw [row_set h.row]; rfl, h.toks.set h.lo _ _, ha, h.sm, h.lo⟩
theorem Rdr.setB {L B : Nat} {w : World} {p : Nat} {ao : Option Addr} {len cap a : Nat} {bad : Bool} {T : List (List UInt8)} (h : Rdr L B w p ao len cap a bad T) (bad' : Bool) : Rdr L B (w.setCell ⟨p, 2, none⟩ (.bool bad')) p ao len cap a bad' T :=
  ⟨by rw [row_set h.row]; rfl, h.toks.set h.lo _ _, h.le, h.sm, h.lo⟩
theorem Rdr.drew {L B : Nat} {w : World} {p : Nat} {ao : Option Addr} {len cap a : Nat} {bad : Bool} {T : List (List UInt8)} (h : Rdr L B w p ao len cap a bad T) : Rdr L B w.drew p ao len cap a bad T := ⟨h.row, h.toks, h.le, h.sm, h.lo⟩

theorem grown_set {w w' : World} {p o : Nat} {v : Value} (h : w.grownBy w' (some p)) : w.grownBy (w'.setCell ⟨p, o, none⟩ v) (some p) :=
  ⟨h.os, h.tape, h.output, by simpa using h.size, fun k hk hne => (row_other _ _ _ (by simpa using hne)).trans (h.block k hk hne)⟩
theorem grown_refl2 (w : World) (r : Option Nat) : w.grownBy w r := ⟨rfl, rfl, rfl, Nat.le_refl _, fun _ _ _ => rfl⟩
theorem grown_drew {w w' : World} {r : Option Nat} (h : w.grownBy w' r) : w.grownBy w'.drew r := ⟨h.os, h.tape, h.output, h.size, h.block⟩

set_option maxRecDepth 100000 in
set_option maxHeartbeats 2000000 in
theorem next_end (p : Nat) (ao : Option Addr) (len cap L B : Nat) (T : List (List UInt8)) (w : World) (h : Rdr L B w p ao len cap len false T) :
    Calls Try.prog 90 #[.pointer (some ⟨p, 0, none⟩)] w fun e w' => e = .returned (.string ⟨#[]⟩) ∧ w.grownBy w' (some p) ∧ Rdr L B w' p ao len cap len true T := by
  obtain ⟨f0, f1, f2⟩ := box_cells h.row
  have f3 := row_free h.row
  have hge : decide ((len : Int) ≤ (len : Int)) = true := by simp
  have hl := h.sm
  go_enter Try.func90, Try.ntmps90
  go_wp2_with fail
  go_quiet (fail)
  go_wp2_with fail
  go_ret
  have h2 : Rdr L B (w.drewN nq) p ao len cap len false T := ⟨h.row, h.toks, h.le, h.sm, h.lo⟩
  have hg : w.grownBy (w.drewN nq) (some p) := ⟨rfl, rfl, rfl, Nat.le_refl _, fun _ _ _ => rfl⟩
  exact ⟨rfl, grown_set hg, h2.setB true⟩

set_option maxRecDepth 100000 in
set_option maxHeartbeats 2000000 in
theorem next_tok (p : Nat) (ao : Option Addr) (len cap a L B : Nat) (T : List (List UInt8)) (w : World) (h : Rdr L B w p ao len cap a false T) (ha : a < len) (haT : a < T.length) :
    Calls Try.prog 90 #[.pointer (some ⟨p, 0, none⟩)] w fun e w' => e = .returned (tk T[a]) ∧ w.grownBy w' (some p) ∧ Rdr L B w' p ao len cap (a + 1) false T := by
  obtain ⟨f0, f1, f2⟩ := box_cells h.row
  have f3 := row_free h.row
  have hge : ¬ (len : Int) ≤ (a : Int) := by omega
  have hl := h.sm
  go_enter Try.func90, Try.ntmps90
  go_wp2_with fail
  go_quiet (fail)
  have h2 : Rdr L B (w.drewN nq) p ao len cap a false T := ⟨h.row, h.toks, h.le, h.sm, h.lo⟩
  have hg : w.grownBy (w.drewN nq) (some p) := ⟨rfl, rfl, rfl, Nat.le_refl _, fun _ _ _ => rfl⟩
  generalize w.drewN nq = W at *
  clear f0 f1 f2 f3
  obtain ⟨f0, f1, f2⟩ := box_cells h2.row
  have f3 := row_free h2.row
  have h3 : Rdr L B (W.setCell ⟨p, 1, none⟩ (.int .i64 ((a : Int) + 1))) p ao len cap (a + 1) false T := h2.setA (a + 1) (by omega)
  have hg3 : w.grownBy (W.setCell ⟨p, 1, none⟩ (.int .i64 ((a : Int) + 1))) (some p) := grown_set hg
  go_wp2_with fail
  generalize W.setCell ⟨p, 1, none⟩ (.int .i64 ((a : Int) + 1)) = V at *
  clear f0 f1 f2 f3
  obtain ⟨f0, f1, f2⟩ := box_cells h3.row
  obtain ⟨b, o, rfl, hLb, hbB, hc⟩ := h3.toks.2 a haT
  have HTK : Hid (tk T[a] = .string ⟨T[a].toArray⟩) := rfl
  unfold tk at hc
  have hbV : b < V.heap.size := by have := h3.lt; have := h3.lo; omega
  have hjI : (0 : Int) ≤ (a : Int) := by omega
  have hjl : (a : Int) < (len : Int) := by omega
  have e1 : (((a + 1 : Nat) : Int) - 1) = a := by omega
  have e2 : ((a : Int) + 1 - 1) = a := by omega
  go_quiet (fail)
  go_wp2_with fail
  go_ret
  exact ⟨rfl, ⟨hg3.os, hg3.tape, hg3.output, hg3.size, hg3.block⟩, ⟨h3.row, h3.toks, h3.le, h3.sm, h3.lo⟩⟩

end Go.Proofs.Ytikfbgkjgbdoiaa
