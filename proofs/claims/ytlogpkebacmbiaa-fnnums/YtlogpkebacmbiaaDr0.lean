/-
  What the model's draws ('l1Byte', 'l1Below', 'l1Once', 'l1Int') come to: a number in its bounds; the cursor is moved on, nothing else is changed.
-/
import Derived.Test.YtlogpkebacmbiaaTr
import Derived.Deep.RegionWith
import Derived.Deep.QuietTactic
import Derived.BigQuiet
namespace Go.Proofs.Ytlogpkebacmbiaa
open Go.RowKit
set_option linter.unusedVariables false
set_option linter.unusedSimpArgs false

theorem i64_and255 (n : Int) : bits .and .i64 n 255 = n % 256 := by
  have h127 : (BitVec.ofInt 64 255).toNat = 2 ^ 8 - 1 := by decide
  have key : (BitVec.ofInt 64 n &&& BitVec.ofInt 64 255).toNat = (n % ((2 ^ 64 : Nat) : Int)).toNat % 2 ^ 8 := by
    rw [BitVec.toNat_and, BitVec.toNat_ofInt, h127, Nat.and_two_pow_sub_one_eq_mod]
  show IntKind.i64.wrap ((BitVec.ofInt 64 n &&& BitVec.ofInt 64 255).toNat : Nat) = n % 256
  rw [key, IntKind.wrap_i64]
  omega
theorem and255_bd (n : Int) : 0 ≤ bits .and .i64 n 255 ∧ bits .and .i64 n 255 ≤ 255 := by rw [i64_and255]; omega

/-- A cursor in block p over clen bytes. -/
structure Cur (w : World) (p : Nat) (cao : Option Addr) (clen ccap : Nat) : Prop where
  row : ∃ i h : Int, w.heap[p]? = some (.cells #[.slice cao clen ccap, .int .i64 i, .int .i64 h] 46 (0, 0)) ∧ 0 ≤ i ∧ i ≤ clen
  bytes : ∀ j, j < clen → ∃ b o x, cao = some ⟨b, o, none⟩ ∧ b < p ∧ w.cell? ⟨b, o + j, none⟩ = some (.int .u8 x) ∧ 0 ≤ x ∧ x ≤ 255
  small : clen ≤ 1048576

theorem Cur.lt {w : World} {p : Nat} {cao : Option Addr} {clen ccap : Nat} (h : Cur w p cao clen ccap) : p < w.heap.size := by
  obtain ⟨i, hh, hr, _⟩ := h.row
  exact (Array.getElem?_eq_some_iff.1 hr).1
theorem Cur.keep {w w' : World} {p : Nat} {cao : Option Addr} {clen ccap : Nat} (h : Cur w p cao clen ccap) (hb : ∀ k, k ≤ p → w'.heap[k]? = w.heap[k]?) : Cur w' p cao clen ccap := by
  refine ⟨?_, fun j hj => ?_, h.small⟩
  · obtain ⟨i, hh, hr, r⟩ := h.row
    exact ⟨i, hh, (hb p (Nat.le_refl _)).trans hr, r⟩
  · obtain ⟨b, o, x, e, hbp, hx, r⟩ := h.bytes j hj
    exact ⟨b, o, x, e, hbp, (World.cell?_of_block (hb b (by omega))).trans hx, r⟩
theorem Cur.below {w w' : World} {p : Nat} {cao : Option Addr} {clen ccap : Nat} (h : Cur w p cao clen ccap) (hb : Below w.heap.size w w') : Cur w' p cao clen ccap := h.keep fun k hk => hb.block k (by have := h.lt; omega)

/-- What a draw leaves: all but the cursor's block as it was (and new blocks). -/
structure Drw (w w' : World) (p : Nat) (cao : Option Addr) (clen ccap : Nat) : Prop where
  grown : w.grownBy w' (some p)
  cur : Cur w' p cao clen ccap

theorem grown_refl' (w : World) (r : Option Nat) : w.grownBy w r := ⟨rfl, rfl, rfl, Nat.le_refl _, fun _ _ _ => rfl⟩
theorem grown_trans' {a b c : World} {r : Option Nat} (h : a.grownBy b r) (k : b.grownBy c r) : a.grownBy c r :=
  ⟨k.os.trans h.os, k.tape.trans h.tape, k.output.trans h.output, Nat.le_trans h.size k.size, fun i hi hr => (k.block i (Nat.lt_of_lt_of_le hi h.size) hr).trans (h.block i hi hr)⟩
theorem grown_below {a b : World} (r : Option Nat) (h : Below a.heap.size a b) : a.grownBy b r := ⟨h.os, h.tape, h.output, h.size, fun k hk _ => h.block k hk⟩
theorem Drw.trans {a b c : World} {p : Nat} {cao : Option Addr} {clen ccap : Nat} (h : Drw a b p cao clen ccap) (k : Drw b c p cao clen ccap) : Drw a c p cao clen ccap := ⟨grown_trans' h.grown k.grown, k.cur⟩

theorem byte_world {w : World} {p : Nat} {cao : Option Addr} {clen ccap : Nat} {i h : Int} (hc : Cur w p cao clen ccap) (hr : w.heap[p]? = some (.cells #[.slice cao clen ccap, .int .i64 i, .int .i64 h] 46 (0, 0))) (h' : Int) (nq : Nat) (hi : 0 ≤ i ∧ i ≤ clen) :
    Drw w ((w.setCell ⟨p, 2, none⟩ (.int .i64 h')).drewN nq) p cao clen ccap := by
  refine ⟨⟨rfl, rfl, rfl, by show _ ≤ (w.setCell _ _).heap.size; simp, fun k hk hne => ?_⟩, ?_, fun j hj => ?_, hc.small⟩
  · show (w.setCell ⟨p, 2, none⟩ (.int .i64 h')).heap[k]? = _
    exact row_other _ _ _ (by simpa using hne)
  · refine ⟨i, h', ?_, hi⟩
    show (w.setCell ⟨p, 2, none⟩ (.int .i64 h')).heap[p]? = _
    rw [row_set hr]
    rfl
  · obtain ⟨b, o, x, e, hbp, hx, r⟩ := hc.bytes j hj
    refine ⟨b, o, x, e, hbp, ?_, r⟩
    show (w.setCell ⟨p, 2, none⟩ (.int .i64 h')).cell? _ = _
    exact (World.cell?_of_block (row_other _ _ _ (by show b ≠ p; omega))).trans hx

theorem byte_world2 {w : World} {p : Nat} {cao : Option Addr} {clen ccap : Nat} {i h : Int} (hc : Cur w p cao clen ccap) (hr : w.heap[p]? = some (.cells #[.slice cao clen ccap, .int .i64 i, .int .i64 h] 46 (0, 0))) (i' : Int) (hi : 0 ≤ i' ∧ i' ≤ clen) :
    Drw w (w.setCell ⟨p, 1, none⟩ (.int .i64 i')) p cao clen ccap := by
  refine ⟨⟨rfl, rfl, rfl, by simp, fun k hk hne => row_other _ _ _ (by simpa using hne)⟩, ?_, fun j hj => ?_, hc.small⟩
  · refine ⟨i', h, ?_, hi⟩
    rw [row_set hr]
    rfl
  · obtain ⟨b, o, x, e, hbp, hx, r⟩ := hc.bytes j hj
    exact ⟨b, o, x, e, hbp, (World.cell?_of_block (row_other _ _ _ (by show b ≠ p; omega))).trans hx, r⟩

theorem byte_row {w : World} {p : Nat} {cao : Option Addr} {clen ccap : Nat} {i h : Int} (hr : w.heap[p]? = some (.cells #[.slice cao clen ccap, .int .i64 i, .int .i64 h] 46 (0, 0))) (h' : Int) (nq : Nat) :
    ((w.setCell ⟨p, 2, none⟩ (.int .i64 h')).drewN nq).heap[p]? = some (.cells #[.slice cao clen ccap, .int .i64 i, .int .i64 h'] 46 (0, 0)) := by
  show (w.setCell ⟨p, 2, none⟩ (.int .i64 h')).heap[p]? = _
  rw [row_set hr]
  rfl
theorem Drw.drewN {w w' : World} {p : Nat} {cao : Option Addr} {clen ccap : Nat} (h : Drw w w' p cao clen ccap) (n : Nat) : Drw w (w'.drewN n) p cao clen ccap :=
  ⟨⟨h.grown.os, h.grown.tape, h.grown.output, h.grown.size, h.grown.block⟩, h.cur.keep (w' := w'.drewN n) (fun _ _ => rfl)⟩

set_option maxHeartbeats 2000000 in
theorem l1Byte_any (p : Nat) (cao : Option Addr) (clen ccap : Nat) (w : World) (hc : Cur w p cao clen ccap) :
    Calls Try.prog 27 #[.pointer (some ⟨p, 0, none⟩)] w fun e w' => ∃ x : Int, e = .returned (.int .i64 x) ∧ 0 ≤ x ∧ x ≤ 255 ∧ Drw w w' p cao clen ccap := by
  obtain ⟨i, h, hr, hi0, hi1⟩ := hc.row
  obtain ⟨c0, c1, c2⟩ := box_cells hr
  have r2 := row_free hr 2
  have r1 := row_free hr 1
  have hsm := hc.small
  by_cases hlt : i < clen
  · obtain ⟨b, o, x, rfl, hbp, hx, hx0, hx1⟩ := hc.bytes i.toNat (by omega)
    have hbne : ¬ p = b := by omega
    go_enter Try.func27, Try.ntmps27
    go_wp2_with fail
    go_quiet (fail)
    go_wp2_with fail
    generalize hbx : bits BinOp.and IntKind.i64 _ 255 = bx
    have hb0 : 0 ≤ bx ∧ bx ≤ 255 := by rw [← hbx]; exact and255_bd _
    clear hbx
    obtain ⟨hb0, hb1⟩ := hb0
    generalize wrap64 (wrap64 (h * 6364136223846793005) + 1442695040888963407) = h'
    go_quiet (fail)
    go_wp2_with fail
    go_quiet (fail)
    go_wp2_with fail
    go_ret
    refine ⟨_, rfl, (and255_bd _).1, (and255_bd _).2, ?_⟩
    have hD := fun q => byte_world hc hr h' q ⟨hi0, hi1⟩
    exact (hD _).trans (byte_world2 (hD _).cur (byte_row hr h' _) (i + 1) ⟨by omega, by omega⟩)
  · go_enter Try.func27, Try.ntmps27
    go_wp2_with fail
    go_quiet (fail)
    go_wp2_with fail
    generalize hbx : bits BinOp.and IntKind.i64 _ 255 = bx
    have hb0 : 0 ≤ bx ∧ bx ≤ 255 := by rw [← hbx]; exact and255_bd _
    clear hbx
    obtain ⟨hb0, hb1⟩ := hb0
    generalize wrap64 (wrap64 (h * 6364136223846793005) + 1442695040888963407) = h'
    go_quiet (fail)
    go_wp2_with fail
    go_ret
    exact ⟨_, rfl, hb0, hb1, (byte_world hc hr h' _ ⟨hi0, hi1⟩).drewN _⟩

set_option maxHeartbeats 400000 in
theorem l1Below_any (p : Nat) (cao : Option Addr) (clen ccap : Nat) (n : Int) (w : World) (hc : Cur w p cao clen ccap) (h1 : 0 < n) (h2 : n ≤ 256) :
    Calls Try.prog 24 #[.pointer (some ⟨p, 0, none⟩), .int .i64 n] w fun e w' => ∃ x : Int, e = .returned (.int .i64 x) ∧ 0 ≤ x ∧ x < n ∧ Drw w w' p cao clen ccap := by
  go_enter Try.func24, Try.ntmps24
  go_wp2_with fail
  refine (l1Byte_any p cao clen ccap _ hc).mono ?_
  rintro e w1 ⟨x, rfl, hx0, hx1, hD⟩
  go_wp2_with fail
  go_ret
  exact ⟨_, rfl, Int.emod_nonneg _ (by omega), Int.emod_lt_of_pos _ h1, hD⟩

/-- One of a row of numbers that lies in block g, another one than the cursor's. -/
theorem l1Int_any (p : Nat) (cao : Option Addr) (clen ccap g len cap : Nat) (zs : List Int) (w : World) (hc : Cur w p cao clen ccap) (hg : w.heap[g]? = some (.cells ((zs.map (Value.int .i64)).toArray) 3 (0, 0))) (hgp : g ≠ p) (hl : len = zs.length) (h1 : 0 < len) (h2 : len ≤ 256) :
    Calls Try.prog 25 #[.pointer (some ⟨p, 0, none⟩), .slice (some ⟨g, 0, none⟩) len cap] w fun e w' => ∃ x : Int, e = .returned (.int .i64 x) ∧ x ∈ zs ∧ Drw w w' p cao clen ccap := by
  have hgl : g < w.heap.size := (Array.getElem?_eq_some_iff.1 hg).1
  have HL : Hid (len = zs.length) := hl
  clear hl
  go_enter Try.func25, Try.ntmps25
  go_wp2_with fail
  refine (l1Below_any p cao clen ccap len _ hc (by omega) (by omega)).mono ?_
  rintro e w1 ⟨x, rfl, hx0, hx1, hD⟩
  have hg1 := (hD.grown.block g hgl (by simpa using hgp)).trans hg
  have hxl : x.toNat < zs.length := by have := HL.out; omega
  have hc1 : w1.cell? ⟨g, x.toNat, none⟩ = some (.int .i64 (zs[x.toNat]'hxl)) := by
    rw [row_cell hg1]
    simp [hxl]
  have hm : zs[x.toNat]'hxl ∈ zs := List.getElem_mem hxl
  clear hg1 hg
  generalize zs[x.toNat]'hxl = z at hc1 hm
  have HM : Hid (z ∈ zs) := hm
  clear hm
  go_wp2_with fail
  go_ret
  exact ⟨_, rfl, HM.out, hD⟩

end Go.Proofs.Ytlogpkebacmbiaa
