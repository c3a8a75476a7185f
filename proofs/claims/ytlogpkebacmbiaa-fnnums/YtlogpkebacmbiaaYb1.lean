/-
  Rows of bytes: counted, copied, held against each other, marked, and looked at.
-/
import Derived.Test.YtlogpkebacmbiaaRw
import Derived.Deep.QuietTactic
import Derived.BigQuiet
namespace Go.Proofs.Ytlogpkebacmbiaa
open Go.RowKit
set_option linter.unusedVariables false
set_option linter.unusedSimpArgs false

/-- A slice (its address, its length) holds these bytes, in a block from L on and below B. -/
def Bs (L B : Nat) (w : World) (ao : Option Addr) (len : Nat) (l : List Int) : Prop :=
  len = l.length ∧ len ≤ 9223372036854775807 ∧ ∀ i (_ : i < l.length), ∃ b o, ao = some ⟨b, o, none⟩ ∧ L ≤ b ∧ b < B ∧ w.cell? ⟨b, o + i, none⟩ = some (.int .u8 l[i])

theorem Bs.keep {L B L' B' : Nat} {w w' : World} (hb : ∀ k, L ≤ k → k < B → w'.heap[k]? = w.heap[k]?) (hL : L' ≤ L) (hB : B ≤ B') {ao : Option Addr} {len : Nat} {l : List Int} (h : Bs L B w ao len l) : Bs L' B' w' ao len l := by
  refine ⟨h.1, h.2.1, fun i hi => ?_⟩
  obtain ⟨b, o, e, h1, h2, h3⟩ := h.2.2 i hi
  exact ⟨b, o, e, by omega, by omega, (World.cell?_of_block (hb b h1 h2)).trans h3⟩
theorem Bs.below {L B : Nat} {w w' : World} (hb : Below w.heap.size w w') (hB : B ≤ w.heap.size) {ao : Option Addr} {len : Nat} {l : List Int} (h : Bs L B w ao len l) : Bs L B w' ao len l :=
  h.keep (fun k _ hk => hb.block k (by omega)) (Nat.le_refl _) (Nat.le_refl _)
theorem Bs.drew {L B : Nat} {w : World} {ao : Option Addr} {len : Nat} {l : List Int} (h : Bs L B w ao len l) : Bs L B w.drew ao len l := h.keep (w := w) (w' := w.drew) (fun _ _ _ => rfl) (Nat.le_refl _) (Nat.le_refl _)

theorem Try.infoU8 : (Try.prog.info? 5).map (fun i => (i.zero, i.size, i.bytes)) = some (some (.int .u8 0), 1, 1) := by kernel_rfl

/-- A byte of a row at its place. -/
def EB (l : List Int) (W : World) (b o i : Nat) : Prop := ∀ h : i < l.length, W.cell? ⟨b, o, none⟩ = some (.int .u8 l[i])
theorem EB_stays (l : List Int) (b : Nat) : Stays 1 (EB l) b := by
  intro W W' i h h1 _ _ hi
  exact (h1 (i * 1) (Nat.le_refl _) (by omega)).trans (h hi)

set_option maxHeartbeats 400000 in
theorem toByteS_any (L B : Nat) (ao : Option Addr) (len cap : Nat) (l : List Int) (w : World) (hB : B ≤ w.heap.size) (hs : Bs L B w ao len l) (hl : len ≤ 1048576) :
    Calls Try.prog 7 #[.slice ao len cap] w fun e w' => ∃ g, e = .returned (.slice (some ⟨g, 0, none⟩) len len) ∧ Below w.heap.size w w' ∧ Bs w.heap.size w'.heap.size w' (some ⟨g, 0, none⟩) len l := by
  have HL : Hid (len = l.length) := hs.1
  obtain ⟨i0, hi, hz0, hz1, hz2⟩ := info_parts Try.infoU8
  have hmk : ∃ C : Array Value, C.size = len * 1 ∧ ∀ w : World, (Instr.makeSlice 22 (.int .i64 (len : Int)) (.int .i64 (len : Int))).run Try.prog w = .ok (.slice (some ⟨w.heap.size, 0, none⟩) len len) (w.alloc (.cells C 5)) := by
    refine ⟨madeCells (Value.cells (.int .u8 0)) (len * 1), ?_, fun w => ?_⟩
    · exact size_madeCells _ _
    · have := run_make (P := Try.prog) (w := w) 22 5 i0 _ Try.underlying22 hi hz0 .i64 .i64 (len : Int) (len : Int) (by omega) (by omega) (by rw [hz2]; omega) (by omega)
      rw [hz1] at this
      simpa using this
  obtain ⟨C, hC, hmk⟩ := hmk
  go_enter Try.func7, Try.ntmps7
  go_wp2_with fail
  go_loopw [4] (fun i wr => ∃ k : Nat, k ≤ len ∧ i = .int .i64 k ∧ ToR 1 5 (EB l) w wr len k) (fun i _ => len - (intOf i).toNat)
  case atStart => exact ⟨0, by omega, rfl, ⟨(Below.refl _ _).alloc (Nat.le_refl _) _, ⟨C, heap_alloc_new _ _, hC⟩, fun i hi => by omega⟩⟩
  case round =>
    obtain ⟨k, hk, rfl, hR⟩ := hrel
    by_cases hlt : k < len
    · have hlt' : k < l.length := by have := HL.out; omega
      have hbel := hR.bel
      have hsz := hbel.size
      obtain ⟨b, o, rfl, _, hbB, c0⟩ := hs.2.2 k hlt'
      have e0 := (bcell hbel (by omega) _).trans c0
      have hN := hR.next hlt (Below.refl _ _) [.int .u8 l[k]] rfl (EB_stays l _) (fun W' h1 _ _ hi => by have := h1 0 (by simp); simpa using this)
      obtain ⟨⟨u, f0⟩, r0⟩ := hR.cell (Below.refl _ _) hlt 0 (by omega)
      rw [Nat.add_zero] at f0 r0
      rw [Nat.mul_one] at hN f0 r0
      simp only [setL] at hN
      clear hR
      go_wp2_with fail
      go_roundw
      case rel => exact ⟨k + 1, by omega, by go_num, hN⟩
      case measure => simp [intOf]; omega
    · go_wp2_with fail
      go_ret
      refine ⟨_, rfl, hR.bel, ?_⟩
      have := HL.out
      refine ⟨this, by omega, fun i hi => ⟨_, _, rfl, Nat.le_refl _, hR.lt, ?_⟩⟩
      have := hR.els i (by omega) hi
      rw [Nat.mul_one] at this
      rw [Nat.zero_add]
      exact this

theorem below_drewB {B : Nat} {w wr : World} (h : Below B w wr) (n : Nat) : Below B w (wr.drewN n) := ⟨h.os, h.tape, h.output, h.size, h.block⟩

set_option maxHeartbeats 400000 in
theorem eqByteS_any (L B L' B' : Nat) (ao : Option Addr) (len cap : Nat) (ao' : Option Addr) (len' cap' : Nat) (l : List Int) (w : World) (hB : B ≤ w.heap.size) (hB' : B' ≤ w.heap.size) (hs : Bs L B w ao len l) (hs' : Bs L' B' w ao' len' l) :
    Calls Try.prog 9 #[.slice ao len cap, .slice ao' len' cap'] w fun e w' => e = .returned (.bool true) ∧ Below w.heap.size w w' := by
  have hl := hs.2.1
  have HL : Hid (len = l.length) := hs.1
  obtain rfl : len' = len := by rw [hs.1, hs'.1]
  go_enter Try.func9, Try.ntmps9
  go_wp2_with fail
  go_loopw [5] (fun i wr => ∃ k : Nat, k ≤ len' ∧ i = .int .i64 k ∧ Below w.heap.size w wr) (fun i _ => len' - (intOf i).toNat)
  case atStart => exact ⟨0, by omega, rfl, Below.refl _ _⟩
  case round =>
    obtain ⟨k, hk, rfl, hbel⟩ := hrel
    have hsz := hbel.size
    by_cases hlt : k < len'
    · have hlt1 : k < l.length := by have := HL.out; omega
      obtain ⟨b, o, rfl, _, hbB, c0⟩ := hs.2.2 k hlt1
      obtain ⟨b', o', rfl, _, hbB', c0'⟩ := hs'.2.2 k hlt1
      have e0 := (bcell hbel (by omega) _).trans c0
      have e0' := (bcell hbel (by omega) _).trans c0'
      generalize l[k] = x at *
      clear c0 c0'
      go_wp2_with fail
      go_quiet (fail)
      go_wp2_with fail
      go_roundw
      case rel => exact ⟨k + 1, by omega, by go_num, below_drewB hbel _⟩
      case measure => simp [intOf]; omega
    · go_wp2_with fail
      go_ret
      exact ⟨rfl, hbel⟩

end Go.Proofs.Ytlogpkebacmbiaa
