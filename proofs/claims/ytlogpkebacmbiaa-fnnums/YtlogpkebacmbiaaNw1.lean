/-
  What the model's 'l1New' comes to: a cursor over the bytes.
-/
import Derived.Test.YtlogpkebacmbiaaDr0
namespace Go.Proofs.Ytlogpkebacmbiaa
open Go.RowKit
set_option linter.unusedVariables false
set_option linter.unusedSimpArgs false

/-- Bytes that lie in memory. -/
def Bts (w : World) (cao : Option Addr) (clen : Nat) : Prop := ∀ j, j < clen → ∃ b o x, cao = some ⟨b, o, none⟩ ∧ b < w.heap.size ∧ w.cell? ⟨b, o + j, none⟩ = some (.int .u8 x) ∧ 0 ≤ x ∧ x ≤ 255

set_option maxRecDepth 100000 in
set_option maxHeartbeats 1000000 in
theorem l1New_any (cao : Option Addr) (clen ccap : Nat) (w : World) (hb : Bts w cao clen) (hl : clen ≤ 1048576) :
    Calls Try.prog 22 #[.slice cao clen ccap] w fun e w' => ∃ p, e = .returned (.pointer (some ⟨p, 0, none⟩)) ∧ Below w.heap.size w w' ∧ w.heap.size ≤ p ∧ Cur w' p cao clen ccap := by
  go_enter Try.func22, Try.ntmps22
  go_wp2_with fail
  go_loopw [3, 4] (fun hv i wr => ∃ (x : Int) (j : Nat), j ≤ clen ∧ hv = .int .i64 x ∧ i = .int .i64 j ∧ wr = w) (fun _ i _ => clen - (intOf i).toNat)
  case atStart => exact ⟨_, 0, by omega, rfl, rfl, rfl⟩
  case round =>
    obtain ⟨x, j, hj, rfl, rfl, rfl⟩ := hrel
    by_cases hlt : j < clen
    · by_cases hlt2 : j < 4000
      · obtain ⟨b, o, y, rfl, hbw, hy, hy0, hy1⟩ := hb j hlt
        go_wp2_with fail
        go_roundw
        case rel => exact ⟨_, j + 1, by omega, rfl, by go_num, by first | rfl | trivial⟩
        case measure => simp [intOf]; omega
      · go_wp2_with fail
        go_ret
        refine ⟨wr.heap.size, rfl, (Below.refl _ _).alloc (Nat.le_refl _) _, Nat.le_refl _, ⟨0, x, heap_new rfl, by omega, by omega⟩, fun q hq => ?_, hl⟩
        obtain ⟨b, o, y, e, hbw, hy, hy0⟩ := hb q hq
        exact ⟨b, o, y, e, hbw, (World.cell?_of_block (Below.heap_alloc _ _ _ hbw)).trans hy, hy0⟩
    · go_wp2_with fail
      go_ret
      refine ⟨wr.heap.size, rfl, (Below.refl _ _).alloc (Nat.le_refl _) _, Nat.le_refl _, ⟨0, x, heap_new rfl, by omega, by omega⟩, fun q hq => ?_, hl⟩
      obtain ⟨b, o, y, e, hbw, hy, hy0⟩ := hb q hq
      exact ⟨b, o, y, e, hbw, (World.cell?_of_block (Below.heap_alloc _ _ _ hbw)).trans hy, hy0⟩

end Go.Proofs.Ytlogpkebacmbiaa
