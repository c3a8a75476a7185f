/-
  DERIVED. GIVEN WITH THE SEED: THE CARDS: each row of YtgljlgiebmnekaaGreatDoorRows.lean that lists a variable, with what it lists TIED to the program's text (the seventh form; the later family's looks); each row that meets fmt, with fmt's text TOLD by the authors' own Lean function (tested against real Go, not proved from fmt's source: count such statements apart). THE CARD IS WHAT COUNTS. Prove the row's statement (the work); the ties are given (YtgljlgiebmnekaaGreatDoorTie.lean); close each card by the builder's one call (the guide's Derived/Test/ToyasCard.lean, 'card_holds'). Laid BY PROGRAM, IN A SANDBOX (cutbox-door.mjs). By AI agents, Wed Nov 11 2026. No macro, syntax, notation, axiom, sorry.
-/
import Derived.Test.YtgljlgiebmnekaaGreatDoorRows
import GoSem.ClaimSeven
namespace Go.Proofs.YtgljlgiebmnekaaGreatDoor
namespace Rows

/-- THE TIED CARD OF 'laws.FnExactUnlike'. -/
def fnExactUnlikeCard : Claim7 := { stood := { row := fnExactUnlikeRow, standIns := [], harness := (true, "d1af41ac613f4412db4b0f3a0b7fc174f934fdb800fbdc175b496349d0119279"), looks := true }, kinds := [], alts := [], laidByText := true, laidKinds := [.data, .data, .data], laidTests := true, laidLooks := .later }
def FnExactUnlikeCardSaid : Prop := Claim7.holds Tryz.pinned (.plain (OpenSpec.ofChange fnExactUnlikeSpec)) fnExactUnlikeCard

/-- THE SECOND FORM's CARD OF 'laws.FnExactUnlike'. -/
def fnExactUnlikeUptoCard : Claim7 := { stood := { row := fnExactUnlikeUptoRow, standIns := [], harness := (true, "d1af41ac613f4412db4b0f3a0b7fc174f934fdb800fbdc175b496349d0119279"), looks := true }, kinds := [], alts := [], laidByText := true, laidKinds := [.data, .data, .data], laidTests := true, laidLooks := .later }
def FnExactUnlikeUptoCardSaid : Prop := Claim7.holds Tryz.pinned (.plain (OpenSpec.upto fnExactUnlikeSpec)) fnExactUnlikeUptoCard
end Rows
end Go.Proofs.YtgljlgiebmnekaaGreatDoor
