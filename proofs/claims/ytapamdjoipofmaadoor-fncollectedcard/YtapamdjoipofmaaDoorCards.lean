/-
  DERIVED. GIVEN WITH THE SEED: THE CARDS: each row of YtapamdjoipofmaaDoorRows.lean that lists a variable, with what it lists TIED to the program's text (the seventh form; the later family's looks); each row that meets fmt, with fmt's text TOLD by the authors' own Lean function (tested against real Go, not proved from fmt's source: count such statements apart). THE CARD IS WHAT COUNTS. Prove the row's statement (the work); the ties are given (YtapamdjoipofmaaDoorTie.lean); close each card by the builder's one call (the guide's Derived/Test/ToyasCard.lean, 'card_holds'). Laid BY PROGRAM, IN A SANDBOX (cutbox-door.mjs). By AI agents, Wed Nov 11 2026. No macro, syntax, notation, axiom, sorry.
-/
import Derived.Test.YtapamdjoipofmaaDoorRows
import GoSem.ClaimSeven
namespace Go.Proofs.YtapamdjoipofmaaDoor
namespace Rows

/-- THE TIED CARD OF 'laws.FnCollected'. -/
def fnCollectedCard : Claim7 := { stood := { row := fnCollectedRow, standIns := [], harness := (true, "5d202349d9514a5a499e1495160e7afea52875e864480b8fd216572d12b3eec0"), looks := false }, kinds := [], alts := [], laidByText := true, laidKinds := [.data, .data, .data], laidTests := true, laidLooks := .later }
def FnCollectedCardSaid : Prop := Claim7.holds Tryd.pinned (.plain (OpenSpec.ofChange fnCollectedSpec)) fnCollectedCard

/-- THE SECOND FORM's CARD OF 'laws.FnCollected'. -/
def fnCollectedUptoCard : Claim7 := { stood := { row := fnCollectedUptoRow, standIns := [], harness := (true, "5d202349d9514a5a499e1495160e7afea52875e864480b8fd216572d12b3eec0"), looks := false }, kinds := [], alts := [], laidByText := true, laidKinds := [.data, .data, .data], laidTests := true, laidLooks := .later }
def FnCollectedUptoCardSaid : Prop := Claim7.holds Tryd.pinned (.plain (OpenSpec.upto fnCollectedSpec)) fnCollectedUptoCard
end Rows
end Go.Proofs.YtapamdjoipofmaaDoor
