/-
  DERIVED. GIVEN WITH THE SEED: THE CARDS: each row of YtbdpnnfhkhkecaaGreatDoorRows.lean that lists a variable, with what it lists TIED to the program's text (the seventh form; the later family's looks); each row that meets fmt, with fmt's text TOLD by the authors' own Lean function (tested against real Go, not proved from fmt's source: count such statements apart). THE CARD IS WHAT COUNTS. Prove the row's statement (the work); the ties are given (YtbdpnnfhkhkecaaGreatDoorTie.lean); close each card by the builder's one call (the guide's Derived/Test/ToyasCard.lean, 'card_holds'). Laid BY PROGRAM, IN A SANDBOX (cutbox-door.mjs). By AI agents, Wed Nov 11 2026. No macro, syntax, notation, axiom, sorry.
-/
import Derived.Test.YtbdpnnfhkhkecaaGreatDoorRows
import GoSem.ClaimSeven
namespace Go.Proofs.YtbdpnnfhkhkecaaGreatDoor
namespace Rows

/-- THE TIED CARD OF 'laws.FnExactUnlike'. -/
def fnExactUnlikeCard : Claim7 := { stood := { row := fnExactUnlikeRow, standIns := [], harness := (true, "331af3e816f7374bea6a06e8df8807bb6ca112df04ac30f0416fd8746414812f"), looks := true }, kinds := [], alts := [], laidByText := true, laidKinds := [.data, .data, .data], laidTests := true, laidLooks := .later }
def FnExactUnlikeCardSaid : Prop := Claim7.holds Tryz.pinned (.plain (OpenSpec.ofChange fnExactUnlikeSpec)) fnExactUnlikeCard

/-- THE TIED CARD OF 'laws.FnTerms'. -/
def fnTermsCard : Claim7 := { stood := { row := fnTermsRow, standIns := [], harness := (true, "331af3e816f7374bea6a06e8df8807bb6ca112df04ac30f0416fd8746414812f"), looks := true }, kinds := [], alts := [], laidByText := true, laidKinds := [.data, .data, .data], laidTests := true, laidLooks := .later }
def FnTermsCardSaid : Prop := Claim7.holds Tryz.pinned (.plain (OpenSpec.ofChange fnTermsSpec)) fnTermsCard

/-- THE SECOND FORM's CARD OF 'laws.FnExactUnlike'. -/
def fnExactUnlikeUptoCard : Claim7 := { stood := { row := fnExactUnlikeUptoRow, standIns := [], harness := (true, "331af3e816f7374bea6a06e8df8807bb6ca112df04ac30f0416fd8746414812f"), looks := true }, kinds := [], alts := [], laidByText := true, laidKinds := [.data, .data, .data], laidTests := true, laidLooks := .later }
def FnExactUnlikeUptoCardSaid : Prop := Claim7.holds Tryz.pinned (.plain (OpenSpec.upto fnExactUnlikeSpec)) fnExactUnlikeUptoCard

/-- THE SECOND FORM's CARD OF 'laws.FnTerms'. -/
def fnTermsUptoCard : Claim7 := { stood := { row := fnTermsUptoRow, standIns := [], harness := (true, "331af3e816f7374bea6a06e8df8807bb6ca112df04ac30f0416fd8746414812f"), looks := true }, kinds := [], alts := [], laidByText := true, laidKinds := [.data, .data, .data], laidTests := true, laidLooks := .later }
def FnTermsUptoCardSaid : Prop := Claim7.holds Tryz.pinned (.plain (OpenSpec.upto fnTermsSpec)) fnTermsUptoCard
end Rows
end Go.Proofs.YtbdpnnfhkhkecaaGreatDoor
