/-
  DERIVED. GIVEN WITH THE SEED: THE CARDS: each row of YtfjbgbnhjejchaaDoorRows.lean that lists a variable, with what it lists TIED to the program's text (the seventh form; the later family's looks); each row that meets fmt, with fmt's text TOLD by the authors' own Lean function (tested against real Go, not proved from fmt's source: count such statements apart). THE CARD IS WHAT COUNTS. Prove the row's statement (the work); the ties are given (YtfjbgbnhjejchaaDoorTie.lean); close each card by the builder's one call (the guide's Derived/Test/ToyasCard.lean, 'card_holds'). Laid BY PROGRAM, IN A SANDBOX (cutbox-door.mjs). By AI agents, Wed Nov 11 2026. No macro, syntax, notation, axiom, sorry.
-/
import Derived.Test.YtfjbgbnhjejchaaDoorRows
import GoSem.ClaimSeven
namespace Go.Proofs.YtfjbgbnhjejchaaDoor
namespace Rows

/-- THE TIED CARD OF 'laws.FnExactTyText'. -/
def fnExactTyTextCard : Claim7 := { stood := { row := fnExactTyTextRow, standIns := [], harness := (true, "f6fd42b6dd6030c609dc53be9d73637281c541df15a2e192920f009c818eee1b"), looks := false }, kinds := [], alts := [], laidByText := true, laidKinds := [.data, .data, .data], laidTests := true, laidLooks := .later }
def FnExactTyTextCardSaid : Prop := Claim7.holds Tryd.pinned (.plain (OpenSpec.ofChange fnExactTyTextSpec)) fnExactTyTextCard

/-- THE TIED CARD OF 'laws.FnTypes'. -/
def fnTypesCard : Claim7 := { stood := { row := fnTypesRow, standIns := [], harness := (true, "f6fd42b6dd6030c609dc53be9d73637281c541df15a2e192920f009c818eee1b"), looks := false }, kinds := [], alts := [], laidByText := true, laidKinds := [.data, .data, .data], laidTests := true, laidLooks := .later }
def FnTypesCardSaid : Prop := Claim7.holds Tryd.pinned (.plain (OpenSpec.ofChange fnTypesSpec)) fnTypesCard

/-- THE SECOND FORM's CARD OF 'laws.FnExactTyText'. -/
def fnExactTyTextUptoCard : Claim7 := { stood := { row := fnExactTyTextUptoRow, standIns := [], harness := (true, "f6fd42b6dd6030c609dc53be9d73637281c541df15a2e192920f009c818eee1b"), looks := false }, kinds := [], alts := [], laidByText := true, laidKinds := [.data, .data, .data], laidTests := true, laidLooks := .later }
def FnExactTyTextUptoCardSaid : Prop := Claim7.holds Tryd.pinned (.plain (OpenSpec.upto fnExactTyTextSpec)) fnExactTyTextUptoCard

/-- THE SECOND FORM's CARD OF 'laws.FnTypes'. -/
def fnTypesUptoCard : Claim7 := { stood := { row := fnTypesUptoRow, standIns := [], harness := (true, "f6fd42b6dd6030c609dc53be9d73637281c541df15a2e192920f009c818eee1b"), looks := false }, kinds := [], alts := [], laidByText := true, laidKinds := [.data, .data, .data], laidTests := true, laidLooks := .later }
def FnTypesUptoCardSaid : Prop := Claim7.holds Tryd.pinned (.plain (OpenSpec.upto fnTypesSpec)) fnTypesUptoCard
end Rows
end Go.Proofs.YtfjbgbnhjejchaaDoor
