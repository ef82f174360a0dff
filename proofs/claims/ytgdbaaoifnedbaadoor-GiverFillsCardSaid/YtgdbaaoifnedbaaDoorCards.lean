/-
  DERIVED. GIVEN WITH THE SEED: THE CARDS: each row of YtgdbaaoifnedbaaDoorRows.lean that lists a variable, with what it lists TIED to the program's text (the seventh form; the later family's looks); each row that meets fmt, with fmt's text TOLD by the authors' own Lean function (tested against real Go, not proved from fmt's source: count such statements apart). THE CARD IS WHAT COUNTS. Prove the row's statement (the work); the ties are given (YtgdbaaoifnedbaaDoorTie.lean); close each card by the builder's one call (the guide's Derived/Test/ToyasCard.lean, 'card_holds'). Laid BY PROGRAM, IN A SANDBOX (cutbox-door.mjs). By AI agents, Wed Nov 11 2026. No macro, syntax, notation, axiom, sorry.
-/
import Derived.Test.YtgdbaaoifnedbaaDoorRows
import GoSem.ClaimSeven
namespace Go.Proofs.YtgdbaaoifnedbaaDoor
namespace Rows

/-- THE TIED CARD OF 'switchyardlaw16.GiverSteps'. -/
def giverStepsCard : Claim7 := { stood := { row := giverStepsRow, standIns := [], harness := (true, "0deabbf206335493d1b7f6de1f37dac2db55ee9621a558936850956e57257f05"), looks := false }, kinds := [], alts := [], laidByText := true, laidKinds := [.wider], laidTests := true, laidLooks := .later }
def GiverStepsCardSaid : Prop := Claim7.holds Tryd.pinned (.plain (OpenSpec.ofChange giverStepsSpec)) giverStepsCard

/-- THE TIED CARD OF 'switchyardlaw16.GiverFills'. -/
def giverFillsCard : Claim7 := { stood := { row := giverFillsRow, standIns := [], harness := (true, "0deabbf206335493d1b7f6de1f37dac2db55ee9621a558936850956e57257f05"), looks := false }, kinds := [], alts := [], laidByText := true, laidKinds := [.wider], laidTests := true, laidLooks := .later }
def GiverFillsCardSaid : Prop := Claim7.holds Tryd.pinned (.plain (OpenSpec.ofChange giverFillsSpec)) giverFillsCard

/-- THE TIED CARD OF 'switchyardlaw17.TakerSafe'. -/
def takerSafeCard : Claim7 := { stood := { row := takerSafeRow, standIns := [], harness := (true, "0deabbf206335493d1b7f6de1f37dac2db55ee9621a558936850956e57257f05"), looks := false }, kinds := [], alts := [], laidByText := true, laidKinds := [.wider], laidTests := true, laidLooks := .later }
def TakerSafeCardSaid : Prop := Claim7.holds Tryd.pinned (.plain (OpenSpec.ofChange takerSafeSpec)) takerSafeCard

/-- THE TIED CARD OF 'switchyardlaw17.TakerTakes'. -/
def takerTakesCard : Claim7 := { stood := { row := takerTakesRow, standIns := [], harness := (true, "0deabbf206335493d1b7f6de1f37dac2db55ee9621a558936850956e57257f05"), looks := false }, kinds := [], alts := [], laidByText := true, laidKinds := [.wider], laidTests := true, laidLooks := .later }
def TakerTakesCardSaid : Prop := Claim7.holds Tryd.pinned (.plain (OpenSpec.ofChange takerTakesSpec)) takerTakesCard

/-- THE TIED CARD OF 'switchyardlaw17.TakerNobody'. -/
def takerNobodyCard : Claim7 := { stood := { row := takerNobodyRow, standIns := [], harness := (true, "0deabbf206335493d1b7f6de1f37dac2db55ee9621a558936850956e57257f05"), looks := false }, kinds := [], alts := [], laidByText := true, laidKinds := [.wider], laidTests := true, laidLooks := .later }
def TakerNobodyCardSaid : Prop := Claim7.holds Tryd.pinned (.plain (OpenSpec.ofChange takerNobodySpec)) takerNobodyCard

/-- THE TIED CARD OF 'switchyardlaw17.TakerLinks'. -/
def takerLinksCard : Claim7 := { stood := { row := takerLinksRow, standIns := [], harness := (true, "0deabbf206335493d1b7f6de1f37dac2db55ee9621a558936850956e57257f05"), looks := false }, kinds := [], alts := [], laidByText := true, laidKinds := [.wider], laidTests := true, laidLooks := .later }
def TakerLinksCardSaid : Prop := Claim7.holds Tryd.pinned (.plain (OpenSpec.ofChange takerLinksSpec)) takerLinksCard

/-- THE SECOND FORM's CARD OF 'switchyardlaw16.GiverSteps'. -/
def giverStepsUptoCard : Claim7 := { stood := { row := giverStepsUptoRow, standIns := [], harness := (true, "0deabbf206335493d1b7f6de1f37dac2db55ee9621a558936850956e57257f05"), looks := false }, kinds := [], alts := [], laidByText := true, laidKinds := [.wider], laidTests := true, laidLooks := .later }
def GiverStepsUptoCardSaid : Prop := Claim7.holds Tryd.pinned (.plain (OpenSpec.upto giverStepsSpec)) giverStepsUptoCard

/-- THE SECOND FORM's CARD OF 'switchyardlaw16.GiverFills'. -/
def giverFillsUptoCard : Claim7 := { stood := { row := giverFillsUptoRow, standIns := [], harness := (true, "0deabbf206335493d1b7f6de1f37dac2db55ee9621a558936850956e57257f05"), looks := false }, kinds := [], alts := [], laidByText := true, laidKinds := [.wider], laidTests := true, laidLooks := .later }
def GiverFillsUptoCardSaid : Prop := Claim7.holds Tryd.pinned (.plain (OpenSpec.upto giverFillsSpec)) giverFillsUptoCard

/-- THE SECOND FORM's CARD OF 'switchyardlaw17.TakerSafe'. -/
def takerSafeUptoCard : Claim7 := { stood := { row := takerSafeUptoRow, standIns := [], harness := (true, "0deabbf206335493d1b7f6de1f37dac2db55ee9621a558936850956e57257f05"), looks := false }, kinds := [], alts := [], laidByText := true, laidKinds := [.wider], laidTests := true, laidLooks := .later }
def TakerSafeUptoCardSaid : Prop := Claim7.holds Tryd.pinned (.plain (OpenSpec.upto takerSafeSpec)) takerSafeUptoCard

/-- THE SECOND FORM's CARD OF 'switchyardlaw17.TakerTakes'. -/
def takerTakesUptoCard : Claim7 := { stood := { row := takerTakesUptoRow, standIns := [], harness := (true, "0deabbf206335493d1b7f6de1f37dac2db55ee9621a558936850956e57257f05"), looks := false }, kinds := [], alts := [], laidByText := true, laidKinds := [.wider], laidTests := true, laidLooks := .later }
def TakerTakesUptoCardSaid : Prop := Claim7.holds Tryd.pinned (.plain (OpenSpec.upto takerTakesSpec)) takerTakesUptoCard

/-- THE SECOND FORM's CARD OF 'switchyardlaw17.TakerNobody'. -/
def takerNobodyUptoCard : Claim7 := { stood := { row := takerNobodyUptoRow, standIns := [], harness := (true, "0deabbf206335493d1b7f6de1f37dac2db55ee9621a558936850956e57257f05"), looks := false }, kinds := [], alts := [], laidByText := true, laidKinds := [.wider], laidTests := true, laidLooks := .later }
def TakerNobodyUptoCardSaid : Prop := Claim7.holds Tryd.pinned (.plain (OpenSpec.upto takerNobodySpec)) takerNobodyUptoCard

/-- THE SECOND FORM's CARD OF 'switchyardlaw17.TakerLinks'. -/
def takerLinksUptoCard : Claim7 := { stood := { row := takerLinksUptoRow, standIns := [], harness := (true, "0deabbf206335493d1b7f6de1f37dac2db55ee9621a558936850956e57257f05"), looks := false }, kinds := [], alts := [], laidByText := true, laidKinds := [.wider], laidTests := true, laidLooks := .later }
def TakerLinksUptoCardSaid : Prop := Claim7.holds Tryd.pinned (.plain (OpenSpec.upto takerLinksSpec)) takerLinksUptoCard
end Rows
end Go.Proofs.YtgdbaaoifnedbaaDoor
