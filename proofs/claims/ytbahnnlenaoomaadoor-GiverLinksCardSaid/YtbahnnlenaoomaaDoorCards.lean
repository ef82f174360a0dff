/-
  DERIVED. GIVEN WITH THE SEED: THE CARDS: each row of YtbahnnlenaoomaaDoorRows.lean that lists a variable, with what it lists TIED to the program's text (the seventh form; the later family's looks); each row that meets fmt, with fmt's text TOLD by the authors' own Lean function (tested against real Go, not proved from fmt's source: count such statements apart). THE CARD IS WHAT COUNTS. Prove the row's statement (the work); the ties are given (YtbahnnlenaoomaaDoorTie.lean); close each card by the builder's one call (the guide's Derived/Test/ToyasCard.lean, 'card_holds'). Laid BY PROGRAM, IN A SANDBOX (cutbox-door.mjs). By AI agents, Wed Nov 11 2026. No macro, syntax, notation, axiom, sorry.
-/
import Derived.Test.YtbahnnlenaoomaaDoorRows
import GoSem.ClaimSeven
namespace Go.Proofs.YtbahnnlenaoomaaDoor
namespace Rows

/-- THE TIED CARD OF 'switchyardlaw16.GiverSteps'. -/
def giverStepsCard : Claim7 := { stood := { row := giverStepsRow, standIns := [], harness := (true, "790ad333142c94cc500f2fb9c1539ecce229408348050f9901a92c32fda9cfaa"), looks := false }, kinds := [], alts := [], laidByText := true, laidKinds := [.wider], laidTests := true, laidLooks := .later }
def GiverStepsCardSaid : Prop := Claim7.holds Tryd.pinned (.plain (OpenSpec.ofChange giverStepsSpec)) giverStepsCard

/-- THE TIED CARD OF 'switchyardlaw16.GiverSafe'. -/
def giverSafeCard : Claim7 := { stood := { row := giverSafeRow, standIns := [], harness := (true, "790ad333142c94cc500f2fb9c1539ecce229408348050f9901a92c32fda9cfaa"), looks := false }, kinds := [], alts := [], laidByText := true, laidKinds := [.wider], laidTests := true, laidLooks := .later }
def GiverSafeCardSaid : Prop := Claim7.holds Tryd.pinned (.plain (OpenSpec.ofChange giverSafeSpec)) giverSafeCard

/-- THE TIED CARD OF 'switchyardlaw16.GiverFills'. -/
def giverFillsCard : Claim7 := { stood := { row := giverFillsRow, standIns := [], harness := (true, "790ad333142c94cc500f2fb9c1539ecce229408348050f9901a92c32fda9cfaa"), looks := false }, kinds := [], alts := [], laidByText := true, laidKinds := [.wider], laidTests := true, laidLooks := .later }
def GiverFillsCardSaid : Prop := Claim7.holds Tryd.pinned (.plain (OpenSpec.ofChange giverFillsSpec)) giverFillsCard

/-- THE TIED CARD OF 'switchyardlaw16.GiverNobody'. -/
def giverNobodyCard : Claim7 := { stood := { row := giverNobodyRow, standIns := [], harness := (true, "790ad333142c94cc500f2fb9c1539ecce229408348050f9901a92c32fda9cfaa"), looks := false }, kinds := [], alts := [], laidByText := true, laidKinds := [.wider], laidTests := true, laidLooks := .later }
def GiverNobodyCardSaid : Prop := Claim7.holds Tryd.pinned (.plain (OpenSpec.ofChange giverNobodySpec)) giverNobodyCard

/-- THE TIED CARD OF 'switchyardlaw16.GiverLinks'. -/
def giverLinksCard : Claim7 := { stood := { row := giverLinksRow, standIns := [], harness := (true, "790ad333142c94cc500f2fb9c1539ecce229408348050f9901a92c32fda9cfaa"), looks := false }, kinds := [], alts := [], laidByText := true, laidKinds := [.wider], laidTests := true, laidLooks := .later }
def GiverLinksCardSaid : Prop := Claim7.holds Tryd.pinned (.plain (OpenSpec.ofChange giverLinksSpec)) giverLinksCard

/-- THE SECOND FORM's CARD OF 'switchyardlaw16.GiverSteps'. -/
def giverStepsUptoCard : Claim7 := { stood := { row := giverStepsUptoRow, standIns := [], harness := (true, "790ad333142c94cc500f2fb9c1539ecce229408348050f9901a92c32fda9cfaa"), looks := false }, kinds := [], alts := [], laidByText := true, laidKinds := [.wider], laidTests := true, laidLooks := .later }
def GiverStepsUptoCardSaid : Prop := Claim7.holds Tryd.pinned (.plain (OpenSpec.upto giverStepsSpec)) giverStepsUptoCard

/-- THE SECOND FORM's CARD OF 'switchyardlaw16.GiverSafe'. -/
def giverSafeUptoCard : Claim7 := { stood := { row := giverSafeUptoRow, standIns := [], harness := (true, "790ad333142c94cc500f2fb9c1539ecce229408348050f9901a92c32fda9cfaa"), looks := false }, kinds := [], alts := [], laidByText := true, laidKinds := [.wider], laidTests := true, laidLooks := .later }
def GiverSafeUptoCardSaid : Prop := Claim7.holds Tryd.pinned (.plain (OpenSpec.upto giverSafeSpec)) giverSafeUptoCard

/-- THE SECOND FORM's CARD OF 'switchyardlaw16.GiverFills'. -/
def giverFillsUptoCard : Claim7 := { stood := { row := giverFillsUptoRow, standIns := [], harness := (true, "790ad333142c94cc500f2fb9c1539ecce229408348050f9901a92c32fda9cfaa"), looks := false }, kinds := [], alts := [], laidByText := true, laidKinds := [.wider], laidTests := true, laidLooks := .later }
def GiverFillsUptoCardSaid : Prop := Claim7.holds Tryd.pinned (.plain (OpenSpec.upto giverFillsSpec)) giverFillsUptoCard

/-- THE SECOND FORM's CARD OF 'switchyardlaw16.GiverNobody'. -/
def giverNobodyUptoCard : Claim7 := { stood := { row := giverNobodyUptoRow, standIns := [], harness := (true, "790ad333142c94cc500f2fb9c1539ecce229408348050f9901a92c32fda9cfaa"), looks := false }, kinds := [], alts := [], laidByText := true, laidKinds := [.wider], laidTests := true, laidLooks := .later }
def GiverNobodyUptoCardSaid : Prop := Claim7.holds Tryd.pinned (.plain (OpenSpec.upto giverNobodySpec)) giverNobodyUptoCard

/-- THE SECOND FORM's CARD OF 'switchyardlaw16.GiverLinks'. -/
def giverLinksUptoCard : Claim7 := { stood := { row := giverLinksUptoRow, standIns := [], harness := (true, "790ad333142c94cc500f2fb9c1539ecce229408348050f9901a92c32fda9cfaa"), looks := false }, kinds := [], alts := [], laidByText := true, laidKinds := [.wider], laidTests := true, laidLooks := .later }
def GiverLinksUptoCardSaid : Prop := Claim7.holds Tryd.pinned (.plain (OpenSpec.upto giverLinksSpec)) giverLinksUptoCard
end Rows
end Go.Proofs.YtbahnnlenaoomaaDoor
