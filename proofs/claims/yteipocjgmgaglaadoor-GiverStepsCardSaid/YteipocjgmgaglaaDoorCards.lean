/-
  DERIVED. GIVEN WITH THE SEED: THE CARDS: each row of YteipocjgmgaglaaDoorRows.lean that lists a variable, with what it lists TIED to the program's text (the seventh form; the later family's looks); each row that meets fmt, with fmt's text TOLD by the authors' own Lean function (tested against real Go, not proved from fmt's source: count such statements apart). THE CARD IS WHAT COUNTS. Prove the row's statement (the work); the ties are given (YteipocjgmgaglaaDoorTie.lean); close each card by the builder's one call (the guide's Derived/Test/ToyasCard.lean, 'card_holds'). Laid BY PROGRAM, IN A SANDBOX (cutbox-door.mjs). By AI agents, Wed Nov 11 2026. No macro, syntax, notation, axiom, sorry.
-/
import Derived.Test.YteipocjgmgaglaaDoorRows
import GoSem.ClaimSeven
namespace Go.Proofs.YteipocjgmgaglaaDoor
namespace Rows

/-- THE TIED CARD OF 'switchyardlaw16.GiverSteps'. -/
def giverStepsCard : Claim7 := { stood := { row := giverStepsRow, standIns := [], harness := (true, "427390754d0be28f943bb322d31c32243a40c8cb8449728d877e06fde9a0203c"), looks := false }, kinds := [], alts := [], laidByText := true, laidKinds := [.wider], laidTests := true, laidLooks := .later }
def GiverStepsCardSaid : Prop := Claim7.holds Tryd.pinned (.plain (OpenSpec.ofChange giverStepsSpec)) giverStepsCard

/-- THE SECOND FORM's CARD OF 'switchyardlaw16.GiverSteps'. -/
def giverStepsUptoCard : Claim7 := { stood := { row := giverStepsUptoRow, standIns := [], harness := (true, "427390754d0be28f943bb322d31c32243a40c8cb8449728d877e06fde9a0203c"), looks := false }, kinds := [], alts := [], laidByText := true, laidKinds := [.wider], laidTests := true, laidLooks := .later }
def GiverStepsUptoCardSaid : Prop := Claim7.holds Tryd.pinned (.plain (OpenSpec.upto giverStepsSpec)) giverStepsUptoCard
end Rows
end Go.Proofs.YteipocjgmgaglaaDoor
