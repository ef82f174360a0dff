/-
  DERIVED. GIVEN WITH THE SEED: THE CARDS: each row of YtiofipofbeodpaaGreatDoorRows.lean that lists a variable, with what it lists TIED to the program's text (the seventh form; the later family's looks); each row that meets fmt, with fmt's text TOLD by the authors' own Lean function (tested against real Go, not proved from fmt's source: count such statements apart). THE CARD IS WHAT COUNTS. Prove the row's statement (the work); the ties are given (YtiofipofbeodpaaGreatDoorTie.lean); close each card by the builder's one call (the guide's Derived/Test/ToyasCard.lean, 'card_holds'). Laid BY PROGRAM, IN A SANDBOX (cutbox-door.mjs). By AI agents, Wed Nov 11 2026. No macro, syntax, notation, axiom, sorry.
-/
import Derived.Test.YtiofipofbeodpaaGreatDoorRows
import GoSem.ClaimSeven
namespace Go.Proofs.YtiofipofbeodpaaGreatDoor
namespace Rows

/-- THE TIED CARD OF 'switchyardlaw17.TakerSteps'. -/
def takerStepsCard : Claim7 := { stood := { row := takerStepsRow, standIns := [], harness := (true, "422d79d6641e3fa6eae4ac5d769e5ac934924b079ecb85ffdc87f003b155dc2d"), looks := false }, kinds := [], alts := [], laidByText := true, laidKinds := [.wider], laidTests := true, laidLooks := .later }
def TakerStepsCardSaid : Prop := Claim7.holds Tryz.pinned (.plain (OpenSpec.ofChange takerStepsSpec)) takerStepsCard

/-- THE SECOND FORM's CARD OF 'switchyardlaw17.TakerSteps'. -/
def takerStepsUptoCard : Claim7 := { stood := { row := takerStepsUptoRow, standIns := [], harness := (true, "422d79d6641e3fa6eae4ac5d769e5ac934924b079ecb85ffdc87f003b155dc2d"), looks := false }, kinds := [], alts := [], laidByText := true, laidKinds := [.wider], laidTests := true, laidLooks := .later }
def TakerStepsUptoCardSaid : Prop := Claim7.holds Tryz.pinned (.plain (OpenSpec.upto takerStepsSpec)) takerStepsUptoCard
end Rows
end Go.Proofs.YtiofipofbeodpaaGreatDoor
