/-
  DERIVED. GIVEN WITH THE SEED: THE CARDS: each row of YtofiogbpejjolaaDoorRows.lean that lists a variable, with what it lists TIED to the program's text (the seventh form; the later family's looks); each row that meets fmt, with fmt's text TOLD by the authors' own Lean function (tested against real Go, not proved from fmt's source: count such statements apart). THE CARD IS WHAT COUNTS. Prove the row's statement (the work); the ties are given (YtofiogbpejjolaaDoorTie.lean); close each card by the builder's one call (the guide's Derived/Test/ToyasCard.lean, 'card_holds'). Laid BY PROGRAM, IN A SANDBOX (cutbox-door.mjs). By AI agents, Wed Nov 11 2026. No macro, syntax, notation, axiom, sorry.
-/
import Derived.Test.YtofiogbpejjolaaDoorRows
import GoSem.ClaimSeven
namespace Go.Proofs.YtofiogbpejjolaaDoor
namespace Rows

/-- THE TIED CARD OF 'switchyardlaw13.PlotOf'. -/
def plotOfCard : Claim7 := { stood := { row := plotOfRow, standIns := [], harness := (true, "f62c36f4a8a4e1472ad98044c1e2e819a972f17d9e85e9c90314c39eb91cab6e"), looks := false }, kinds := [], alts := [], laidByText := true, laidKinds := [.wider], laidTests := true, laidLooks := .later }
def PlotOfCardSaid : Prop := Claim7.holds Tryd.pinned (.plain (OpenSpec.ofChange plotOfSpec)) plotOfCard

/-- THE TIED CARD OF 'switchyardlaw13.PlotAt'. -/
def plotAtCard : Claim7 := { stood := { row := plotAtRow, standIns := [], harness := (true, "f62c36f4a8a4e1472ad98044c1e2e819a972f17d9e85e9c90314c39eb91cab6e"), looks := false }, kinds := [], alts := [], laidByText := true, laidKinds := [.wider], laidTests := true, laidLooks := .later }
def PlotAtCardSaid : Prop := Claim7.holds Tryd.pinned (.plain (OpenSpec.ofChange plotAtSpec)) plotAtCard

/-- THE TIED CARD OF 'switchyardlaw13.PlotWhere'. -/
def plotWhereCard : Claim7 := { stood := { row := plotWhereRow, standIns := [], harness := (true, "f62c36f4a8a4e1472ad98044c1e2e819a972f17d9e85e9c90314c39eb91cab6e"), looks := false }, kinds := [], alts := [], laidByText := true, laidKinds := [.wider], laidTests := true, laidLooks := .later }
def PlotWhereCardSaid : Prop := Claim7.holds Tryd.pinned (.plain (OpenSpec.ofChange plotWhereSpec)) plotWhereCard

/-- THE TIED CARD OF 'switchyardlaw13.PlotBack'. -/
def plotBackCard : Claim7 := { stood := { row := plotBackRow, standIns := [], harness := (true, "f62c36f4a8a4e1472ad98044c1e2e819a972f17d9e85e9c90314c39eb91cab6e"), looks := false }, kinds := [], alts := [], laidByText := true, laidKinds := [.wider], laidTests := true, laidLooks := .later }
def PlotBackCardSaid : Prop := Claim7.holds Tryd.pinned (.plain (OpenSpec.ofChange plotBackSpec)) plotBackCard

/-- THE TIED CARD OF 'switchyardlaw13.PlotNone'. -/
def plotNoneCard : Claim7 := { stood := { row := plotNoneRow, standIns := [], harness := (true, "f62c36f4a8a4e1472ad98044c1e2e819a972f17d9e85e9c90314c39eb91cab6e"), looks := false }, kinds := [], alts := [], laidByText := true, laidKinds := [.wider], laidTests := true, laidLooks := .later }
def PlotNoneCardSaid : Prop := Claim7.holds Tryd.pinned (.plain (OpenSpec.ofChange plotNoneSpec)) plotNoneCard

/-- THE SECOND FORM's CARD OF 'switchyardlaw13.PlotOf'. -/
def plotOfUptoCard : Claim7 := { stood := { row := plotOfUptoRow, standIns := [], harness := (true, "f62c36f4a8a4e1472ad98044c1e2e819a972f17d9e85e9c90314c39eb91cab6e"), looks := false }, kinds := [], alts := [], laidByText := true, laidKinds := [.wider], laidTests := true, laidLooks := .later }
def PlotOfUptoCardSaid : Prop := Claim7.holds Tryd.pinned (.plain (OpenSpec.upto plotOfSpec)) plotOfUptoCard

/-- THE SECOND FORM's CARD OF 'switchyardlaw13.PlotAt'. -/
def plotAtUptoCard : Claim7 := { stood := { row := plotAtUptoRow, standIns := [], harness := (true, "f62c36f4a8a4e1472ad98044c1e2e819a972f17d9e85e9c90314c39eb91cab6e"), looks := false }, kinds := [], alts := [], laidByText := true, laidKinds := [.wider], laidTests := true, laidLooks := .later }
def PlotAtUptoCardSaid : Prop := Claim7.holds Tryd.pinned (.plain (OpenSpec.upto plotAtSpec)) plotAtUptoCard

/-- THE SECOND FORM's CARD OF 'switchyardlaw13.PlotWhere'. -/
def plotWhereUptoCard : Claim7 := { stood := { row := plotWhereUptoRow, standIns := [], harness := (true, "f62c36f4a8a4e1472ad98044c1e2e819a972f17d9e85e9c90314c39eb91cab6e"), looks := false }, kinds := [], alts := [], laidByText := true, laidKinds := [.wider], laidTests := true, laidLooks := .later }
def PlotWhereUptoCardSaid : Prop := Claim7.holds Tryd.pinned (.plain (OpenSpec.upto plotWhereSpec)) plotWhereUptoCard

/-- THE SECOND FORM's CARD OF 'switchyardlaw13.PlotBack'. -/
def plotBackUptoCard : Claim7 := { stood := { row := plotBackUptoRow, standIns := [], harness := (true, "f62c36f4a8a4e1472ad98044c1e2e819a972f17d9e85e9c90314c39eb91cab6e"), looks := false }, kinds := [], alts := [], laidByText := true, laidKinds := [.wider], laidTests := true, laidLooks := .later }
def PlotBackUptoCardSaid : Prop := Claim7.holds Tryd.pinned (.plain (OpenSpec.upto plotBackSpec)) plotBackUptoCard

/-- THE SECOND FORM's CARD OF 'switchyardlaw13.PlotNone'. -/
def plotNoneUptoCard : Claim7 := { stood := { row := plotNoneUptoRow, standIns := [], harness := (true, "f62c36f4a8a4e1472ad98044c1e2e819a972f17d9e85e9c90314c39eb91cab6e"), looks := false }, kinds := [], alts := [], laidByText := true, laidKinds := [.wider], laidTests := true, laidLooks := .later }
def PlotNoneUptoCardSaid : Prop := Claim7.holds Tryd.pinned (.plain (OpenSpec.upto plotNoneSpec)) plotNoneUptoCard
end Rows
end Go.Proofs.YtofiogbpejjolaaDoor
