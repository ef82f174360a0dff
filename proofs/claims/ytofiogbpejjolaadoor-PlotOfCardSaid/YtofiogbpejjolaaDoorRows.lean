/-
  NARROWER THAN 'FOR EVERY INPUT', by the rows' own cells (each row's printed sentence says how): PlotOf: laid · PlotAt: laid · PlotWhere: laid · PlotBack: laid · PlotNone: laid.
  DERIVED. THE GIVEN ROWS OF THIS SEAT. 5 by the template 'for every input the law returns true; each argument reads behind the call as it read before'; 0 by the template 'total and deterministic' (their statements: YtofiogbpejjolaaDoorTotals.lean).
  GIVEN WITH THE SEED: the statements are not yours to turn. If you find one false, say at which input.
  Laid BY PROGRAM, IN A SANDBOX (cutbox-rows.mjs): the forced cells as the released guide's own fill.sh prints them over the translation b17db1fc85873e62… (all of the seat's roots in one cut). By AI agents, Wed Nov 11 2026. No macro, syntax, notation, axiom, sorry.
-/
import Derived.Test.YtofiogbpejjolaaDoorChecked
import GoSem.Claim
import GoSem.ClaimJoined
import GoSem.ClaimMapViews
import Derived.JoinedTies
import Derived.KernelRfl
namespace Go.Proofs.YtofiogbpejjolaaDoor
/- THE CELL 'sum', in the pinned program and in every row, IS THE sha256 OF THE DUMP (.gsa) THAT YtofiogbpejjolaaDoorProg.lean LOADS. Nothing in Lean hashes anything: it is a label: what it is worth is what the hold of that sum in a sandbox is worth. -/
noncomputable def Tryd.pinned : Pinned := { name := "ytofiogbpejjolaadoor", sum := "b17db1fc85873e62db53763ee957bd04b2e8efcff8dc76ff4eff7bb2dc37a447", checked := Tryd.checked }
namespace Rows
def none {H : Type} : Left H := { results := [], args := [] }

/- WHAT THE LISTED PACKAGE-LEVEL VARIABLES READ AS WHEN THE CALL BEGINS. Each datum BY PROGRAM (the guide's laid-datum.mjs) off the statement by which the dump's own 'gosem.cut.vars' lays the variable. In a bare row this is a premise. The card (YtofiogbpejjolaaDoorCards.lean) ties it to the program's text. -/
def laid_switchyard_plot_fields {H : Type} : DataW H := .agg [.agg [.lit (.int .i64 0), .lit (.int .i64 0), .lit (.int .i64 0), .lit (.bool false)], .agg [.lit (.int .i64 0), .lit (.int .i64 0), .lit (.int .i64 1), .lit (.bool false)], .agg [.lit (.int .i64 1), .lit (.int .i64 0), .lit (.int .i64 1), .lit (.bool false)], .agg [.lit (.int .i64 2), .lit (.int .i64 0), .lit (.int .i64 1), .lit (.bool false)], .agg [.lit (.int .i64 3), .lit (.int .i64 0), .lit (.int .i64 1), .lit (.bool false)], .agg [.lit (.int .i64 4), .lit (.int .i64 0), .lit (.int .i64 1), .lit (.bool true)], .agg [.lit (.int .i64 4), .lit (.int .i64 1), .lit (.int .i64 1), .lit (.bool true)], .agg [.lit (.int .i64 4), .lit (.int .i64 2), .lit (.int .i64 1), .lit (.bool true)], .agg [.lit (.int .i64 4), .lit (.int .i64 3), .lit (.int .i64 8), .lit (.bool true)]]

/-- 'switchyardlaw13.PlotOf': WHATEVER THE INPUT: true; the input reads as it did. -/
def plotOfSpec : ChangeSpec := { name := "plotOf", fn := fun _ => fun
  | [d1, d2, d3, d4] => { results := [.lit (.bool true)], args := [d1, d2, d3, d4] }
  | _ => none }
def plotOfRow : OpenClaim := { program := "ytofiogbpejjolaadoor", sum := "b17db1fc85873e62db53763ee957bd04b2e8efcff8dc76ff4eff7bb2dc37a447", func := "switchyard/switchyardlaw13.PlotOf", spec := "plotOf", named := ["switchyard/plot.fields"], apart := false, laid := [("switchyard/plot.fields", laid_switchyard_plot_fields)] }
def PlotOfSaid : Prop := plotOfRow.holds Tryd.pinned (OpenSpec.ofChange plotOfSpec)

/-- ITS FALSE NEIGHBOUR: 'it returns false'. Refute it at one input. -/
def plotOfWrong : ChangeSpec := { name := "plotOf", fn := fun _ => fun
  | [d1, d2, d3, d4] => { results := [.lit (.bool false)], args := [d1, d2, d3, d4] }
  | _ => none }
def PlotOfWrongFalsely : Prop := plotOfRow.holds Tryd.pinned (OpenSpec.ofChange plotOfWrong)

/-- 'switchyardlaw13.PlotAt': WHATEVER THE INPUT: true; the input reads as it did. -/
def plotAtSpec : ChangeSpec := { name := "plotAt", fn := fun _ => fun
  | [d1, d2, d3, d4] => { results := [.lit (.bool true)], args := [d1, d2, d3, d4] }
  | _ => none }
def plotAtRow : OpenClaim := { program := "ytofiogbpejjolaadoor", sum := "b17db1fc85873e62db53763ee957bd04b2e8efcff8dc76ff4eff7bb2dc37a447", func := "switchyard/switchyardlaw13.PlotAt", spec := "plotAt", named := ["switchyard/plot.fields"], apart := false, laid := [("switchyard/plot.fields", laid_switchyard_plot_fields)] }
def PlotAtSaid : Prop := plotAtRow.holds Tryd.pinned (OpenSpec.ofChange plotAtSpec)

/-- ITS FALSE NEIGHBOUR: 'it returns false'. Refute it at one input. -/
def plotAtWrong : ChangeSpec := { name := "plotAt", fn := fun _ => fun
  | [d1, d2, d3, d4] => { results := [.lit (.bool false)], args := [d1, d2, d3, d4] }
  | _ => none }
def PlotAtWrongFalsely : Prop := plotAtRow.holds Tryd.pinned (OpenSpec.ofChange plotAtWrong)

/-- 'switchyardlaw13.PlotWhere': WHATEVER THE INPUT: true; the input reads as it did. -/
def plotWhereSpec : ChangeSpec := { name := "plotWhere", fn := fun _ => fun
  | [d1, d2] => { results := [.lit (.bool true)], args := [d1, d2] }
  | _ => none }
def plotWhereRow : OpenClaim := { program := "ytofiogbpejjolaadoor", sum := "b17db1fc85873e62db53763ee957bd04b2e8efcff8dc76ff4eff7bb2dc37a447", func := "switchyard/switchyardlaw13.PlotWhere", spec := "plotWhere", named := ["switchyard/plot.fields"], apart := false, laid := [("switchyard/plot.fields", laid_switchyard_plot_fields)] }
def PlotWhereSaid : Prop := plotWhereRow.holds Tryd.pinned (OpenSpec.ofChange plotWhereSpec)

/-- ITS FALSE NEIGHBOUR: 'it returns false'. Refute it at one input. -/
def plotWhereWrong : ChangeSpec := { name := "plotWhere", fn := fun _ => fun
  | [d1, d2] => { results := [.lit (.bool false)], args := [d1, d2] }
  | _ => none }
def PlotWhereWrongFalsely : Prop := plotWhereRow.holds Tryd.pinned (OpenSpec.ofChange plotWhereWrong)

/-- 'switchyardlaw13.PlotBack': WHATEVER THE INPUT: true; the input reads as it did. -/
def plotBackSpec : ChangeSpec := { name := "plotBack", fn := fun _ => fun
  | [d1, d2, d3] => { results := [.lit (.bool true)], args := [d1, d2, d3] }
  | _ => none }
def plotBackRow : OpenClaim := { program := "ytofiogbpejjolaadoor", sum := "b17db1fc85873e62db53763ee957bd04b2e8efcff8dc76ff4eff7bb2dc37a447", func := "switchyard/switchyardlaw13.PlotBack", spec := "plotBack", named := ["switchyard/plot.fields"], apart := false, laid := [("switchyard/plot.fields", laid_switchyard_plot_fields)] }
def PlotBackSaid : Prop := plotBackRow.holds Tryd.pinned (OpenSpec.ofChange plotBackSpec)

/-- ITS FALSE NEIGHBOUR: 'it returns false'. Refute it at one input. -/
def plotBackWrong : ChangeSpec := { name := "plotBack", fn := fun _ => fun
  | [d1, d2, d3] => { results := [.lit (.bool false)], args := [d1, d2, d3] }
  | _ => none }
def PlotBackWrongFalsely : Prop := plotBackRow.holds Tryd.pinned (OpenSpec.ofChange plotBackWrong)

/-- 'switchyardlaw13.PlotNone': WHATEVER THE INPUT: true; the input reads as it did. -/
def plotNoneSpec : ChangeSpec := { name := "plotNone", fn := fun _ => fun
  | [d1, d2, d3] => { results := [.lit (.bool true)], args := [d1, d2, d3] }
  | _ => none }
def plotNoneRow : OpenClaim := { program := "ytofiogbpejjolaadoor", sum := "b17db1fc85873e62db53763ee957bd04b2e8efcff8dc76ff4eff7bb2dc37a447", func := "switchyard/switchyardlaw13.PlotNone", spec := "plotNone", named := ["switchyard/plot.fields"], apart := false, laid := [("switchyard/plot.fields", laid_switchyard_plot_fields)] }
def PlotNoneSaid : Prop := plotNoneRow.holds Tryd.pinned (OpenSpec.ofChange plotNoneSpec)

/-- ITS FALSE NEIGHBOUR: 'it returns false'. Refute it at one input. -/
def plotNoneWrong : ChangeSpec := { name := "plotNone", fn := fun _ => fun
  | [d1, d2, d3] => { results := [.lit (.bool false)], args := [d1, d2, d3] }
  | _ => none }
def PlotNoneWrongFalsely : Prop := plotNoneRow.holds Tryd.pinned (OpenSpec.ofChange plotNoneWrong)

/- THE SECOND FORM. 'bulk': how many values and letters a reading holds, each counted each time it is reached (what is shared counts as often as it is met; a slice's spare places count too). A statement '..UptoSaid' is the law's where the arguments, and the package variables that the reading takes, are together of bulk at most 1048576: NARROWER than '..Said'. Prove '..Said' where nothing that the law and all that it calls make is longer than what came in: it says more and counts as full. Else prove '..UptoSaid'. A law counts once. -/
mutual
def uptoBulk {H : Type} : DataW H → Nat
  | .lit (.string bytes) => bytes.length + 1
  | .lit _ => 1
  | .nil => 1
  | .ptr d => uptoBulk d + 1
  | .slice elems spare => uptoBulkAll elems + uptoBulkAll spare + 1
  | .agg parts => uptoBulkAll parts + 1
  | .iface _ d => uptoBulk d + 1
  | .map entries => uptoBulkEntries entries + 1
  | .held _ => 1
def uptoBulkAll {H : Type} : List (DataW H) → Nat
  | [] => 0
  | d :: r => uptoBulk d + uptoBulkAll r
def uptoBulkEntries {H : Type} : List (Lit × DataW H) → Nat
  | [] => 0
  | x :: r => uptoBulkEntry x + uptoBulkEntries r
def uptoBulkEntry {H : Type} : Lit × DataW H → Nat
  | (.string bytes, d) => bytes.length + uptoBulk d + 1
  | (_, d) => uptoBulk d + 1
 end
def uptoSmall : (H : Type) → List (DataW H) → Bool := fun _ ds => decide (uptoBulkAll ds ≤ 1048576)
def OpenSpec.upto (s : _root_.Go.ChangeSpec) : _root_.Go.OpenSpec := { _root_.Go.OpenSpec.ofChange s with cond := some uptoSmall }

/-- 'switchyardlaw13.PlotOf', WHERE WHAT IT READS IS OF BULK AT MOST 1048576: true; the input reads as it did. -/
def plotOfUptoRow : OpenClaim := { program := "ytofiogbpejjolaadoor", sum := "b17db1fc85873e62db53763ee957bd04b2e8efcff8dc76ff4eff7bb2dc37a447", func := "switchyard/switchyardlaw13.PlotOf", spec := "plotOf", named := ["switchyard/plot.fields"], apart := false, laid := [("switchyard/plot.fields", laid_switchyard_plot_fields)], narrowed := true }
def PlotOfUptoSaid : Prop := plotOfUptoRow.holds Tryd.pinned (OpenSpec.upto plotOfSpec)

/-- 'switchyardlaw13.PlotAt', WHERE WHAT IT READS IS OF BULK AT MOST 1048576: true; the input reads as it did. -/
def plotAtUptoRow : OpenClaim := { program := "ytofiogbpejjolaadoor", sum := "b17db1fc85873e62db53763ee957bd04b2e8efcff8dc76ff4eff7bb2dc37a447", func := "switchyard/switchyardlaw13.PlotAt", spec := "plotAt", named := ["switchyard/plot.fields"], apart := false, laid := [("switchyard/plot.fields", laid_switchyard_plot_fields)], narrowed := true }
def PlotAtUptoSaid : Prop := plotAtUptoRow.holds Tryd.pinned (OpenSpec.upto plotAtSpec)

/-- 'switchyardlaw13.PlotWhere', WHERE WHAT IT READS IS OF BULK AT MOST 1048576: true; the input reads as it did. -/
def plotWhereUptoRow : OpenClaim := { program := "ytofiogbpejjolaadoor", sum := "b17db1fc85873e62db53763ee957bd04b2e8efcff8dc76ff4eff7bb2dc37a447", func := "switchyard/switchyardlaw13.PlotWhere", spec := "plotWhere", named := ["switchyard/plot.fields"], apart := false, laid := [("switchyard/plot.fields", laid_switchyard_plot_fields)], narrowed := true }
def PlotWhereUptoSaid : Prop := plotWhereUptoRow.holds Tryd.pinned (OpenSpec.upto plotWhereSpec)

/-- 'switchyardlaw13.PlotBack', WHERE WHAT IT READS IS OF BULK AT MOST 1048576: true; the input reads as it did. -/
def plotBackUptoRow : OpenClaim := { program := "ytofiogbpejjolaadoor", sum := "b17db1fc85873e62db53763ee957bd04b2e8efcff8dc76ff4eff7bb2dc37a447", func := "switchyard/switchyardlaw13.PlotBack", spec := "plotBack", named := ["switchyard/plot.fields"], apart := false, laid := [("switchyard/plot.fields", laid_switchyard_plot_fields)], narrowed := true }
def PlotBackUptoSaid : Prop := plotBackUptoRow.holds Tryd.pinned (OpenSpec.upto plotBackSpec)

/-- 'switchyardlaw13.PlotNone', WHERE WHAT IT READS IS OF BULK AT MOST 1048576: true; the input reads as it did. -/
def plotNoneUptoRow : OpenClaim := { program := "ytofiogbpejjolaadoor", sum := "b17db1fc85873e62db53763ee957bd04b2e8efcff8dc76ff4eff7bb2dc37a447", func := "switchyard/switchyardlaw13.PlotNone", spec := "plotNone", named := ["switchyard/plot.fields"], apart := false, laid := [("switchyard/plot.fields", laid_switchyard_plot_fields)], narrowed := true }
def PlotNoneUptoSaid : Prop := plotNoneUptoRow.holds Tryd.pinned (OpenSpec.upto plotNoneSpec)

end Rows
end Go.Proofs.YtofiogbpejjolaaDoor
