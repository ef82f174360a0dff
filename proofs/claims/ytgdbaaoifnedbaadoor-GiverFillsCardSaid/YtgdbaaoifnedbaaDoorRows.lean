/-
  NARROWER THAN 'FOR EVERY INPUT', by the rows' own cells (each row's printed sentence says how): GiverSteps: laid · GiverFills: laid · TakerSafe: laid · TakerTakes: laid · TakerNobody: laid · TakerLinks: laid.
  DERIVED. THE GIVEN ROWS OF THIS SEAT. 6 by the template 'for every input the law returns true; each argument reads behind the call as it read before'; 0 by the template 'total and deterministic' (their statements: YtgdbaaoifnedbaaDoorTotals.lean).
  GIVEN WITH THE SEED: the statements are not yours to turn. If you find one false, say at which input.
  Laid BY PROGRAM, IN A SANDBOX (cutbox-rows.mjs): the forced cells as the released guide's own fill.sh prints them over the translation d03449cc4a150ca0… (all of the seat's roots in one cut). By AI agents, Wed Nov 11 2026. No macro, syntax, notation, axiom, sorry.
-/
import Derived.Test.YtgdbaaoifnedbaaDoorChecked
import GoSem.Claim
import GoSem.ClaimJoined
import GoSem.ClaimMapViews
import Derived.JoinedTies
import Derived.KernelRfl
namespace Go.Proofs.YtgdbaaoifnedbaaDoor
/- THE CELL 'sum', in the pinned program and in every row, IS THE sha256 OF THE DUMP (.gsa) THAT YtgdbaaoifnedbaaDoorProg.lean LOADS. Nothing in Lean hashes anything: it is a label: what it is worth is what the hold of that sum in a sandbox is worth. -/
noncomputable def Tryd.pinned : Pinned := { name := "ytgdbaaoifnedbaadoor", sum := "d03449cc4a150ca0d49d83dfa993fee3868181ce2e5d04de2df3643797bddd7c", checked := Tryd.checked }
namespace Rows
def none {H : Type} : Left H := { results := [], args := [] }

/- WHAT THE LISTED PACKAGE-LEVEL VARIABLES READ AS WHEN THE CALL BEGINS. Each datum BY PROGRAM (the guide's laid-datum.mjs) off the statement by which the dump's own 'gosem.cut.vars' lays the variable. In a bare row this is a premise. The card (YtgdbaaoifnedbaaDoorCards.lean) ties it to the program's text. -/
def laid_switchyard_plot_fields {H : Type} : DataW H := .agg [.agg [.lit (.int .i64 0), .lit (.int .i64 0), .lit (.int .i64 0), .lit (.bool false)], .agg [.lit (.int .i64 0), .lit (.int .i64 0), .lit (.int .i64 1), .lit (.bool false)], .agg [.lit (.int .i64 1), .lit (.int .i64 0), .lit (.int .i64 1), .lit (.bool false)], .agg [.lit (.int .i64 2), .lit (.int .i64 0), .lit (.int .i64 1), .lit (.bool false)], .agg [.lit (.int .i64 3), .lit (.int .i64 0), .lit (.int .i64 1), .lit (.bool false)], .agg [.lit (.int .i64 4), .lit (.int .i64 0), .lit (.int .i64 1), .lit (.bool true)], .agg [.lit (.int .i64 4), .lit (.int .i64 1), .lit (.int .i64 1), .lit (.bool true)], .agg [.lit (.int .i64 4), .lit (.int .i64 2), .lit (.int .i64 1), .lit (.bool true)], .agg [.lit (.int .i64 4), .lit (.int .i64 3), .lit (.int .i64 8), .lit (.bool true)]]

/-- 'switchyardlaw16.GiverSteps': WHATEVER THE INPUT: true; the input reads as it did. -/
def giverStepsSpec : ChangeSpec := { name := "giverSteps", fn := fun _ => fun
  | [d1, d2] => { results := [.lit (.bool true)], args := [d1, d2] }
  | _ => none }
def giverStepsRow : OpenClaim := { program := "ytgdbaaoifnedbaadoor", sum := "d03449cc4a150ca0d49d83dfa993fee3868181ce2e5d04de2df3643797bddd7c", func := "switchyard/switchyardlaw16.GiverSteps", spec := "giverSteps", unfollowed := true, recurses := true, named := ["switchyard/plot.fields"], apart := false, laid := [("switchyard/plot.fields", laid_switchyard_plot_fields)] }
def GiverStepsSaid : Prop := giverStepsRow.holds Tryd.pinned (OpenSpec.ofChange giverStepsSpec)

/-- ITS FALSE NEIGHBOUR: 'it returns false'. Refute it at one input. -/
def giverStepsWrong : ChangeSpec := { name := "giverSteps", fn := fun _ => fun
  | [d1, d2] => { results := [.lit (.bool false)], args := [d1, d2] }
  | _ => none }
def GiverStepsWrongFalsely : Prop := giverStepsRow.holds Tryd.pinned (OpenSpec.ofChange giverStepsWrong)

/-- 'switchyardlaw16.GiverFills': WHATEVER THE INPUT: true; the input reads as it did. -/
def giverFillsSpec : ChangeSpec := { name := "giverFills", fn := fun _ => fun
  | [d1, d2, d3] => { results := [.lit (.bool true)], args := [d1, d2, d3] }
  | _ => none }
def giverFillsRow : OpenClaim := { program := "ytgdbaaoifnedbaadoor", sum := "d03449cc4a150ca0d49d83dfa993fee3868181ce2e5d04de2df3643797bddd7c", func := "switchyard/switchyardlaw16.GiverFills", spec := "giverFills", unfollowed := true, recurses := true, named := ["switchyard/plot.fields"], apart := false, laid := [("switchyard/plot.fields", laid_switchyard_plot_fields)] }
def GiverFillsSaid : Prop := giverFillsRow.holds Tryd.pinned (OpenSpec.ofChange giverFillsSpec)

/-- ITS FALSE NEIGHBOUR: 'it returns false'. Refute it at one input. -/
def giverFillsWrong : ChangeSpec := { name := "giverFills", fn := fun _ => fun
  | [d1, d2, d3] => { results := [.lit (.bool false)], args := [d1, d2, d3] }
  | _ => none }
def GiverFillsWrongFalsely : Prop := giverFillsRow.holds Tryd.pinned (OpenSpec.ofChange giverFillsWrong)

/-- 'switchyardlaw17.TakerSafe': WHATEVER THE INPUT: true; the input reads as it did. -/
def takerSafeSpec : ChangeSpec := { name := "takerSafe", fn := fun _ => fun
  | [d1, d2] => { results := [.lit (.bool true)], args := [d1, d2] }
  | _ => none }
def takerSafeRow : OpenClaim := { program := "ytgdbaaoifnedbaadoor", sum := "d03449cc4a150ca0d49d83dfa993fee3868181ce2e5d04de2df3643797bddd7c", func := "switchyard/switchyardlaw17.TakerSafe", spec := "takerSafe", unfollowed := true, recurses := true, named := ["switchyard/plot.fields"], apart := false, laid := [("switchyard/plot.fields", laid_switchyard_plot_fields)] }
def TakerSafeSaid : Prop := takerSafeRow.holds Tryd.pinned (OpenSpec.ofChange takerSafeSpec)

/-- ITS FALSE NEIGHBOUR: 'it returns false'. Refute it at one input. -/
def takerSafeWrong : ChangeSpec := { name := "takerSafe", fn := fun _ => fun
  | [d1, d2] => { results := [.lit (.bool false)], args := [d1, d2] }
  | _ => none }
def TakerSafeWrongFalsely : Prop := takerSafeRow.holds Tryd.pinned (OpenSpec.ofChange takerSafeWrong)

/-- 'switchyardlaw17.TakerTakes': WHATEVER THE INPUT: true; the input reads as it did. -/
def takerTakesSpec : ChangeSpec := { name := "takerTakes", fn := fun _ => fun
  | [d1, d2, d3] => { results := [.lit (.bool true)], args := [d1, d2, d3] }
  | _ => none }
def takerTakesRow : OpenClaim := { program := "ytgdbaaoifnedbaadoor", sum := "d03449cc4a150ca0d49d83dfa993fee3868181ce2e5d04de2df3643797bddd7c", func := "switchyard/switchyardlaw17.TakerTakes", spec := "takerTakes", unfollowed := true, recurses := true, named := ["switchyard/plot.fields"], apart := false, laid := [("switchyard/plot.fields", laid_switchyard_plot_fields)] }
def TakerTakesSaid : Prop := takerTakesRow.holds Tryd.pinned (OpenSpec.ofChange takerTakesSpec)

/-- ITS FALSE NEIGHBOUR: 'it returns false'. Refute it at one input. -/
def takerTakesWrong : ChangeSpec := { name := "takerTakes", fn := fun _ => fun
  | [d1, d2, d3] => { results := [.lit (.bool false)], args := [d1, d2, d3] }
  | _ => none }
def TakerTakesWrongFalsely : Prop := takerTakesRow.holds Tryd.pinned (OpenSpec.ofChange takerTakesWrong)

/-- 'switchyardlaw17.TakerNobody': WHATEVER THE INPUT: true; the input reads as it did. -/
def takerNobodySpec : ChangeSpec := { name := "takerNobody", fn := fun _ => fun
  | [d] => { results := [.lit (.bool true)], args := [d] }
  | _ => none }
def takerNobodyRow : OpenClaim := { program := "ytgdbaaoifnedbaadoor", sum := "d03449cc4a150ca0d49d83dfa993fee3868181ce2e5d04de2df3643797bddd7c", func := "switchyard/switchyardlaw17.TakerNobody", spec := "takerNobody", unfollowed := true, recurses := true, named := ["switchyard/plot.fields"], apart := false, laid := [("switchyard/plot.fields", laid_switchyard_plot_fields)] }
def TakerNobodySaid : Prop := takerNobodyRow.holds Tryd.pinned (OpenSpec.ofChange takerNobodySpec)

/-- ITS FALSE NEIGHBOUR: 'it returns false'. Refute it at one input. -/
def takerNobodyWrong : ChangeSpec := { name := "takerNobody", fn := fun _ => fun
  | [d] => { results := [.lit (.bool false)], args := [d] }
  | _ => none }
def TakerNobodyWrongFalsely : Prop := takerNobodyRow.holds Tryd.pinned (OpenSpec.ofChange takerNobodyWrong)

/-- 'switchyardlaw17.TakerLinks': WHATEVER THE INPUT: true; the input reads as it did. -/
def takerLinksSpec : ChangeSpec := { name := "takerLinks", fn := fun _ => fun
  | [d1, d2, d3] => { results := [.lit (.bool true)], args := [d1, d2, d3] }
  | _ => none }
def takerLinksRow : OpenClaim := { program := "ytgdbaaoifnedbaadoor", sum := "d03449cc4a150ca0d49d83dfa993fee3868181ce2e5d04de2df3643797bddd7c", func := "switchyard/switchyardlaw17.TakerLinks", spec := "takerLinks", unfollowed := true, recurses := true, named := ["switchyard/plot.fields"], apart := false, laid := [("switchyard/plot.fields", laid_switchyard_plot_fields)] }
def TakerLinksSaid : Prop := takerLinksRow.holds Tryd.pinned (OpenSpec.ofChange takerLinksSpec)

/-- ITS FALSE NEIGHBOUR: 'it returns false'. Refute it at one input. -/
def takerLinksWrong : ChangeSpec := { name := "takerLinks", fn := fun _ => fun
  | [d1, d2, d3] => { results := [.lit (.bool false)], args := [d1, d2, d3] }
  | _ => none }
def TakerLinksWrongFalsely : Prop := takerLinksRow.holds Tryd.pinned (OpenSpec.ofChange takerLinksWrong)

/- THE SECOND FORM. 'bulk': how many values and letters a reading holds, each counted each time it is reached (what is shared counts as often as it is met; a slice's spare places count too). A statement '..UptoSaid' is the law's where the arguments, and the package variables that the reading takes, are together of bulk at most 1048576: NARROWER than '..Said'. Prove '..Said' where nothing that the law and all that it calls make is longer than what came in: it says more and counts as full. Else prove '..UptoSaid'. A law counts once. -/
mutual
def uptoBulk {H : Type} : DataW H → Nat
  | .lit (.string bytes) => bytes.length + 1
  | .lit _ => 1
  | .nil => 1
  | .ptr d => uptoBulk d + 1
  | .slice elems spare => uptoBulkAll elems + uptoBulkAll spare + 1
  | .agg parts => uptoBulkAll parts + 1
  | .iface _ d => uptoBulk d + 1
  | .map entries => uptoBulkEntries entries + 1
  | .held _ => 1
def uptoBulkAll {H : Type} : List (DataW H) → Nat
  | [] => 0
  | d :: r => uptoBulk d + uptoBulkAll r
def uptoBulkEntries {H : Type} : List (Lit × DataW H) → Nat
  | [] => 0
  | x :: r => uptoBulkEntry x + uptoBulkEntries r
def uptoBulkEntry {H : Type} : Lit × DataW H → Nat
  | (.string bytes, d) => bytes.length + uptoBulk d + 1
  | (_, d) => uptoBulk d + 1
 end
def uptoSmall : (H : Type) → List (DataW H) → Bool := fun _ ds => decide (uptoBulkAll ds ≤ 1048576)
def OpenSpec.upto (s : _root_.Go.ChangeSpec) : _root_.Go.OpenSpec := { _root_.Go.OpenSpec.ofChange s with cond := some uptoSmall }

/-- 'switchyardlaw16.GiverSteps', WHERE WHAT IT READS IS OF BULK AT MOST 1048576: true; the input reads as it did. -/
def giverStepsUptoRow : OpenClaim := { program := "ytgdbaaoifnedbaadoor", sum := "d03449cc4a150ca0d49d83dfa993fee3868181ce2e5d04de2df3643797bddd7c", func := "switchyard/switchyardlaw16.GiverSteps", spec := "giverSteps", unfollowed := true, recurses := true, named := ["switchyard/plot.fields"], apart := false, laid := [("switchyard/plot.fields", laid_switchyard_plot_fields)], narrowed := true }
def GiverStepsUptoSaid : Prop := giverStepsUptoRow.holds Tryd.pinned (OpenSpec.upto giverStepsSpec)

/-- 'switchyardlaw16.GiverFills', WHERE WHAT IT READS IS OF BULK AT MOST 1048576: true; the input reads as it did. -/
def giverFillsUptoRow : OpenClaim := { program := "ytgdbaaoifnedbaadoor", sum := "d03449cc4a150ca0d49d83dfa993fee3868181ce2e5d04de2df3643797bddd7c", func := "switchyard/switchyardlaw16.GiverFills", spec := "giverFills", unfollowed := true, recurses := true, named := ["switchyard/plot.fields"], apart := false, laid := [("switchyard/plot.fields", laid_switchyard_plot_fields)], narrowed := true }
def GiverFillsUptoSaid : Prop := giverFillsUptoRow.holds Tryd.pinned (OpenSpec.upto giverFillsSpec)

/-- 'switchyardlaw17.TakerSafe', WHERE WHAT IT READS IS OF BULK AT MOST 1048576: true; the input reads as it did. -/
def takerSafeUptoRow : OpenClaim := { program := "ytgdbaaoifnedbaadoor", sum := "d03449cc4a150ca0d49d83dfa993fee3868181ce2e5d04de2df3643797bddd7c", func := "switchyard/switchyardlaw17.TakerSafe", spec := "takerSafe", unfollowed := true, recurses := true, named := ["switchyard/plot.fields"], apart := false, laid := [("switchyard/plot.fields", laid_switchyard_plot_fields)], narrowed := true }
def TakerSafeUptoSaid : Prop := takerSafeUptoRow.holds Tryd.pinned (OpenSpec.upto takerSafeSpec)

/-- 'switchyardlaw17.TakerTakes', WHERE WHAT IT READS IS OF BULK AT MOST 1048576: true; the input reads as it did. -/
def takerTakesUptoRow : OpenClaim := { program := "ytgdbaaoifnedbaadoor", sum := "d03449cc4a150ca0d49d83dfa993fee3868181ce2e5d04de2df3643797bddd7c", func := "switchyard/switchyardlaw17.TakerTakes", spec := "takerTakes", unfollowed := true, recurses := true, named := ["switchyard/plot.fields"], apart := false, laid := [("switchyard/plot.fields", laid_switchyard_plot_fields)], narrowed := true }
def TakerTakesUptoSaid : Prop := takerTakesUptoRow.holds Tryd.pinned (OpenSpec.upto takerTakesSpec)

/-- 'switchyardlaw17.TakerNobody', WHERE WHAT IT READS IS OF BULK AT MOST 1048576: true; the input reads as it did. -/
def takerNobodyUptoRow : OpenClaim := { program := "ytgdbaaoifnedbaadoor", sum := "d03449cc4a150ca0d49d83dfa993fee3868181ce2e5d04de2df3643797bddd7c", func := "switchyard/switchyardlaw17.TakerNobody", spec := "takerNobody", unfollowed := true, recurses := true, named := ["switchyard/plot.fields"], apart := false, laid := [("switchyard/plot.fields", laid_switchyard_plot_fields)], narrowed := true }
def TakerNobodyUptoSaid : Prop := takerNobodyUptoRow.holds Tryd.pinned (OpenSpec.upto takerNobodySpec)

/-- 'switchyardlaw17.TakerLinks', WHERE WHAT IT READS IS OF BULK AT MOST 1048576: true; the input reads as it did. -/
def takerLinksUptoRow : OpenClaim := { program := "ytgdbaaoifnedbaadoor", sum := "d03449cc4a150ca0d49d83dfa993fee3868181ce2e5d04de2df3643797bddd7c", func := "switchyard/switchyardlaw17.TakerLinks", spec := "takerLinks", unfollowed := true, recurses := true, named := ["switchyard/plot.fields"], apart := false, laid := [("switchyard/plot.fields", laid_switchyard_plot_fields)], narrowed := true }
def TakerLinksUptoSaid : Prop := takerLinksUptoRow.holds Tryd.pinned (OpenSpec.upto takerLinksSpec)

end Rows
end Go.Proofs.YtgdbaaoifnedbaaDoor
