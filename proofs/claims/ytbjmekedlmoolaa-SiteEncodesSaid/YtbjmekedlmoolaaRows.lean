/-
  No cell of these rows narrows 'for every input' (looked for: loops, veiled, ifaces, maps, wideKeys, modest, calm, conditions, laid).
  DERIVED. THE GIVEN ROWS OF THIS SEAT. 3 by the template 'for every input the law returns true; each argument reads behind the call as it read before'; 0 by the template 'total and deterministic' (their statements: YtbjmekedlmoolaaTotals.lean).
  GIVEN WITH THE SEED: the statements are not yours to turn. If you find one false, say at which input.
  Laid BY PROGRAM, IN A SANDBOX (cutbox-rows.mjs): the forced cells as the released guide's own fill.sh prints them over the translation 358a5d3d5119153d… (all of the seat's roots in one cut). By AI agents, Wed Nov 11 2026. No macro, syntax, notation, axiom, sorry.
-/
import Derived.Test.YtbjmekedlmoolaaChecked
import GoSem.Claim
import GoSem.ClaimJoined
import GoSem.ClaimMapViews
import Derived.JoinedTies
import Derived.KernelRfl
namespace Go.Proofs.Ytbjmekedlmoolaa
/- THE CELL 'sum', in the pinned program and in every row, IS THE sha256 OF THE DUMP (.gsa) THAT YtbjmekedlmoolaaProg.lean LOADS. Nothing in Lean hashes anything: it is a label: what it is worth is what the hold of that sum in a sandbox is worth. -/
noncomputable def Try.pinned : Pinned := { name := "ytbjmekedlmoolaa", sum := "358a5d3d5119153dcfabe1a2760e4f8c638e2999214fafe518e95658254bb23c", checked := Try.checked }
namespace Rows
def none {H : Type} : Left H := { results := [], args := [] }

/-- 'switchyardlaw08.SiteDecodes': WHATEVER THE INPUT: true; the input reads as it did. -/
def siteDecodesSpec : ChangeSpec := { name := "siteDecodes", fn := fun _ => fun
  | [d1, d2] => { results := [.lit (.bool true)], args := [d1, d2] }
  | _ => none }
def siteDecodesRow : OpenClaim := { program := "ytbjmekedlmoolaa", sum := "358a5d3d5119153dcfabe1a2760e4f8c638e2999214fafe518e95658254bb23c", func := "switchyard/switchyardlaw08.SiteDecodes", spec := "siteDecodes", apart := false }
def SiteDecodesSaid : Prop := siteDecodesRow.holds Try.pinned (OpenSpec.ofChange siteDecodesSpec)

/-- ITS FALSE NEIGHBOUR: 'it returns false'. Refute it at one input. -/
def siteDecodesWrong : ChangeSpec := { name := "siteDecodes", fn := fun _ => fun
  | [d1, d2] => { results := [.lit (.bool false)], args := [d1, d2] }
  | _ => none }
def SiteDecodesWrongFalsely : Prop := siteDecodesRow.holds Try.pinned (OpenSpec.ofChange siteDecodesWrong)

/-- 'switchyardlaw08.SiteEncodes': WHATEVER THE INPUT: true; the input reads as it did. -/
def siteEncodesSpec : ChangeSpec := { name := "siteEncodes", fn := fun _ => fun
  | [d1, d2] => { results := [.lit (.bool true)], args := [d1, d2] }
  | _ => none }
def siteEncodesRow : OpenClaim := { program := "ytbjmekedlmoolaa", sum := "358a5d3d5119153dcfabe1a2760e4f8c638e2999214fafe518e95658254bb23c", func := "switchyard/switchyardlaw08.SiteEncodes", spec := "siteEncodes", apart := false }
def SiteEncodesSaid : Prop := siteEncodesRow.holds Try.pinned (OpenSpec.ofChange siteEncodesSpec)

/-- ITS FALSE NEIGHBOUR: 'it returns false'. Refute it at one input. -/
def siteEncodesWrong : ChangeSpec := { name := "siteEncodes", fn := fun _ => fun
  | [d1, d2] => { results := [.lit (.bool false)], args := [d1, d2] }
  | _ => none }
def SiteEncodesWrongFalsely : Prop := siteEncodesRow.holds Try.pinned (OpenSpec.ofChange siteEncodesWrong)

/-- 'switchyardlaw08.SiteBack': WHATEVER THE INPUT: true; the input reads as it did. -/
def siteBackSpec : ChangeSpec := { name := "siteBack", fn := fun _ => fun
  | [d1, d2, d3] => { results := [.lit (.bool true)], args := [d1, d2, d3] }
  | _ => none }
def siteBackRow : OpenClaim := { program := "ytbjmekedlmoolaa", sum := "358a5d3d5119153dcfabe1a2760e4f8c638e2999214fafe518e95658254bb23c", func := "switchyard/switchyardlaw08.SiteBack", spec := "siteBack", apart := false }
def SiteBackSaid : Prop := siteBackRow.holds Try.pinned (OpenSpec.ofChange siteBackSpec)

/-- ITS FALSE NEIGHBOUR: 'it returns false'. Refute it at one input. -/
def siteBackWrong : ChangeSpec := { name := "siteBack", fn := fun _ => fun
  | [d1, d2, d3] => { results := [.lit (.bool false)], args := [d1, d2, d3] }
  | _ => none }
def SiteBackWrongFalsely : Prop := siteBackRow.holds Try.pinned (OpenSpec.ofChange siteBackWrong)

/- THE SECOND FORM. 'bulk': how many values and letters a reading holds, each counted each time it is reached (what is shared counts as often as it is met; a slice's spare places count too). A statement '..UptoSaid' is the law's where the arguments, and the package variables that the reading takes, are together of bulk at most 1048576: NARROWER than '..Said'. Prove '..Said' where nothing that the law and all that it calls make is longer than what came in: it says more and counts as full. Else prove '..UptoSaid'. A law counts once. -/
mutual
def uptoBulk {H : Type} : DataW H → Nat
  | .lit (.string bytes) => bytes.length + 1
  | .lit _ => 1
  | .nil => 1
  | .ptr d => uptoBulk d + 1
  | .slice elems spare => uptoBulkAll elems + uptoBulkAll spare + 1
  | .agg parts => uptoBulkAll parts + 1
  | .iface _ d => uptoBulk d + 1
  | .map entries => uptoBulkEntries entries + 1
  | .held _ => 1
def uptoBulkAll {H : Type} : List (DataW H) → Nat
  | [] => 0
  | d :: r => uptoBulk d + uptoBulkAll r
def uptoBulkEntries {H : Type} : List (Lit × DataW H) → Nat
  | [] => 0
  | x :: r => uptoBulkEntry x + uptoBulkEntries r
def uptoBulkEntry {H : Type} : Lit × DataW H → Nat
  | (.string bytes, d) => bytes.length + uptoBulk d + 1
  | (_, d) => uptoBulk d + 1
 end
def uptoSmall : (H : Type) → List (DataW H) → Bool := fun _ ds => decide (uptoBulkAll ds ≤ 1048576)
def OpenSpec.upto (s : _root_.Go.ChangeSpec) : _root_.Go.OpenSpec := { _root_.Go.OpenSpec.ofChange s with cond := some uptoSmall }

/-- 'switchyardlaw08.SiteDecodes', WHERE WHAT IT READS IS OF BULK AT MOST 1048576: true; the input reads as it did. -/
def siteDecodesUptoRow : OpenClaim := { program := "ytbjmekedlmoolaa", sum := "358a5d3d5119153dcfabe1a2760e4f8c638e2999214fafe518e95658254bb23c", func := "switchyard/switchyardlaw08.SiteDecodes", spec := "siteDecodes", apart := false, narrowed := true }
def SiteDecodesUptoSaid : Prop := siteDecodesUptoRow.holds Try.pinned (OpenSpec.upto siteDecodesSpec)

/-- 'switchyardlaw08.SiteEncodes', WHERE WHAT IT READS IS OF BULK AT MOST 1048576: true; the input reads as it did. -/
def siteEncodesUptoRow : OpenClaim := { program := "ytbjmekedlmoolaa", sum := "358a5d3d5119153dcfabe1a2760e4f8c638e2999214fafe518e95658254bb23c", func := "switchyard/switchyardlaw08.SiteEncodes", spec := "siteEncodes", apart := false, narrowed := true }
def SiteEncodesUptoSaid : Prop := siteEncodesUptoRow.holds Try.pinned (OpenSpec.upto siteEncodesSpec)

/-- 'switchyardlaw08.SiteBack', WHERE WHAT IT READS IS OF BULK AT MOST 1048576: true; the input reads as it did. -/
def siteBackUptoRow : OpenClaim := { program := "ytbjmekedlmoolaa", sum := "358a5d3d5119153dcfabe1a2760e4f8c638e2999214fafe518e95658254bb23c", func := "switchyard/switchyardlaw08.SiteBack", spec := "siteBack", apart := false, narrowed := true }
def SiteBackUptoSaid : Prop := siteBackUptoRow.holds Try.pinned (OpenSpec.upto siteBackSpec)

end Rows
end Go.Proofs.Ytbjmekedlmoolaa
