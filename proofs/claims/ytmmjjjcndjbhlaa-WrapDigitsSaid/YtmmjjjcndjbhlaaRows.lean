/-
  No cell of these rows narrows 'for every input' (looked for: loops, veiled, ifaces, maps, wideKeys, modest, calm, conditions, laid).
  DERIVED. THE GIVEN ROWS OF THIS SEAT. 5 by the template 'for every input the law returns true; each argument reads behind the call as it read before'; 0 by the template 'total and deterministic' (their statements: YtmmjjjcndjbhlaaTotals.lean).
  GIVEN WITH THE SEED: the statements are not yours to turn. If you find one false, say at which input.
  Laid BY PROGRAM, IN A SANDBOX (cutbox-rows.mjs): the forced cells as the released guide's own fill.sh prints them over the translation 9e858bc6f4e64637… (all of the seat's roots in one cut). By AI agents, Wed Nov 11 2026. No macro, syntax, notation, axiom, sorry.
-/
import Derived.Test.YtmmjjjcndjbhlaaChecked
import GoSem.Claim
import GoSem.ClaimJoined
import GoSem.ClaimMapViews
import Derived.JoinedTies
import Derived.KernelRfl
namespace Go.Proofs.Ytmmjjjcndjbhlaa
/- THE CELL 'sum', in the pinned program and in every row, IS THE sha256 OF THE DUMP (.gsa) THAT YtmmjjjcndjbhlaaProg.lean LOADS. Nothing in Lean hashes anything: it is a label: what it is worth is what the hold of that sum in a sandbox is worth. -/
noncomputable def Try.pinned : Pinned := { name := "ytmmjjjcndjbhlaa", sum := "9e858bc6f4e6463718e3a9777d295030fb274b40643aa9b98fbf47303cdf4db1", checked := Try.checked }
namespace Rows
def none {H : Type} : Left H := { results := [], args := [] }

/-- 'switchyardlaw01.WrapWords': WHATEVER THE INPUT: true; the input reads as it did. -/
def wrapWordsSpec : ChangeSpec := { name := "wrapWords", fn := fun _ => fun
  | [d1, d2] => { results := [.lit (.bool true)], args := [d1, d2] }
  | _ => none }
def wrapWordsRow : OpenClaim := { program := "ytmmjjjcndjbhlaa", sum := "9e858bc6f4e6463718e3a9777d295030fb274b40643aa9b98fbf47303cdf4db1", func := "switchyard/switchyardlaw01.WrapWords", spec := "wrapWords", apart := false }
def WrapWordsSaid : Prop := wrapWordsRow.holds Try.pinned (OpenSpec.ofChange wrapWordsSpec)

/-- ITS FALSE NEIGHBOUR: 'it returns false'. Refute it at one input. -/
def wrapWordsWrong : ChangeSpec := { name := "wrapWords", fn := fun _ => fun
  | [d1, d2] => { results := [.lit (.bool false)], args := [d1, d2] }
  | _ => none }
def WrapWordsWrongFalsely : Prop := wrapWordsRow.holds Try.pinned (OpenSpec.ofChange wrapWordsWrong)

/-- 'switchyardlaw01.WrapRuns': WHATEVER THE INPUT: true; the input reads as it did. -/
def wrapRunsSpec : ChangeSpec := { name := "wrapRuns", fn := fun _ => fun
  | [d1, d2, d3] => { results := [.lit (.bool true)], args := [d1, d2, d3] }
  | _ => none }
def wrapRunsRow : OpenClaim := { program := "ytmmjjjcndjbhlaa", sum := "9e858bc6f4e6463718e3a9777d295030fb274b40643aa9b98fbf47303cdf4db1", func := "switchyard/switchyardlaw01.WrapRuns", spec := "wrapRuns", apart := false }
def WrapRunsSaid : Prop := wrapRunsRow.holds Try.pinned (OpenSpec.ofChange wrapRunsSpec)

/-- ITS FALSE NEIGHBOUR: 'it returns false'. Refute it at one input. -/
def wrapRunsWrong : ChangeSpec := { name := "wrapRuns", fn := fun _ => fun
  | [d1, d2, d3] => { results := [.lit (.bool false)], args := [d1, d2, d3] }
  | _ => none }
def WrapRunsWrongFalsely : Prop := wrapRunsRow.holds Try.pinned (OpenSpec.ofChange wrapRunsWrong)

/-- 'switchyardlaw01.WrapDigits': WHATEVER THE INPUT: true; the input reads as it did. -/
def wrapDigitsSpec : ChangeSpec := { name := "wrapDigits", fn := fun _ => fun
  | [d1, d2] => { results := [.lit (.bool true)], args := [d1, d2] }
  | _ => none }
def wrapDigitsRow : OpenClaim := { program := "ytmmjjjcndjbhlaa", sum := "9e858bc6f4e6463718e3a9777d295030fb274b40643aa9b98fbf47303cdf4db1", func := "switchyard/switchyardlaw01.WrapDigits", spec := "wrapDigits", apart := false }
def WrapDigitsSaid : Prop := wrapDigitsRow.holds Try.pinned (OpenSpec.ofChange wrapDigitsSpec)

/-- ITS FALSE NEIGHBOUR: 'it returns false'. Refute it at one input. -/
def wrapDigitsWrong : ChangeSpec := { name := "wrapDigits", fn := fun _ => fun
  | [d1, d2] => { results := [.lit (.bool false)], args := [d1, d2] }
  | _ => none }
def WrapDigitsWrongFalsely : Prop := wrapDigitsRow.holds Try.pinned (OpenSpec.ofChange wrapDigitsWrong)

/-- 'switchyardlaw01.WrapBack': WHATEVER THE INPUT: true; the input reads as it did. -/
def wrapBackSpec : ChangeSpec := { name := "wrapBack", fn := fun _ => fun
  | [d1, d2, d3] => { results := [.lit (.bool true)], args := [d1, d2, d3] }
  | _ => none }
def wrapBackRow : OpenClaim := { program := "ytmmjjjcndjbhlaa", sum := "9e858bc6f4e6463718e3a9777d295030fb274b40643aa9b98fbf47303cdf4db1", func := "switchyard/switchyardlaw01.WrapBack", spec := "wrapBack", apart := false }
def WrapBackSaid : Prop := wrapBackRow.holds Try.pinned (OpenSpec.ofChange wrapBackSpec)

/-- ITS FALSE NEIGHBOUR: 'it returns false'. Refute it at one input. -/
def wrapBackWrong : ChangeSpec := { name := "wrapBack", fn := fun _ => fun
  | [d1, d2, d3] => { results := [.lit (.bool false)], args := [d1, d2, d3] }
  | _ => none }
def WrapBackWrongFalsely : Prop := wrapBackRow.holds Try.pinned (OpenSpec.ofChange wrapBackWrong)

/-- 'switchyardlaw01.WrapIn': WHATEVER THE INPUT: true; the input reads as it did. -/
def wrapInSpec : ChangeSpec := { name := "wrapIn", fn := fun _ => fun
  | [d1, d2, d3] => { results := [.lit (.bool true)], args := [d1, d2, d3] }
  | _ => none }
def wrapInRow : OpenClaim := { program := "ytmmjjjcndjbhlaa", sum := "9e858bc6f4e6463718e3a9777d295030fb274b40643aa9b98fbf47303cdf4db1", func := "switchyard/switchyardlaw01.WrapIn", spec := "wrapIn", apart := false }
def WrapInSaid : Prop := wrapInRow.holds Try.pinned (OpenSpec.ofChange wrapInSpec)

/-- ITS FALSE NEIGHBOUR: 'it returns false'. Refute it at one input. -/
def wrapInWrong : ChangeSpec := { name := "wrapIn", fn := fun _ => fun
  | [d1, d2, d3] => { results := [.lit (.bool false)], args := [d1, d2, d3] }
  | _ => none }
def WrapInWrongFalsely : Prop := wrapInRow.holds Try.pinned (OpenSpec.ofChange wrapInWrong)

/- THE SECOND FORM. 'bulk': how many values and letters a reading holds, each counted each time it is reached (what is shared counts as often as it is met; a slice's spare places count too). A statement '..UptoSaid' is the law's where the arguments, and the package variables that the reading takes, are together of bulk at most 1048576: NARROWER than '..Said'. Prove '..Said' where nothing that the law and all that it calls make is longer than what came in: it says more and counts as full. Else prove '..UptoSaid'. A law counts once. -/
mutual
def uptoBulk {H : Type} : DataW H → Nat
  | .lit (.string bytes) => bytes.length + 1
  | .lit _ => 1
  | .nil => 1
  | .ptr d => uptoBulk d + 1
  | .slice elems spare => uptoBulkAll elems + uptoBulkAll spare + 1
  | .agg parts => uptoBulkAll parts + 1
  | .iface _ d => uptoBulk d + 1
  | .map entries => uptoBulkEntries entries + 1
  | .held _ => 1
def uptoBulkAll {H : Type} : List (DataW H) → Nat
  | [] => 0
  | d :: r => uptoBulk d + uptoBulkAll r
def uptoBulkEntries {H : Type} : List (Lit × DataW H) → Nat
  | [] => 0
  | x :: r => uptoBulkEntry x + uptoBulkEntries r
def uptoBulkEntry {H : Type} : Lit × DataW H → Nat
  | (.string bytes, d) => bytes.length + uptoBulk d + 1
  | (_, d) => uptoBulk d + 1
 end
def uptoSmall : (H : Type) → List (DataW H) → Bool := fun _ ds => decide (uptoBulkAll ds ≤ 1048576)
def OpenSpec.upto (s : _root_.Go.ChangeSpec) : _root_.Go.OpenSpec := { _root_.Go.OpenSpec.ofChange s with cond := some uptoSmall }

/-- 'switchyardlaw01.WrapWords', WHERE WHAT IT READS IS OF BULK AT MOST 1048576: true; the input reads as it did. -/
def wrapWordsUptoRow : OpenClaim := { program := "ytmmjjjcndjbhlaa", sum := "9e858bc6f4e6463718e3a9777d295030fb274b40643aa9b98fbf47303cdf4db1", func := "switchyard/switchyardlaw01.WrapWords", spec := "wrapWords", apart := false, narrowed := true }
def WrapWordsUptoSaid : Prop := wrapWordsUptoRow.holds Try.pinned (OpenSpec.upto wrapWordsSpec)

/-- 'switchyardlaw01.WrapRuns', WHERE WHAT IT READS IS OF BULK AT MOST 1048576: true; the input reads as it did. -/
def wrapRunsUptoRow : OpenClaim := { program := "ytmmjjjcndjbhlaa", sum := "9e858bc6f4e6463718e3a9777d295030fb274b40643aa9b98fbf47303cdf4db1", func := "switchyard/switchyardlaw01.WrapRuns", spec := "wrapRuns", apart := false, narrowed := true }
def WrapRunsUptoSaid : Prop := wrapRunsUptoRow.holds Try.pinned (OpenSpec.upto wrapRunsSpec)

/-- 'switchyardlaw01.WrapDigits', WHERE WHAT IT READS IS OF BULK AT MOST 1048576: true; the input reads as it did. -/
def wrapDigitsUptoRow : OpenClaim := { program := "ytmmjjjcndjbhlaa", sum := "9e858bc6f4e6463718e3a9777d295030fb274b40643aa9b98fbf47303cdf4db1", func := "switchyard/switchyardlaw01.WrapDigits", spec := "wrapDigits", apart := false, narrowed := true }
def WrapDigitsUptoSaid : Prop := wrapDigitsUptoRow.holds Try.pinned (OpenSpec.upto wrapDigitsSpec)

/-- 'switchyardlaw01.WrapBack', WHERE WHAT IT READS IS OF BULK AT MOST 1048576: true; the input reads as it did. -/
def wrapBackUptoRow : OpenClaim := { program := "ytmmjjjcndjbhlaa", sum := "9e858bc6f4e6463718e3a9777d295030fb274b40643aa9b98fbf47303cdf4db1", func := "switchyard/switchyardlaw01.WrapBack", spec := "wrapBack", apart := false, narrowed := true }
def WrapBackUptoSaid : Prop := wrapBackUptoRow.holds Try.pinned (OpenSpec.upto wrapBackSpec)

/-- 'switchyardlaw01.WrapIn', WHERE WHAT IT READS IS OF BULK AT MOST 1048576: true; the input reads as it did. -/
def wrapInUptoRow : OpenClaim := { program := "ytmmjjjcndjbhlaa", sum := "9e858bc6f4e6463718e3a9777d295030fb274b40643aa9b98fbf47303cdf4db1", func := "switchyard/switchyardlaw01.WrapIn", spec := "wrapIn", apart := false, narrowed := true }
def WrapInUptoSaid : Prop := wrapInUptoRow.holds Try.pinned (OpenSpec.upto wrapInSpec)

end Rows
end Go.Proofs.Ytmmjjjcndjbhlaa
