/-
  No cell of these rows narrows 'for every input' (looked for: loops, veiled, ifaces, maps, wideKeys, modest, calm, conditions, laid).
  DERIVED. THE GIVEN ROWS OF THIS SEAT. 6 by the template 'for every input the law returns true; each argument reads behind the call as it read before'; 0 by the template 'total and deterministic' (their statements: YtgljgpllooehkaaTotals.lean).
  GIVEN WITH THE SEED: the statements are not yours to turn. If you find one false, say at which input.
  Laid BY PROGRAM, IN A SANDBOX (cutbox-rows.mjs): the forced cells as the released guide's own fill.sh prints them over the translation 7ade4bed62d14c34… (all of the seat's roots in one cut). By AI agents, Wed Nov 11 2026. No macro, syntax, notation, axiom, sorry.
-/
import Derived.Test.YtgljgpllooehkaaChecked
import GoSem.Claim
import GoSem.ClaimJoined
import GoSem.ClaimMapViews
import Derived.JoinedTies
import Derived.KernelRfl
namespace Go.Proofs.Ytgljgpllooehkaa
/- THE CELL 'sum', in the pinned program and in every row, IS THE sha256 OF THE DUMP (.gsa) THAT YtgljgpllooehkaaProg.lean LOADS. Nothing in Lean hashes anything: it is a label: what it is worth is what the hold of that sum in a sandbox is worth. -/
noncomputable def Try.pinned : Pinned := { name := "ytgljgpllooehkaa", sum := "7ade4bed62d14c348a38c7044a1af80fb2ba34239f90ea93b685cb12f02fc106", checked := Try.checked }
namespace Rows
def none {H : Type} : Left H := { results := [], args := [] }

/-- 'switchyardlaw07.LitmusAll': WHATEVER THE INPUT: true; the input reads as it did. -/
def litmusAllSpec : ChangeSpec := { name := "litmusAll", fn := fun _ => fun
  | [d1, d2] => { results := [.lit (.bool true)], args := [d1, d2] }
  | _ => none }
def litmusAllRow : OpenClaim := { program := "ytgljgpllooehkaa", sum := "7ade4bed62d14c348a38c7044a1af80fb2ba34239f90ea93b685cb12f02fc106", func := "switchyard/switchyardlaw07.LitmusAll", spec := "litmusAll", unfollowed := true, recurses := true, plainKeys := false, apart := false }
def LitmusAllSaid : Prop := litmusAllRow.holds Try.pinned (OpenSpec.ofChange litmusAllSpec)

/-- ITS FALSE NEIGHBOUR: 'it returns false'. Refute it at one input. -/
def litmusAllWrong : ChangeSpec := { name := "litmusAll", fn := fun _ => fun
  | [d1, d2] => { results := [.lit (.bool false)], args := [d1, d2] }
  | _ => none }
def LitmusAllWrongFalsely : Prop := litmusAllRow.holds Try.pinned (OpenSpec.ofChange litmusAllWrong)

/-- 'switchyardlaw07.LitmusCan': WHATEVER THE INPUT: true; the input reads as it did. -/
def litmusCanSpec : ChangeSpec := { name := "litmusCan", fn := fun _ => fun
  | [d1, d2, d3] => { results := [.lit (.bool true)], args := [d1, d2, d3] }
  | _ => none }
def litmusCanRow : OpenClaim := { program := "ytgljgpllooehkaa", sum := "7ade4bed62d14c348a38c7044a1af80fb2ba34239f90ea93b685cb12f02fc106", func := "switchyard/switchyardlaw07.LitmusCan", spec := "litmusCan", unfollowed := true, recurses := true, plainKeys := false, apart := false }
def LitmusCanSaid : Prop := litmusCanRow.holds Try.pinned (OpenSpec.ofChange litmusCanSpec)

/-- ITS FALSE NEIGHBOUR: 'it returns false'. Refute it at one input. -/
def litmusCanWrong : ChangeSpec := { name := "litmusCan", fn := fun _ => fun
  | [d1, d2, d3] => { results := [.lit (.bool false)], args := [d1, d2, d3] }
  | _ => none }
def LitmusCanWrongFalsely : Prop := litmusCanRow.holds Try.pinned (OpenSpec.ofChange litmusCanWrong)

/-- 'switchyardlaw07.LitmusGrows': WHATEVER THE INPUT: true; the input reads as it did. -/
def litmusGrowsSpec : ChangeSpec := { name := "litmusGrows", fn := fun _ => fun
  | [d1, d2] => { results := [.lit (.bool true)], args := [d1, d2] }
  | _ => none }
def litmusGrowsRow : OpenClaim := { program := "ytgljgpllooehkaa", sum := "7ade4bed62d14c348a38c7044a1af80fb2ba34239f90ea93b685cb12f02fc106", func := "switchyard/switchyardlaw07.LitmusGrows", spec := "litmusGrows", unfollowed := true, recurses := true, plainKeys := false, apart := false }
def LitmusGrowsSaid : Prop := litmusGrowsRow.holds Try.pinned (OpenSpec.ofChange litmusGrowsSpec)

/-- ITS FALSE NEIGHBOUR: 'it returns false'. Refute it at one input. -/
def litmusGrowsWrong : ChangeSpec := { name := "litmusGrows", fn := fun _ => fun
  | [d1, d2] => { results := [.lit (.bool false)], args := [d1, d2] }
  | _ => none }
def LitmusGrowsWrongFalsely : Prop := litmusGrowsRow.holds Try.pinned (OpenSpec.ofChange litmusGrowsWrong)

/-- 'switchyardlaw07.LitmusFenced': WHATEVER THE INPUT: true; the input reads as it did. -/
def litmusFencedSpec : ChangeSpec := { name := "litmusFenced", fn := fun _ => fun
  | [d1, d2] => { results := [.lit (.bool true)], args := [d1, d2] }
  | _ => none }
def litmusFencedRow : OpenClaim := { program := "ytgljgpllooehkaa", sum := "7ade4bed62d14c348a38c7044a1af80fb2ba34239f90ea93b685cb12f02fc106", func := "switchyard/switchyardlaw07.LitmusFenced", spec := "litmusFenced", unfollowed := true, recurses := true, plainKeys := false, apart := false }
def LitmusFencedSaid : Prop := litmusFencedRow.holds Try.pinned (OpenSpec.ofChange litmusFencedSpec)

/-- ITS FALSE NEIGHBOUR: 'it returns false'. Refute it at one input. -/
def litmusFencedWrong : ChangeSpec := { name := "litmusFenced", fn := fun _ => fun
  | [d1, d2] => { results := [.lit (.bool false)], args := [d1, d2] }
  | _ => none }
def LitmusFencedWrongFalsely : Prop := litmusFencedRow.holds Try.pinned (OpenSpec.ofChange litmusFencedWrong)

/-- 'switchyardlaw07.LitmusOrder': WHATEVER THE INPUT: true; the input reads as it did. -/
def litmusOrderSpec : ChangeSpec := { name := "litmusOrder", fn := fun _ => fun
  | [d1, d2, d3] => { results := [.lit (.bool true)], args := [d1, d2, d3] }
  | _ => none }
def litmusOrderRow : OpenClaim := { program := "ytgljgpllooehkaa", sum := "7ade4bed62d14c348a38c7044a1af80fb2ba34239f90ea93b685cb12f02fc106", func := "switchyard/switchyardlaw07.LitmusOrder", spec := "litmusOrder", unfollowed := true, recurses := true, plainKeys := false, apart := false }
def LitmusOrderSaid : Prop := litmusOrderRow.holds Try.pinned (OpenSpec.ofChange litmusOrderSpec)

/-- ITS FALSE NEIGHBOUR: 'it returns false'. Refute it at one input. -/
def litmusOrderWrong : ChangeSpec := { name := "litmusOrder", fn := fun _ => fun
  | [d1, d2, d3] => { results := [.lit (.bool false)], args := [d1, d2, d3] }
  | _ => none }
def LitmusOrderWrongFalsely : Prop := litmusOrderRow.holds Try.pinned (OpenSpec.ofChange litmusOrderWrong)

/-- 'switchyardlaw07.LitmusAlone': WHATEVER THE INPUT: true; the input reads as it did. -/
def litmusAloneSpec : ChangeSpec := { name := "litmusAlone", fn := fun _ => fun
  | [d1, d2] => { results := [.lit (.bool true)], args := [d1, d2] }
  | _ => none }
def litmusAloneRow : OpenClaim := { program := "ytgljgpllooehkaa", sum := "7ade4bed62d14c348a38c7044a1af80fb2ba34239f90ea93b685cb12f02fc106", func := "switchyard/switchyardlaw07.LitmusAlone", spec := "litmusAlone", unfollowed := true, recurses := true, plainKeys := false, apart := false }
def LitmusAloneSaid : Prop := litmusAloneRow.holds Try.pinned (OpenSpec.ofChange litmusAloneSpec)

/-- ITS FALSE NEIGHBOUR: 'it returns false'. Refute it at one input. -/
def litmusAloneWrong : ChangeSpec := { name := "litmusAlone", fn := fun _ => fun
  | [d1, d2] => { results := [.lit (.bool false)], args := [d1, d2] }
  | _ => none }
def LitmusAloneWrongFalsely : Prop := litmusAloneRow.holds Try.pinned (OpenSpec.ofChange litmusAloneWrong)

/- THE SECOND FORM. 'bulk': how many values and letters a reading holds, each counted each time it is reached (what is shared counts as often as it is met; a slice's spare places count too). A statement '..UptoSaid' is the law's where the arguments, and the package variables that the reading takes, are together of bulk at most 1048576: NARROWER than '..Said'. Prove '..Said' where nothing that the law and all that it calls make is longer than what came in: it says more and counts as full. Else prove '..UptoSaid'. A law counts once. -/
mutual
def uptoBulk {H : Type} : DataW H → Nat
  | .lit (.string bytes) => bytes.length + 1
  | .lit _ => 1
  | .nil => 1
  | .ptr d => uptoBulk d + 1
  | .slice elems spare => uptoBulkAll elems + uptoBulkAll spare + 1
  | .agg parts => uptoBulkAll parts + 1
  | .iface _ d => uptoBulk d + 1
  | .map entries => uptoBulkEntries entries + 1
  | .held _ => 1
def uptoBulkAll {H : Type} : List (DataW H) → Nat
  | [] => 0
  | d :: r => uptoBulk d + uptoBulkAll r
def uptoBulkEntries {H : Type} : List (Lit × DataW H) → Nat
  | [] => 0
  | x :: r => uptoBulkEntry x + uptoBulkEntries r
def uptoBulkEntry {H : Type} : Lit × DataW H → Nat
  | (.string bytes, d) => bytes.length + uptoBulk d + 1
  | (_, d) => uptoBulk d + 1
 end
def uptoSmall : (H : Type) → List (DataW H) → Bool := fun _ ds => decide (uptoBulkAll ds ≤ 1048576)
def OpenSpec.upto (s : _root_.Go.ChangeSpec) : _root_.Go.OpenSpec := { _root_.Go.OpenSpec.ofChange s with cond := some uptoSmall }

/-- 'switchyardlaw07.LitmusAll', WHERE WHAT IT READS IS OF BULK AT MOST 1048576: true; the input reads as it did. -/
def litmusAllUptoRow : OpenClaim := { program := "ytgljgpllooehkaa", sum := "7ade4bed62d14c348a38c7044a1af80fb2ba34239f90ea93b685cb12f02fc106", func := "switchyard/switchyardlaw07.LitmusAll", spec := "litmusAll", unfollowed := true, recurses := true, plainKeys := false, apart := false, narrowed := true }
def LitmusAllUptoSaid : Prop := litmusAllUptoRow.holds Try.pinned (OpenSpec.upto litmusAllSpec)

/-- 'switchyardlaw07.LitmusCan', WHERE WHAT IT READS IS OF BULK AT MOST 1048576: true; the input reads as it did. -/
def litmusCanUptoRow : OpenClaim := { program := "ytgljgpllooehkaa", sum := "7ade4bed62d14c348a38c7044a1af80fb2ba34239f90ea93b685cb12f02fc106", func := "switchyard/switchyardlaw07.LitmusCan", spec := "litmusCan", unfollowed := true, recurses := true, plainKeys := false, apart := false, narrowed := true }
def LitmusCanUptoSaid : Prop := litmusCanUptoRow.holds Try.pinned (OpenSpec.upto litmusCanSpec)

/-- 'switchyardlaw07.LitmusGrows', WHERE WHAT IT READS IS OF BULK AT MOST 1048576: true; the input reads as it did. -/
def litmusGrowsUptoRow : OpenClaim := { program := "ytgljgpllooehkaa", sum := "7ade4bed62d14c348a38c7044a1af80fb2ba34239f90ea93b685cb12f02fc106", func := "switchyard/switchyardlaw07.LitmusGrows", spec := "litmusGrows", unfollowed := true, recurses := true, plainKeys := false, apart := false, narrowed := true }
def LitmusGrowsUptoSaid : Prop := litmusGrowsUptoRow.holds Try.pinned (OpenSpec.upto litmusGrowsSpec)

/-- 'switchyardlaw07.LitmusFenced', WHERE WHAT IT READS IS OF BULK AT MOST 1048576: true; the input reads as it did. -/
def litmusFencedUptoRow : OpenClaim := { program := "ytgljgpllooehkaa", sum := "7ade4bed62d14c348a38c7044a1af80fb2ba34239f90ea93b685cb12f02fc106", func := "switchyard/switchyardlaw07.LitmusFenced", spec := "litmusFenced", unfollowed := true, recurses := true, plainKeys := false, apart := false, narrowed := true }
def LitmusFencedUptoSaid : Prop := litmusFencedUptoRow.holds Try.pinned (OpenSpec.upto litmusFencedSpec)

/-- 'switchyardlaw07.LitmusOrder', WHERE WHAT IT READS IS OF BULK AT MOST 1048576: true; the input reads as it did. -/
def litmusOrderUptoRow : OpenClaim := { program := "ytgljgpllooehkaa", sum := "7ade4bed62d14c348a38c7044a1af80fb2ba34239f90ea93b685cb12f02fc106", func := "switchyard/switchyardlaw07.LitmusOrder", spec := "litmusOrder", unfollowed := true, recurses := true, plainKeys := false, apart := false, narrowed := true }
def LitmusOrderUptoSaid : Prop := litmusOrderUptoRow.holds Try.pinned (OpenSpec.upto litmusOrderSpec)

/-- 'switchyardlaw07.LitmusAlone', WHERE WHAT IT READS IS OF BULK AT MOST 1048576: true; the input reads as it did. -/
def litmusAloneUptoRow : OpenClaim := { program := "ytgljgpllooehkaa", sum := "7ade4bed62d14c348a38c7044a1af80fb2ba34239f90ea93b685cb12f02fc106", func := "switchyard/switchyardlaw07.LitmusAlone", spec := "litmusAlone", unfollowed := true, recurses := true, plainKeys := false, apart := false, narrowed := true }
def LitmusAloneUptoSaid : Prop := litmusAloneUptoRow.holds Try.pinned (OpenSpec.upto litmusAloneSpec)

end Rows
end Go.Proofs.Ytgljgpllooehkaa
