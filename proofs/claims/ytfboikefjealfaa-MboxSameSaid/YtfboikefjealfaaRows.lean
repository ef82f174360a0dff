/-
  No cell of these rows narrows 'for every input' (looked for: loops, veiled, ifaces, maps, wideKeys, modest, calm, conditions, laid).
  DERIVED. THE GIVEN ROWS OF THIS SEAT. 4 by the template 'for every input the law returns true; each argument reads behind the call as it read before'; 0 by the template 'total and deterministic' (their statements: YtfboikefjealfaaTotals.lean).
  GIVEN WITH THE SEED: the statements are not yours to turn. If you find one false, say at which input.
  Laid BY PROGRAM, IN A SANDBOX (cutbox-rows.mjs): the forced cells as the released guide's own fill.sh prints them over the translation 72749e6452cb8afd… (all of the seat's roots in one cut). By AI agents, Wed Nov 11 2026. No macro, syntax, notation, axiom, sorry.
-/
import Derived.Test.YtfboikefjealfaaChecked
import GoSem.Claim
import GoSem.ClaimJoined
import GoSem.ClaimMapViews
import Derived.JoinedTies
import Derived.KernelRfl
namespace Go.Proofs.Ytfboikefjealfaa
/- THE CELL 'sum', in the pinned program and in every row, IS THE sha256 OF THE DUMP (.gsa) THAT YtfboikefjealfaaProg.lean LOADS. Nothing in Lean hashes anything: it is a label: what it is worth is what the hold of that sum in a sandbox is worth. -/
noncomputable def Try.pinned : Pinned := { name := "ytfboikefjealfaa", sum := "72749e6452cb8afd8194f89700aab35f994307ab2d673d956b199132584e322d", checked := Try.checked }
namespace Rows
def none {H : Type} : Left H := { results := [], args := [] }

/-- 'switchyardlaw09.MboxPlays': WHATEVER THE INPUT: true; the input reads as it did. -/
def mboxPlaysSpec : ChangeSpec := { name := "mboxPlays", fn := fun _ => fun
  | [d1, d2] => { results := [.lit (.bool true)], args := [d1, d2] }
  | _ => none }
def mboxPlaysRow : OpenClaim := { program := "ytfboikefjealfaa", sum := "72749e6452cb8afd8194f89700aab35f994307ab2d673d956b199132584e322d", func := "switchyard/switchyardlaw09.MboxPlays", spec := "mboxPlays", unfollowed := true, recurses := true, apart := false }
def MboxPlaysSaid : Prop := mboxPlaysRow.holds Try.pinned (OpenSpec.ofChange mboxPlaysSpec)

/-- ITS FALSE NEIGHBOUR: 'it returns false'. Refute it at one input. -/
def mboxPlaysWrong : ChangeSpec := { name := "mboxPlays", fn := fun _ => fun
  | [d1, d2] => { results := [.lit (.bool false)], args := [d1, d2] }
  | _ => none }
def MboxPlaysWrongFalsely : Prop := mboxPlaysRow.holds Try.pinned (OpenSpec.ofChange mboxPlaysWrong)

/-- 'switchyardlaw09.MboxSame': WHATEVER THE INPUT: true; the input reads as it did. -/
def mboxSameSpec : ChangeSpec := { name := "mboxSame", fn := fun _ => fun
  | [d1, d2, d3] => { results := [.lit (.bool true)], args := [d1, d2, d3] }
  | _ => none }
def mboxSameRow : OpenClaim := { program := "ytfboikefjealfaa", sum := "72749e6452cb8afd8194f89700aab35f994307ab2d673d956b199132584e322d", func := "switchyard/switchyardlaw09.MboxSame", spec := "mboxSame", unfollowed := true, recurses := true, apart := false }
def MboxSameSaid : Prop := mboxSameRow.holds Try.pinned (OpenSpec.ofChange mboxSameSpec)

/-- ITS FALSE NEIGHBOUR: 'it returns false'. Refute it at one input. -/
def mboxSameWrong : ChangeSpec := { name := "mboxSame", fn := fun _ => fun
  | [d1, d2, d3] => { results := [.lit (.bool false)], args := [d1, d2, d3] }
  | _ => none }
def MboxSameWrongFalsely : Prop := mboxSameRow.holds Try.pinned (OpenSpec.ofChange mboxSameWrong)

/-- 'switchyardlaw09.MboxOrder': WHATEVER THE INPUT: true; the input reads as it did. -/
def mboxOrderSpec : ChangeSpec := { name := "mboxOrder", fn := fun _ => fun
  | [d1, d2, d3] => { results := [.lit (.bool true)], args := [d1, d2, d3] }
  | _ => none }
def mboxOrderRow : OpenClaim := { program := "ytfboikefjealfaa", sum := "72749e6452cb8afd8194f89700aab35f994307ab2d673d956b199132584e322d", func := "switchyard/switchyardlaw09.MboxOrder", spec := "mboxOrder", unfollowed := true, recurses := true, apart := false }
def MboxOrderSaid : Prop := mboxOrderRow.holds Try.pinned (OpenSpec.ofChange mboxOrderSpec)

/-- ITS FALSE NEIGHBOUR: 'it returns false'. Refute it at one input. -/
def mboxOrderWrong : ChangeSpec := { name := "mboxOrder", fn := fun _ => fun
  | [d1, d2, d3] => { results := [.lit (.bool false)], args := [d1, d2, d3] }
  | _ => none }
def MboxOrderWrongFalsely : Prop := mboxOrderRow.holds Try.pinned (OpenSpec.ofChange mboxOrderWrong)

/-- 'switchyardlaw09.MboxNobody': WHATEVER THE INPUT: true; the input reads as it did. -/
def mboxNobodySpec : ChangeSpec := { name := "mboxNobody", fn := fun _ => fun
  | [d] => { results := [.lit (.bool true)], args := [d] }
  | _ => none }
def mboxNobodyRow : OpenClaim := { program := "ytfboikefjealfaa", sum := "72749e6452cb8afd8194f89700aab35f994307ab2d673d956b199132584e322d", func := "switchyard/switchyardlaw09.MboxNobody", spec := "mboxNobody", unfollowed := true, recurses := true, apart := false }
def MboxNobodySaid : Prop := mboxNobodyRow.holds Try.pinned (OpenSpec.ofChange mboxNobodySpec)

/-- ITS FALSE NEIGHBOUR: 'it returns false'. Refute it at one input. -/
def mboxNobodyWrong : ChangeSpec := { name := "mboxNobody", fn := fun _ => fun
  | [d] => { results := [.lit (.bool false)], args := [d] }
  | _ => none }
def MboxNobodyWrongFalsely : Prop := mboxNobodyRow.holds Try.pinned (OpenSpec.ofChange mboxNobodyWrong)

/- THE SECOND FORM. 'bulk': how many values and letters a reading holds, each counted each time it is reached (what is shared counts as often as it is met; a slice's spare places count too). A statement '..UptoSaid' is the law's where the arguments, and the package variables that the reading takes, are together of bulk at most 1048576: NARROWER than '..Said'. Prove '..Said' where nothing that the law and all that it calls make is longer than what came in: it says more and counts as full. Else prove '..UptoSaid'. A law counts once. -/
mutual
def uptoBulk {H : Type} : DataW H → Nat
  | .lit (.string bytes) => bytes.length + 1
  | .lit _ => 1
  | .nil => 1
  | .ptr d => uptoBulk d + 1
  | .slice elems spare => uptoBulkAll elems + uptoBulkAll spare + 1
  | .agg parts => uptoBulkAll parts + 1
  | .iface _ d => uptoBulk d + 1
  | .map entries => uptoBulkEntries entries + 1
  | .held _ => 1
def uptoBulkAll {H : Type} : List (DataW H) → Nat
  | [] => 0
  | d :: r => uptoBulk d + uptoBulkAll r
def uptoBulkEntries {H : Type} : List (Lit × DataW H) → Nat
  | [] => 0
  | x :: r => uptoBulkEntry x + uptoBulkEntries r
def uptoBulkEntry {H : Type} : Lit × DataW H → Nat
  | (.string bytes, d) => bytes.length + uptoBulk d + 1
  | (_, d) => uptoBulk d + 1
 end
def uptoSmall : (H : Type) → List (DataW H) → Bool := fun _ ds => decide (uptoBulkAll ds ≤ 1048576)
def OpenSpec.upto (s : _root_.Go.ChangeSpec) : _root_.Go.OpenSpec := { _root_.Go.OpenSpec.ofChange s with cond := some uptoSmall }

/-- 'switchyardlaw09.MboxPlays', WHERE WHAT IT READS IS OF BULK AT MOST 1048576: true; the input reads as it did. -/
def mboxPlaysUptoRow : OpenClaim := { program := "ytfboikefjealfaa", sum := "72749e6452cb8afd8194f89700aab35f994307ab2d673d956b199132584e322d", func := "switchyard/switchyardlaw09.MboxPlays", spec := "mboxPlays", unfollowed := true, recurses := true, apart := false, narrowed := true }
def MboxPlaysUptoSaid : Prop := mboxPlaysUptoRow.holds Try.pinned (OpenSpec.upto mboxPlaysSpec)

/-- 'switchyardlaw09.MboxSame', WHERE WHAT IT READS IS OF BULK AT MOST 1048576: true; the input reads as it did. -/
def mboxSameUptoRow : OpenClaim := { program := "ytfboikefjealfaa", sum := "72749e6452cb8afd8194f89700aab35f994307ab2d673d956b199132584e322d", func := "switchyard/switchyardlaw09.MboxSame", spec := "mboxSame", unfollowed := true, recurses := true, apart := false, narrowed := true }
def MboxSameUptoSaid : Prop := mboxSameUptoRow.holds Try.pinned (OpenSpec.upto mboxSameSpec)

/-- 'switchyardlaw09.MboxOrder', WHERE WHAT IT READS IS OF BULK AT MOST 1048576: true; the input reads as it did. -/
def mboxOrderUptoRow : OpenClaim := { program := "ytfboikefjealfaa", sum := "72749e6452cb8afd8194f89700aab35f994307ab2d673d956b199132584e322d", func := "switchyard/switchyardlaw09.MboxOrder", spec := "mboxOrder", unfollowed := true, recurses := true, apart := false, narrowed := true }
def MboxOrderUptoSaid : Prop := mboxOrderUptoRow.holds Try.pinned (OpenSpec.upto mboxOrderSpec)

/-- 'switchyardlaw09.MboxNobody', WHERE WHAT IT READS IS OF BULK AT MOST 1048576: true; the input reads as it did. -/
def mboxNobodyUptoRow : OpenClaim := { program := "ytfboikefjealfaa", sum := "72749e6452cb8afd8194f89700aab35f994307ab2d673d956b199132584e322d", func := "switchyard/switchyardlaw09.MboxNobody", spec := "mboxNobody", unfollowed := true, recurses := true, apart := false, narrowed := true }
def MboxNobodyUptoSaid : Prop := mboxNobodyUptoRow.holds Try.pinned (OpenSpec.upto mboxNobodySpec)

end Rows
end Go.Proofs.Ytfboikefjealfaa
