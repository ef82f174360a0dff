/-
  No cell of these rows narrows 'for every input' (looked for: loops, veiled, ifaces, maps, wideKeys, modest, calm, conditions, laid).
  DERIVED. THE GIVEN ROWS OF THIS SEAT. 4 by the template 'for every input the law returns true; each argument reads behind the call as it read before'; 0 by the template 'total and deterministic' (their statements: YtjdkbhmophnclaaTotals.lean).
  GIVEN WITH THE SEED: the statements are not yours to turn. If you find one false, say at which input.
  Laid BY PROGRAM, IN A SANDBOX (cutbox-rows.mjs): the forced cells as the released guide's own fill.sh prints them over the translation def293775df2a5b6… (all of the seat's roots in one cut). By AI agents, Wed Nov 11 2026. No macro, syntax, notation, axiom, sorry.
-/
import Derived.Test.YtjdkbhmophnclaaChecked
import GoSem.Claim
import GoSem.ClaimJoined
import GoSem.ClaimMapViews
import Derived.JoinedTies
import Derived.KernelRfl
namespace Go.Proofs.Ytjdkbhmophnclaa
/- THE CELL 'sum', in the pinned program and in every row, IS THE sha256 OF THE DUMP (.gsa) THAT YtjdkbhmophnclaaProg.lean LOADS. Nothing in Lean hashes anything: it is a label: what it is worth is what the hold of that sum in a sandbox is worth. -/
noncomputable def Try.pinned : Pinned := { name := "ytjdkbhmophnclaa", sum := "def293775df2a5b6c2973a80c2b3b2e22131f45ba2bf8248afece5d56f6bd52b", checked := Try.checked }
namespace Rows
def none {H : Type} : Left H := { results := [], args := [] }

/-- 'switchyardlaw03.SramPlays': WHATEVER THE INPUT: true; the input reads as it did. -/
def sramPlaysSpec : ChangeSpec := { name := "sramPlays", fn := fun _ => fun
  | [d1, d2] => { results := [.lit (.bool true)], args := [d1, d2] }
  | _ => none }
def sramPlaysRow : OpenClaim := { program := "ytjdkbhmophnclaa", sum := "def293775df2a5b6c2973a80c2b3b2e22131f45ba2bf8248afece5d56f6bd52b", func := "switchyard/switchyardlaw03.SramPlays", spec := "sramPlays", apart := false }
def SramPlaysSaid : Prop := sramPlaysRow.holds Try.pinned (OpenSpec.ofChange sramPlaysSpec)

/-- ITS FALSE NEIGHBOUR: 'it returns false'. Refute it at one input. -/
def sramPlaysWrong : ChangeSpec := { name := "sramPlays", fn := fun _ => fun
  | [d1, d2] => { results := [.lit (.bool false)], args := [d1, d2] }
  | _ => none }
def SramPlaysWrongFalsely : Prop := sramPlaysRow.holds Try.pinned (OpenSpec.ofChange sramPlaysWrong)

/-- 'switchyardlaw03.SramCells': WHATEVER THE INPUT: true; the input reads as it did. -/
def sramCellsSpec : ChangeSpec := { name := "sramCells", fn := fun _ => fun
  | [d1, d2, d3, d4] => { results := [.lit (.bool true)], args := [d1, d2, d3, d4] }
  | _ => none }
def sramCellsRow : OpenClaim := { program := "ytjdkbhmophnclaa", sum := "def293775df2a5b6c2973a80c2b3b2e22131f45ba2bf8248afece5d56f6bd52b", func := "switchyard/switchyardlaw03.SramCells", spec := "sramCells", apart := false }
def SramCellsSaid : Prop := sramCellsRow.holds Try.pinned (OpenSpec.ofChange sramCellsSpec)

/-- ITS FALSE NEIGHBOUR: 'it returns false'. Refute it at one input. -/
def sramCellsWrong : ChangeSpec := { name := "sramCells", fn := fun _ => fun
  | [d1, d2, d3, d4] => { results := [.lit (.bool false)], args := [d1, d2, d3, d4] }
  | _ => none }
def SramCellsWrongFalsely : Prop := sramCellsRow.holds Try.pinned (OpenSpec.ofChange sramCellsWrong)

/-- 'switchyardlaw03.SramKeeps': WHATEVER THE INPUT: true; the input reads as it did. -/
def sramKeepsSpec : ChangeSpec := { name := "sramKeeps", fn := fun _ => fun
  | [d1, d2, d3] => { results := [.lit (.bool true)], args := [d1, d2, d3] }
  | _ => none }
def sramKeepsRow : OpenClaim := { program := "ytjdkbhmophnclaa", sum := "def293775df2a5b6c2973a80c2b3b2e22131f45ba2bf8248afece5d56f6bd52b", func := "switchyard/switchyardlaw03.SramKeeps", spec := "sramKeeps", apart := false }
def SramKeepsSaid : Prop := sramKeepsRow.holds Try.pinned (OpenSpec.ofChange sramKeepsSpec)

/-- ITS FALSE NEIGHBOUR: 'it returns false'. Refute it at one input. -/
def sramKeepsWrong : ChangeSpec := { name := "sramKeeps", fn := fun _ => fun
  | [d1, d2, d3] => { results := [.lit (.bool false)], args := [d1, d2, d3] }
  | _ => none }
def SramKeepsWrongFalsely : Prop := sramKeepsRow.holds Try.pinned (OpenSpec.ofChange sramKeepsWrong)

/-- 'switchyardlaw03.SramNobody': WHATEVER THE INPUT: true; the input reads as it did. -/
def sramNobodySpec : ChangeSpec := { name := "sramNobody", fn := fun _ => fun
  | [d] => { results := [.lit (.bool true)], args := [d] }
  | _ => none }
def sramNobodyRow : OpenClaim := { program := "ytjdkbhmophnclaa", sum := "def293775df2a5b6c2973a80c2b3b2e22131f45ba2bf8248afece5d56f6bd52b", func := "switchyard/switchyardlaw03.SramNobody", spec := "sramNobody", apart := false }
def SramNobodySaid : Prop := sramNobodyRow.holds Try.pinned (OpenSpec.ofChange sramNobodySpec)

/-- ITS FALSE NEIGHBOUR: 'it returns false'. Refute it at one input. -/
def sramNobodyWrong : ChangeSpec := { name := "sramNobody", fn := fun _ => fun
  | [d] => { results := [.lit (.bool false)], args := [d] }
  | _ => none }
def SramNobodyWrongFalsely : Prop := sramNobodyRow.holds Try.pinned (OpenSpec.ofChange sramNobodyWrong)

/- THE SECOND FORM. 'bulk': how many values and letters a reading holds, each counted each time it is reached (what is shared counts as often as it is met; a slice's spare places count too). A statement '..UptoSaid' is the law's where the arguments, and the package variables that the reading takes, are together of bulk at most 1048576: NARROWER than '..Said'. Prove '..Said' where nothing that the law and all that it calls make is longer than what came in: it says more and counts as full. Else prove '..UptoSaid'. A law counts once. -/
mutual
def uptoBulk {H : Type} : DataW H → Nat
  | .lit (.string bytes) => bytes.length + 1
  | .lit _ => 1
  | .nil => 1
  | .ptr d => uptoBulk d + 1
  | .slice elems spare => uptoBulkAll elems + uptoBulkAll spare + 1
  | .agg parts => uptoBulkAll parts + 1
  | .iface _ d => uptoBulk d + 1
  | .map entries => uptoBulkEntries entries + 1
  | .held _ => 1
def uptoBulkAll {H : Type} : List (DataW H) → Nat
  | [] => 0
  | d :: r => uptoBulk d + uptoBulkAll r
def uptoBulkEntries {H : Type} : List (Lit × DataW H) → Nat
  | [] => 0
  | x :: r => uptoBulkEntry x + uptoBulkEntries r
def uptoBulkEntry {H : Type} : Lit × DataW H → Nat
  | (.string bytes, d) => bytes.length + uptoBulk d + 1
  | (_, d) => uptoBulk d + 1
 end
def uptoSmall : (H : Type) → List (DataW H) → Bool := fun _ ds => decide (uptoBulkAll ds ≤ 1048576)
def OpenSpec.upto (s : _root_.Go.ChangeSpec) : _root_.Go.OpenSpec := { _root_.Go.OpenSpec.ofChange s with cond := some uptoSmall }

/-- 'switchyardlaw03.SramPlays', WHERE WHAT IT READS IS OF BULK AT MOST 1048576: true; the input reads as it did. -/
def sramPlaysUptoRow : OpenClaim := { program := "ytjdkbhmophnclaa", sum := "def293775df2a5b6c2973a80c2b3b2e22131f45ba2bf8248afece5d56f6bd52b", func := "switchyard/switchyardlaw03.SramPlays", spec := "sramPlays", apart := false, narrowed := true }
def SramPlaysUptoSaid : Prop := sramPlaysUptoRow.holds Try.pinned (OpenSpec.upto sramPlaysSpec)

/-- 'switchyardlaw03.SramCells', WHERE WHAT IT READS IS OF BULK AT MOST 1048576: true; the input reads as it did. -/
def sramCellsUptoRow : OpenClaim := { program := "ytjdkbhmophnclaa", sum := "def293775df2a5b6c2973a80c2b3b2e22131f45ba2bf8248afece5d56f6bd52b", func := "switchyard/switchyardlaw03.SramCells", spec := "sramCells", apart := false, narrowed := true }
def SramCellsUptoSaid : Prop := sramCellsUptoRow.holds Try.pinned (OpenSpec.upto sramCellsSpec)

/-- 'switchyardlaw03.SramKeeps', WHERE WHAT IT READS IS OF BULK AT MOST 1048576: true; the input reads as it did. -/
def sramKeepsUptoRow : OpenClaim := { program := "ytjdkbhmophnclaa", sum := "def293775df2a5b6c2973a80c2b3b2e22131f45ba2bf8248afece5d56f6bd52b", func := "switchyard/switchyardlaw03.SramKeeps", spec := "sramKeeps", apart := false, narrowed := true }
def SramKeepsUptoSaid : Prop := sramKeepsUptoRow.holds Try.pinned (OpenSpec.upto sramKeepsSpec)

/-- 'switchyardlaw03.SramNobody', WHERE WHAT IT READS IS OF BULK AT MOST 1048576: true; the input reads as it did. -/
def sramNobodyUptoRow : OpenClaim := { program := "ytjdkbhmophnclaa", sum := "def293775df2a5b6c2973a80c2b3b2e22131f45ba2bf8248afece5d56f6bd52b", func := "switchyard/switchyardlaw03.SramNobody", spec := "sramNobody", apart := false, narrowed := true }
def SramNobodyUptoSaid : Prop := sramNobodyUptoRow.holds Try.pinned (OpenSpec.upto sramNobodySpec)

end Rows
end Go.Proofs.Ytjdkbhmophnclaa
