/-
  Texts merged, with what one theorem needs of them.
  Conditions: those that each theorem states.
-/
import Derived.Test.YteipocjgmgaglaaDoorRows
import Derived.Test.YteipocjgmgaglaaDoorZ1
import Derived.Test.YteipocjgmgaglaaDoorZ24
import Derived.Test.YteipocjgmgaglaaDoorZ25
import Derived.Below
import Derived.Carry
import Derived.ChangeSame
import Derived.Deep.AppendLies
import Derived.Deep.Draws
import Derived.Deep.Fields
import Derived.Deep.OwnRows
import Derived.Deep.Slices
import Derived.Handy
import Derived.IntWalk
import Derived.Laws.CopyOwn
import Derived.Laws.OwnMore
import Derived.Laws.Rows
import Derived.Lib.Hide
import Derived.Lib.SmallJoins
import Derived.Maps.AppendAt
import Derived.OpenShut
import Derived.ProofKit
import Derived.WalkKit
namespace Go.Proofs.YteipocjgmgaglaaDoor

section
open Go.ChangeShapes Go.WideShapes Go.ChangeAt Go.RowKit Go.Deep Go.Joins
section
variable {H : Type} {enc : TypeId × Value → H} {P : Program} {w : World} {base : Nat} {spare : Nat → Bool} {held : Bool}
/-- What is read of the type t is n integers, cell by cell. -/
def IntsOf (enc : TypeId × Value → H) (P : Program) (w : World) (base : Nat) (spare : Nat → Bool) (held : Bool) (t : TypeId) (n : Nat) : Prop :=
  ∀ (fuel : Nat) (cs : List Value) (x : DataW H × List MemPlace), DataW.trod enc P w base spare held fuel t cs = some x → ∃ zs : List Int, cs = ints zs ∧ zs.length = n ∧ ∀ z ∈ zs, -9223372036854775808 ≤ z ∧ z ≤ 9223372036854775807
theorem IntsOf.int {t : TypeId} (ht : P.underlying t = some (.int .i64)) : IntsOf enc P w base spare held t 1 := by
  intro fuel cs x h
  obtain ⟨z, hz, _, hwf⟩ := DataW.trod_int ht h
  refine ⟨[z], by rw [hz]; rfl, rfl, fun y hy => ?_⟩
  simp at hy
  subst hy
  exact bounds_i64 hwf
theorem IntsOf.rec_ {t : TypeId} {fs : Array Field} (ht : P.underlying t = some (.struct fs)) (hone : oneCellFields P fs = true) (hint : fs.toList.all (intField P) = true) (hC : P.cellsOf t = fs.size) : IntsOf enc P w base spare held t fs.size :=
  fun _ _ _ h => trod_rec ht hone hint hC h
/-- An argument that is such a struct. -/
theorem open_rec2 {r : Reach} {b0 : Nat} {t : TypeId} {fs : Array Field} {n : Nat} {v : Value} {d : DataW H} {p : List MemPlace} (ht : P.underlying t = some (.struct fs)) (hI : IntsOf enc P w base spare held t n)
    (hv : Value.okWide P w r b0 t v) (h : DataW.Trod enc P w base spare held t v d p) :
    ∃ zs : List Int, v = .agg (ints zs).toArray ∧ zs.length = n ∧ ∀ z ∈ zs, -9223372036854775808 ≤ z ∧ z ≤ 9223372036854775807 := by
  obtain ⟨cs, rfl, hsz⟩ := okWide_struct ht hv
  obtain ⟨fuel, hf⟩ := h
  obtain ⟨zs, hz, hl, hb⟩ := hI _ _ _ hf
  refine ⟨zs, ?_, hl, hb⟩
  rw [← hz]
  simp [Value.cells]
end
end

end Go.Proofs.YteipocjgmgaglaaDoor
