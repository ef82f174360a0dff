/-
  Texts merged, with what one theorem needs of them.
  Conditions: those that each theorem states.
-/
import Derived.Test.YtiofipofbeodpaaGreatDoorRows
import Derived.Test.YtiofipofbeodpaaGreatDoorZ1
import Derived.Test.YtiofipofbeodpaaGreatDoorZ2
import Derived.Below
import Derived.BigQuiet
import Derived.Deep.AppendLies
import Derived.Deep.Draws
import Derived.Deep.OwnRows
import Derived.Deep.QuietTactic
import Derived.Handy
import Derived.IntWalk
import Derived.Laws.CopyOwn
import Derived.Laws.OwnMore
import Derived.Laws.Rows
import Derived.Lib.Hide
import Derived.Lib.SliceRun
import Derived.Maps.AppendAt
import Derived.OpenShut
import Derived.ProofKit
import Derived.WalkKit
namespace Go.Proofs.YtiofipofbeodpaaGreatDoor

section
open Go.ChangeShapes Go.WideShapes Go.ChangeAt Go.RowKit
/-! ### A store of many cells into a row -/
def putL15 : List Value → Nat → List Value → List Value
  | cs, _, [] => cs
  | cs, o, v :: vs => putL15 (cs.set o v) (o + 1) vs
theorem putL15_is : ∀ (vs a b : List Value), b.length = vs.length → putL15 (a ++ b) a.length vs = a ++ vs
  | [], a, b, h => by
    obtain rfl : b = [] := List.eq_nil_of_length_eq_zero h
    rfl
  | v :: vs, a, [], h => by cases h
  | v :: vs, a, x :: b, h => by
    have ih := putL15_is vs (a ++ [v]) b (by simpa using h)
    simp only [putL15, List.set_append_right _ _ (Nat.le_refl _), Nat.sub_self, List.set_cons_zero]
    simpa using ih
theorem Row.puts15 {g : Nat} {t : TypeId} : ∀ (vs : List Value) {w : World} {cs : List Value} (o : Nat), Row w g t cs → Row (w.setCells g o vs) g t (putL15 cs o vs)
  | [], _, _, _, h => h
  | v :: vs, _, _, o, h => Row.puts15 vs (o + 1) (h.put o v)
theorem Only.puts15 {g : Nat} {a : World} : ∀ (vs : List Value) {w : World} (o : Nat), Only (· = g) a w → Only (· = g) a (w.setCells g o vs)
  | [], _, _, h => h
  | v :: vs, _, o, h => Only.puts15 vs (o + 1) (h.setCell (p := ⟨g, o, none⟩) (.inl rfl) v)
end

end Go.Proofs.YtiofipofbeodpaaGreatDoor
