/-
  Texts merged, with what one theorem needs of them.
  Conditions: those that each theorem states.
-/
import Derived.Test.YteipocjgmgaglaaDoorRows
import Derived.Test.YteipocjgmgaglaaDoorZ1
import Derived.Test.YteipocjgmgaglaaDoorZ2
import Derived.Below
import Derived.BigQuiet
import Derived.Deep.AppendLies
import Derived.Deep.Draws
import Derived.Deep.OwnRows
import Derived.Deep.QuietTactic
import Derived.Handy
import Derived.IntWalk
import Derived.Laws.CopyOwn
import Derived.Laws.OwnMore
import Derived.Laws.Rows
import Derived.Lib.Hide
import Derived.Lib.SliceRun
import Derived.Maps.AppendAt
import Derived.OpenShut
import Derived.ProofKit
import Derived.WalkKit
namespace Go.Proofs.YteipocjgmgaglaaDoor

section
open Go.ChangeShapes Go.WideShapes Go.ChangeAt Go.RowKit
/-! ### A store of many cells into a row -/
def putL15 : List Value → Nat → List Value → List Value
  | cs, _, [] => cs
  | cs, o, v :: vs => putL15 (cs.set o v) (o + 1) vs
theorem Row.puts15 {g : Nat} {t : TypeId} : ∀ (vs : List Value) {w : World} {cs : List Value} (o : Nat), Row w g t cs → Row (w.setCells g o vs) g t (putL15 cs o vs)
  | [], _, _, _, h => h
  | v :: vs, _, _, o, h => Row.puts15 vs (o + 1) (h.put o v)
theorem Only.puts15 {g : Nat} {a : World} : ∀ (vs : List Value) {w : World} (o : Nat), Only (· = g) a w → Only (· = g) a (w.setCells g o vs)
  | [], _, _, h => h
  | v :: vs, _, o, h => Only.puts15 vs (o + 1) (h.setCell (p := ⟨g, o, none⟩) (.inl rfl) v)
theorem putL15_mid : ∀ (vs a b c : List Value), b.length = vs.length → putL15 (a ++ (b ++ c)) a.length vs = a ++ (vs ++ c)
  | [], a, b, c, h => by
    obtain rfl : b = [] := List.eq_nil_of_length_eq_zero h
    rfl
  | v :: vs, a, [], c, h => by cases h
  | v :: vs, a, x :: b, c, h => by
    have ih := putL15_mid vs (a ++ [v]) b c (by simpa using h)
    simp only [putL15, List.cons_append, List.set_append_right _ _ (Nat.le_refl _), Nat.sub_self, List.set_cons_zero]
    simpa using ih
theorem clear_walk {P : Program} {w : World} {ops : Array Oper} {rest : List Oper} {o : Oper} {a : Act} {Q : Exit → Act → World → Prop} (hgd : o.guard = none) (x : Operand) (t e : TypeId) (z : Value)
    (ho : o.op = .call { callee := .builtin .clear, args := #[x], argTypes := #[t] }) (ht : P.underlying t = some (.slice e)) (hv : ∀ w, (zeroValue e).run P w = .ok z w) (hz : z.cells = #[z]) (h1 : z.oneCell' = true) (b s n c : Nat) (hn : 0 < n)
    (hx : a.eval x = .slice (some ⟨b, s, none⟩) n c) (hc : ∀ j, j < n → (w.cell? ⟨b, s + j, none⟩).isSome = true) (hf : ∀ j, j < n → w.frozen? ⟨b, s + j, none⟩ = false)
    (h : wpList P ops Q rest (a.put o.dst (.tuple #[])) (w.setCells b s (List.replicate n z))) : wpList P ops Q (o :: rest) a w := by
  have hrun := Lib.run_clear_slice (P := P) w t e o.type z ht hv hz h1 b s n c hn hc hf
  refine wpList_plain hgd fun K hK => ?_
  unfold Oper.wp
  simp [execOp, ho, resolve, invoke, builtin, hx, hrun, Result.andThen]
  exact hK _ _ h
end

end Go.Proofs.YteipocjgmgaglaaDoor
