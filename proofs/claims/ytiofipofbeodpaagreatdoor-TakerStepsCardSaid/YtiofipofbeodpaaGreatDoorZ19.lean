/-
  Texts merged, with what one theorem needs of them.
  Conditions: those that each theorem states.
-/
import Derived.Test.YtiofipofbeodpaaGreatDoorRows
import Derived.Test.YtiofipofbeodpaaGreatDoorZ1
import Derived.Test.YtiofipofbeodpaaGreatDoorZ2
import Derived.Below
import Derived.BigQuiet
import Derived.Deep.AppendLies
import Derived.Deep.Draws
import Derived.Deep.OwnRows
import Derived.Deep.QuietTactic
import Derived.Handy
import Derived.IntWalk
import Derived.KernelRfl
import Derived.Laws.CopyOwn
import Derived.Laws.OwnMore
import Derived.Laws.Rows
import Derived.Lib.Hide
import Derived.Maps.AppendAt
import Derived.OpenShut
import Derived.ProofKit
import Derived.Scope
import Derived.WalkKit
import Derived.WalkMore
namespace Go.Proofs.YtiofipofbeodpaaGreatDoor

section
open Go.ChangeShapes Go.WideShapes Go.ChangeAt Go.RowKit
/-- As Q; by a goto to label l: the code that J gives for l goes on so, with one jump less. -/
def Fwd (P : Program) (J : Nat → Option Code) (Q : Exit → Act → World → Prop) : Nat → Exit → Act → World → Prop
  | 0, .goto _, _, _ => False
  | n + 1, .goto l, a, w => ∃ rest, J l = some rest ∧ rest.wp P (Fwd P J Q n) a w
  | _, .normal, a, w => Q .normal a w
  | _, .exit id, a, w => Q (.exit id) a w
  | _, .ret, a, w => Q .ret a w
  | _, .panic ch, a, w => Q (.panic ch) a w
  | _, .outgrown, a, w => Q .outgrown a w
section
variable {P : Program} {J : Nat → Option Code} {Q : Exit → Act → World → Prop} {n : Nat} {a : Act} {w : World}
@[go_sem] theorem Fwd_normal : Fwd P J Q n .normal a w = Q .normal a w := by cases n <;> rfl
@[go_sem] theorem Fwd_exit (id : Nat) : Fwd P J Q n (.exit id) a w = Q (.exit id) a w := by cases n <;> rfl
@[go_sem] theorem Fwd_ret : Fwd P J Q n .ret a w = Q .ret a w := by cases n <;> rfl
@[go_sem] theorem Fwd_panic (ch : List PanicEntry) : Fwd P J Q n (.panic ch) a w = Q (.panic ch) a w := by cases n <;> rfl
theorem fwd_goto {l : Nat} {rest : Code} (h : J l = some rest) (hw : rest.wp P (Fwd P J Q n) a w) : Fwd P J Q (n + 1) (.goto l) a w := ⟨rest, h, hw⟩
theorem fwd_arrives {c : Code} (hJ : ∀ l, J l = findLabel c l) (b : Frame) (k : List Item) (cs : List Frame) : ∀ (n : Nat) (c' : Code) (a : Act) (w : World), c'.wp P (Fwd P J Q n) a w →
    ∃ e a' w', Q e a' w' ∧ Arrives P (lone (b.at a (.code c' :: .inScope c :: k)) cs w) b k cs e a' w' := by
  intro n
  induction n with
  | zero =>
    intro c' a w h
    obtain ⟨e, a₁, w₁, hq, harr⟩ := h b (.inScope c :: k) cs
    cases e with
    | normal => exact ⟨.normal, a₁, w₁, hq, Steps.trans harr (.one step_inScope)⟩
    | exit id => exact ⟨.exit id, a₁, w₁, hq, fun k' hk => harr k' (by simp [exitTo, hk])⟩
    | goto l => exact hq.elim
    | ret => exact ⟨_, a₁, w₁, hq, harr⟩
    | panic ch => exact ⟨_, a₁, w₁, hq, harr⟩
    | outgrown => exact ⟨_, a₁, w₁, hq, harr⟩
  | succ n ih =>
    intro c' a w h
    obtain ⟨e, a₁, w₁, hq, harr⟩ := h b (.inScope c :: k) cs
    cases e with
    | normal => exact ⟨.normal, a₁, w₁, hq, Steps.trans harr (.one step_inScope)⟩
    | exit id => exact ⟨.exit id, a₁, w₁, hq, fun k' hk => harr k' (by simp [exitTo, hk])⟩
    | goto l =>
      obtain ⟨rest, hl, hw⟩ := hq
      obtain ⟨e₂, a₂, w₂, hq₂, harr₂⟩ := ih rest a₁ w₁ hw
      have hg : gotoIn l (.inScope c :: k) = some (.code rest :: .inScope c :: k) := by simp [gotoIn, ← hJ, hl]
      exact ⟨e₂, a₂, w₂, hq₂, .of_steps (harr _ hg) harr₂⟩
    | ret => exact ⟨_, a₁, w₁, hq, harr⟩
    | panic ch => exact ⟨_, a₁, w₁, hq, harr⟩
    | outgrown => exact ⟨_, a₁, w₁, hq, harr⟩
/-- A scope in which at most n forward jumps are made. -/
theorem wp_scope_fwd {c : Code} (n : Nat) (J : Nat → Option Code) (hJ : ∀ l, J l = findLabel c l) (h : c.wp P (Fwd P J Q n) a w) : (Code.scope c).wp P Q a w := by
  intro b k cs
  obtain ⟨e, a₁, w₁, hq, harr⟩ := fwd_arrives hJ b k cs n c a w h
  exact ⟨e, a₁, w₁, hq, .of_steps (.one step_scope) harr⟩
end
end

end Go.Proofs.YtiofipofbeodpaaGreatDoor
