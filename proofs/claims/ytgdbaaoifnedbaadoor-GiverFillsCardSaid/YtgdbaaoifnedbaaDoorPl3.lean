/-
  Layer 13 (plot): contracts of Of, ends, part, Where (program).
  Conditions: those that each theorem states.
-/
import Derived.Test.YtgdbaaoifnedbaaDoorPl2
import Derived.Deep.RegionHeld3
namespace Go.Proofs.YtgdbaaoifnedbaaDoor
open Go.ChangeShapes Go.WideShapes Go.ChangeAt Go.RowKit

def ofOk (c r b f t : Int) : Prop := okConf c r b ∧ okPair c f t

instance (c r b f t : Int) : Decidable (ofOk c r b f t) := by unfold ofOk; infer_instance

def ofB (c r b f t : Int) : Int := if ofOk c r b f t then rankP c f t * (4 + 11 * r) else 0

def ofR (c r b f t : Int) : Int := if ofOk c r b f t then r else 0

/-- Whatever a cell holds. -/
def heldV (W : World) (a : Addr) : Value := (W.cell? a).getD undef

theorem heldV_of {W : World} {a : Addr} (h : ∃ v, W.cell? a = some v) : W.cell? a = some (heldV W a) := by
  obtain ⟨v, hv⟩ := h
  unfold heldV
  rw [hv]
  rfl

theorem row13 (w : World) (ty : TypeId) (cs : Array Value) : Row (w.alloc (.cells cs ty)) w.heap.size ty cs.toList := Row.new w ty cs

end Go.Proofs.YtgdbaaoifnedbaaDoor
