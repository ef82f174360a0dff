/-
  Layer 17 (taker): TakerNobody.
  Conditions: those that each theorem states.
-/
import Derived.Test.YtgdbaaoifnedbaaDoorTk9
namespace Go.Proofs.YtgdbaaoifnedbaaDoor
open Go.ChangeShapes Go.WideShapes Go.ChangeAt Go.RowKit

set_option maxRecDepth 100000 in
set_option maxHeartbeats 2000000 in
theorem takerNobody_any (h : Int) (w : World) (hT : TabAt w) :
    Calls Tryd.prog 7 #[.int .i64 h] w fun e w' => e = .returned (.bool true) ∧ Below w.heap.size w w' := by
  have K1 := Lib.hid (ofWords14_any (fun _ => True) (fun _ => True) [] [] (.slice none 0 0) (.slice none 0 0) w (Lies.nil_ _ _) (Lies.nil_ _ _) (by simp) (by simp))
  have HT := Lib.hid hT
  clear hT
  go_enter Tryd.func7, Tryd.ntmps7
  go_wp2_with fail
  refine K1.out.mono ?_
  rintro e w1 ⟨p, a, b, rfl, rp, ha, hp, b1⟩
  have B1 := Lib.hid b1
  have KA := Lib.hid (alive17 w1 (HT.out.below b1))
  clear b1 rp ha hp
  unfold ptr
  go_wp2_with (first
    | (go_at_call 44; refine (step17_nil _ _).mono ?_; rintro e w' ⟨rfl, rfl⟩)
    | (go_at_call 45; refine (got17_nil _).mono ?_; rintro e w' ⟨rfl, rfl⟩)
    | (go_at_call 51; refine (slot17_nil _ _).mono ?_; rintro e w' ⟨rfl, rfl⟩)
    | (go_at_call 40; refine (recv17_nil _).mono ?_; rintro e w' ⟨rfl, rfl⟩)
    | (go_at_call 41; refine (release17_nil _ _).mono ?_; rintro e w' ⟨rfl, rfl⟩)
    | (go_at_call 43; refine (busy17_nil _).mono ?_; rintro e w' ⟨rfl, rfl⟩)
    | (go_at_call 52; refine (linked17_nil _).mono ?_; rintro e w' ⟨rfl, rfl⟩)
    | (go_at_call 46; refine (held17_nil _).mono ?_; rintro e w' ⟨rfl, rfl⟩)
    | (go_at_call 53; refine (bound17_nil _).mono ?_; rintro e w' ⟨rfl, rfl⟩)
    | (go_at_call 39; refine KA.out.mono ?_; rintro e w2 ⟨rfl, b2⟩))
  go_ret
  exact ⟨rfl, below_on B1.out b2⟩

#print axioms takerNobody_any
end Go.Proofs.YtgdbaaoifnedbaaDoor
