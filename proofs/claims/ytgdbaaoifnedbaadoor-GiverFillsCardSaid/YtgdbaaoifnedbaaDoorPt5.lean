/-
  Layer 14 (port): the closure in a Trace's Store.
  Conditions: those that each theorem states.
-/
import Derived.Test.YtgdbaaoifnedbaaDoorPt4
namespace Go.Proofs.YtgdbaaoifnedbaaDoor
open Go.ChangeShapes Go.WideShapes Go.ChangeAt Go.RowKit

set_option maxRecDepth 100000 in
set_option maxHeartbeats 4000000 in
theorem storeC14 {p a b t z y y2 : Nat} {k : Value} {V E K : List Int} {w : World} (i u : Int) (h1 : w.cell? ⟨z, 0, none⟩ = some (.pointer (some ⟨t, 0, none⟩))) (h2 : w.cell? ⟨t, 0, none⟩ = some (face14 p)) (h3 : w.cell? ⟨y, 0, none⟩ = some (.int .i64 i)) (h4 : w.cell? ⟨y2, 0, none⟩ = some (.int .i64 u)) (r : PlainAt w p a b k V E K) :
    Calls Tryd.prog 154 #[.pointer (some ⟨z, 0, none⟩), .pointer (some ⟨y, 0, none⟩), .pointer (some ⟨y2, 0, none⟩)] w fun e w' => e = .returned (.tuple #[]) ∧ PlainAt w' p a b k (put14 V i (u % 65536)) E K ∧ Only (· = a) w w' := by
  unfold face14 at h2
  have KD := Lib.hid (fun d => store14_any i u (w.drewN d) (r.below (below_q w d)))
  clear r
  go_enter Tryd.func154, Tryd.ntmps154
  go_wp2
  go_region_with (go_at_call 35; refine (KD.out _).mono ?_; rintro e w2 ⟨rfl, r2, o2⟩)
  all_goals (go_end0; exact ⟨rfl, r2, (Only.of_below (below_q w _) _).trans o2⟩)

#print axioms storeC14
end Go.Proofs.YtgdbaaoifnedbaaDoor
