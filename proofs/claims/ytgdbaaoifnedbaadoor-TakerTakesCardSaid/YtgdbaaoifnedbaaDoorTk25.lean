/-
  Layer 17 (taker): the law TakerTakes, for every argument.
  Conditions: those that each theorem states.
-/
import Derived.Test.YtgdbaaoifnedbaaDoorTk24
namespace Go.Proofs.YtgdbaaoifnedbaaDoor
open Go.ChangeShapes Go.WideShapes Go.ChangeAt Go.RowKit

set_option maxRecDepth 100000 in
set_option maxHeartbeats 1000000 in
theorem takes17_no (R : Int) (v1 v2 : Value) (w : World) (hT : TabAt w) (hno : ¬ (okRing R ∧ R ≤ 16)) :
    Calls Tryd.prog 6 #[.int .i64 R, v1, v2] w fun e w' => e = .returned (.bool true) ∧ Below w.heap.size w w' := by
  have KR := Lib.hid (fun W => rring13_any R W)
  have B0 := Lib.hid (below_al w (.cells #[.int .i64 R] 3))
  have KA := Lib.hid (alive17 _ (hT.below B0.out))
  have q0 := (Row.new w 3 #[.int .i64 R]).cell 0
  simp only [List.getElem?_cons_zero] at q0
  clear hT
  by_cases c0 : okRing R
  rotate_left
  · have e0 : decide (okRing R) = false := by simp [c0]
    rw [e0] at KR
    clear c0 hno
    go_enter Tryd.func6, Tryd.ntmps6
    go_wp2_with (go_at_call 31; refine (KR.out _).mono ?_; rintro e w' ⟨rfl, rfl⟩)
    refine KA.out.mono ?_
    rintro e w2 ⟨rfl, b2⟩
    have B2 := Lib.hid (below_on B0.out b2)
    clear b2
    go_wp2
    go_ret
    exact ⟨rfl, B2.out⟩
  · have e0 : decide (okRing R) = true := by simp [c0]
    have c1 : ¬ R ≤ 16 := fun h => hno ⟨c0, h⟩
    rw [e0] at KR
    have f1 : decide ((16 : Int) < R) = true := by simp; omega
    clear c0 hno
    go_enter Tryd.func6, Tryd.ntmps6
    go_wp2_with (go_at_call 31; refine (KR.out _).mono ?_; rintro e w' ⟨rfl, rfl⟩)
    refine KA.out.mono ?_
    rintro e w2 ⟨rfl, b2⟩
    have B2 := Lib.hid (below_on B0.out b2)
    clear b2
    go_wp2
    go_ret
    exact ⟨rfl, B2.out⟩

theorem takerTakes_any (R : Int) (v1 v2 : Value) (ws os : List Int) (w : World) (hT : TabAt w) (hv1 : Lies w (fun _ => True) v1 (kints .u16 ws)) (hv2 : Lies w (fun _ => True) v2 (kints .u8 os)) (hwm : ws.length ≤ maxLen) (hw : ∀ z ∈ ws, (Lit.int .u16 z).wf = true) (ho : ∀ z ∈ os, (Lit.int .u8 z).wf = true) :
    Calls Tryd.prog 6 #[.int .i64 R, v1, v2] w fun e w' => e = .returned (.bool true) ∧ Below w.heap.size w w' := by
  by_cases h : okRing R ∧ R ≤ 16
  · obtain ⟨hR, h16⟩ := h
    obtain ⟨r, rfl⟩ := Int.eq_ofNat_of_zero_le (show 0 ≤ R by have := hR.bd; omega)
    refine takes17_yes r v1 v2 ws os w hR (by omega) hT hv1 hv2 hwm (fun z hz => ?_) (fun z hz => ?_)
    · have := hw z hz
      simp [Lit.wf, IntKind.min, IntKind.max, IntKind.signed, IntKind.bits] at this
      omega
    · have := ho z hz
      simp [Lit.wf, IntKind.min, IntKind.max, IntKind.signed, IntKind.bits] at this
      omega
  · exact takes17_no R v1 v2 w hT h

#print axioms takerTakes_any
end Go.Proofs.YtgdbaaoifnedbaaDoor
