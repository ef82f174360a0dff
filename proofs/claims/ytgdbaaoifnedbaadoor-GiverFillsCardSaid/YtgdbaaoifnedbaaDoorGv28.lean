/-
  Layer 16 (giver): the law GiverFills, for every argument.
  Conditions: those that each theorem states.
-/
import Derived.Test.YtgdbaaoifnedbaaDoorGv27
import Derived.Test.YtgdbaaoifnedbaaDoorPrg3
namespace Go.Proofs.YtgdbaaoifnedbaaDoor
open Go.ChangeShapes Go.WideShapes Go.ChangeAt Go.RowKit Go.Deep Go.Joins

set_option maxRecDepth 100000 in
set_option maxHeartbeats 1000000 in
theorem fills16_no (R : Int) (v z : Value) (w : World) (hT : TabAt w) (hno : ¬ (okRing R ∧ R ≤ 16)) :
    Calls Tryd.prog 4 #[.int .i64 R, v, z] w fun e w' => e = .returned (.bool true) ∧ Below w.heap.size w w' := by
  have KR := Lib.hid (fun W => rring13_any R W)
  have KA := Lib.hid (alive16 _ hT)
  clear hT
  by_cases c0 : okRing R
  rotate_left
  · have e0 : decide (okRing R) = false := by simp [c0]
    rw [e0] at KR
    clear c0 hno
    go_enter Tryd.func4, Tryd.ntmps4
    go_wp2_with (go_at_call 31; refine (KR.out _).mono ?_; rintro e w' ⟨rfl, rfl⟩)
    refine KA.out.mono ?_
    rintro e w2 ⟨rfl, b2⟩
    have B2 := Lib.hid b2
    clear b2
    go_wp2
    go_ret
    exact ⟨rfl, B2.out⟩
  · have e0 : decide (okRing R) = true := by simp [c0]
    have c1 : ¬ R ≤ 16 := fun h => hno ⟨c0, h⟩
    rw [e0] at KR
    have f1 : decide ((16 : Int) < R) = true := by simp; omega
    clear c0 hno
    go_enter Tryd.func4, Tryd.ntmps4
    go_wp2_with (go_at_call 31; refine (KR.out _).mono ?_; rintro e w' ⟨rfl, rfl⟩)
    refine KA.out.mono ?_
    rintro e w2 ⟨rfl, b2⟩
    have B2 := Lib.hid b2
    clear b2
    go_wp2
    go_ret
    exact ⟨rfl, B2.out⟩

theorem giverFills_any (R : Int) (v : Value) (l : List Int) (z : Int) (w : World) (hT : TabAt w) (hv : Lies w (fun _ => True) v (ints l)) (hcap : CapOk v) (hz : 0 ≤ z ∧ z ≤ 255) :
    Calls Tryd.prog 4 #[.int .i64 R, v, .int .u8 z] w fun e w' => e = .returned (.bool true) ∧ Below w.heap.size w w' := by
  by_cases h : okRing R ∧ R ≤ 16
  · obtain ⟨hR, h16⟩ := h
    obtain ⟨r, rfl⟩ := Int.eq_ofNat_of_zero_le (show 0 ≤ R by have := hR.bd; omega)
    by_cases hs : sendE16 (li0 r) l = 0
    · exact fills16_yes r v l z w hR (by omega) hT hv hcap hz hs
    · exact fills16_bad r v l z w hR (by omega) hT hv hcap hs
  · exact fills16_no R v (.int .u8 z) w hT h

section
variable {H : Type} {enc : TypeId × Value → H} {P : Program} {w : World} {base : Nat} {spare : Nat → Bool} {held : Bool}
/-- A list that came in has no more places than its row. -/
theorem cap_of_list {r : Go.Reach} {b0 : Nat} {t e : TypeId} {v : Value} {d : DataW H} {p : List MemPlace} (ht : P.underlying t = some (.slice e)) (hv : Value.okWide P w r b0 t v) (h : DataW.Trod enc P w base spare held t v d p) : CapOk v := by
  obtain ⟨A, len, cap, rfl⟩ := okWide_slice ht hv
  obtain ⟨fuel, hf⟩ := h
  rcases open_slice ht hf with ⟨hcs, _⟩ | ⟨a, len', cap', m, n, D, Pl, hcs, _, hl, hm, hmm, hd, hi⟩
  · simp [Value.cells] at hcs
    obtain ⟨rfl, rfl, rfl⟩ := hcs
    exact rfl
  · simp [Value.cells] at hcs
    obtain ⟨rfl, rfl, rfl⟩ := hcs
    exact hl
end

#print axioms giverFills_any
end Go.Proofs.YtgdbaaoifnedbaaDoor
