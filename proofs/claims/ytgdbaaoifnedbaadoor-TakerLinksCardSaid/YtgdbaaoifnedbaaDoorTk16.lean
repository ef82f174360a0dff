/-
  Layer 17 (taker): the law TakerLinks, for every argument.
  Conditions: those that each theorem states.
-/
import Derived.Test.YtgdbaaoifnedbaaDoorTk15
import Derived.Test.YtgdbaaoifnedbaaDoorPrg3
namespace Go.Proofs.YtgdbaaoifnedbaaDoor
open Go.ChangeShapes Go.WideShapes Go.ChangeAt Go.RowKit Go.Deep Go.Joins

set_option maxRecDepth 100000 in
set_option maxHeartbeats 8000000 in
theorem links17_no (R : Int) (ep mk : Int) (w : World) (hT : TabAt w) (hno : ¬ (okRing R ∧ R ≤ 16 ∧ 1 ≤ ep ∧ ep ≤ 65535 ∧ 0 ≤ mk ∧ mk ≤ 65535 ∧ mk ≠ ep)) :
    Calls Tryd.prog 8 #[.int .i64 R, .int .i64 ep, .int .i64 mk] w fun e w' => e = .returned (.bool true) ∧ Below w.heap.size w w' := by
  have KR := Lib.hid (fun W => rring13_any R W)
  have B0 := Lib.hid (below_al w (.cells #[.int .i64 R] 3))
  have KA := Lib.hid (alive17 _ (hT.below B0.out))
  have q0 := (Row.new w 3 #[.int .i64 R]).cell 0
  simp only [List.getElem?_cons_zero] at q0
  clear hT
  by_cases c0 : okRing R
  rotate_left
  · have e0 : decide (okRing R) = false := by simp [c0]
    rw [e0] at KR
    clear c0
    go_enter Tryd.func8, Tryd.ntmps8
    go_wp2_with (go_at_call 31; refine (KR.out _).mono ?_; rintro e w' ⟨rfl, rfl⟩)
    refine KA.out.mono ?_
    rintro e w2 ⟨rfl, b2⟩
    have B2 := Lib.hid (below_on B0.out b2)
    clear b2
    go_wp2
    go_ret
    exact ⟨rfl, B2.out⟩
  by_cases c1 : R ≤ 16
  rotate_left
  · have e0 : decide (okRing R) = true := by simp [c0]
    rw [e0] at KR
    have f1 : decide ((16 : Int) < R) = true := by simp; omega
    clear c0
    go_enter Tryd.func8, Tryd.ntmps8
    go_wp2_with (go_at_call 31; refine (KR.out _).mono ?_; rintro e w' ⟨rfl, rfl⟩)
    refine KA.out.mono ?_
    rintro e w2 ⟨rfl, b2⟩
    have B2 := Lib.hid (below_on B0.out b2)
    clear b2
    go_wp2
    go_ret
    exact ⟨rfl, B2.out⟩
  by_cases c2 : 1 ≤ ep
  rotate_left
  · have e0 : decide (okRing R) = true := by simp [c0]
    rw [e0] at KR
    have f1 : decide ((16 : Int) < R) = false := by simp; omega
    have f2 : decide (ep < 1) = true := by simp; omega
    clear c0
    go_enter Tryd.func8, Tryd.ntmps8
    go_wp2_with (go_at_call 31; refine (KR.out _).mono ?_; rintro e w' ⟨rfl, rfl⟩)
    refine KA.out.mono ?_
    rintro e w2 ⟨rfl, b2⟩
    have B2 := Lib.hid (below_on B0.out b2)
    clear b2
    go_wp2
    go_ret
    exact ⟨rfl, B2.out⟩
  by_cases c3 : ep ≤ 65535
  rotate_left
  · have e0 : decide (okRing R) = true := by simp [c0]
    rw [e0] at KR
    have f1 : decide ((16 : Int) < R) = false := by simp; omega
    have f2 : decide (ep < 1) = false := by simp; omega
    have f3 : decide ((65535 : Int) < ep) = true := by simp; omega
    clear c0
    go_enter Tryd.func8, Tryd.ntmps8
    go_wp2_with (go_at_call 31; refine (KR.out _).mono ?_; rintro e w' ⟨rfl, rfl⟩)
    refine KA.out.mono ?_
    rintro e w2 ⟨rfl, b2⟩
    have B2 := Lib.hid (below_on B0.out b2)
    clear b2
    go_wp2
    go_ret
    exact ⟨rfl, B2.out⟩
  by_cases c4 : 0 ≤ mk
  rotate_left
  · have e0 : decide (okRing R) = true := by simp [c0]
    rw [e0] at KR
    have f1 : decide ((16 : Int) < R) = false := by simp; omega
    have f2 : decide (ep < 1) = false := by simp; omega
    have f3 : decide ((65535 : Int) < ep) = false := by simp; omega
    have f4 : decide (mk < 0) = true := by simp; omega
    clear c0
    go_enter Tryd.func8, Tryd.ntmps8
    go_wp2_with (go_at_call 31; refine (KR.out _).mono ?_; rintro e w' ⟨rfl, rfl⟩)
    refine KA.out.mono ?_
    rintro e w2 ⟨rfl, b2⟩
    have B2 := Lib.hid (below_on B0.out b2)
    clear b2
    go_wp2
    go_ret
    exact ⟨rfl, B2.out⟩
  by_cases c5 : mk ≤ 65535
  rotate_left
  · have e0 : decide (okRing R) = true := by simp [c0]
    rw [e0] at KR
    have f1 : decide ((16 : Int) < R) = false := by simp; omega
    have f2 : decide (ep < 1) = false := by simp; omega
    have f3 : decide ((65535 : Int) < ep) = false := by simp; omega
    have f4 : decide (mk < 0) = false := by simp; omega
    have f5 : decide ((65535 : Int) < mk) = true := by simp; omega
    clear c0
    go_enter Tryd.func8, Tryd.ntmps8
    go_wp2_with (go_at_call 31; refine (KR.out _).mono ?_; rintro e w' ⟨rfl, rfl⟩)
    refine KA.out.mono ?_
    rintro e w2 ⟨rfl, b2⟩
    have B2 := Lib.hid (below_on B0.out b2)
    clear b2
    go_wp2
    go_ret
    exact ⟨rfl, B2.out⟩
  by_cases c6 : mk ≠ ep
  rotate_left
  · have e0 : decide (okRing R) = true := by simp [c0]
    rw [e0] at KR
    have f1 : decide ((16 : Int) < R) = false := by simp; omega
    have f2 : decide (ep < 1) = false := by simp; omega
    have f3 : decide ((65535 : Int) < ep) = false := by simp; omega
    have f4 : decide (mk < 0) = false := by simp; omega
    have f5 : decide ((65535 : Int) < mk) = false := by simp; omega
    have f6 : (mk == ep) = true := by simpa using c6
    clear c0
    go_enter Tryd.func8, Tryd.ntmps8
    go_wp2_with (go_at_call 31; refine (KR.out _).mono ?_; rintro e w' ⟨rfl, rfl⟩)
    refine KA.out.mono ?_
    rintro e w2 ⟨rfl, b2⟩
    have B2 := Lib.hid (below_on B0.out b2)
    clear b2
    go_wp2
    go_ret
    exact ⟨rfl, B2.out⟩
  exact absurd ⟨c0, c1, c2, c3, c4, c5, c6⟩ hno

theorem takerLinks_any (R : Int) (ep mk : Int) (w : World) (hT : TabAt w) :
    Calls Tryd.prog 8 #[.int .i64 R, .int .i64 ep, .int .i64 mk] w fun e w' => e = .returned (.bool true) ∧ Below w.heap.size w w' := by
  by_cases h : okRing R ∧ R ≤ 16 ∧ 1 ≤ ep ∧ ep ≤ 65535 ∧ 0 ≤ mk ∧ mk ≤ 65535 ∧ mk ≠ ep
  · obtain ⟨hR, h16, h1, h2, h3, h4, h5⟩ := h
    obtain ⟨r, rfl⟩ := Int.eq_ofNat_of_zero_le (show 0 ≤ R by have := hR.bd; omega)
    exact links17_yes r ep mk w hR (by omega) hT h1 h2 h3 h4 h5
  · exact links17_no R ep mk w hT h

#print axioms takerLinks_any
end Go.Proofs.YtgdbaaoifnedbaaDoor
