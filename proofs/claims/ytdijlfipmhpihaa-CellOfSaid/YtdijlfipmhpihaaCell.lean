/-
  Contracts of layer 2 (cell): Of, and Parts, Turn, Next and Text at cells.
  Conditions: those that each theorem states.
-/
import Derived.Test.YtdijlfipmhpihaaWords
import Derived.Test.YtdijlfipmhpihaaHex
import Derived.Test.YtdijlfipmhpihaaFloat
import Derived.WalkLawsBesides
namespace Go.Proofs.Ytdijlfipmhpihaa
open Go.ChangeShapes Go.WideShapes Go.ChangeAt Go.RowKit

/-- The cell of an address and a word. -/
def cellV (a b : Int) : Value := .complex .f64 (floatOfInt .f64 a) (floatOfInt .f64 b)

def fitsB (n : Int) : Bool := decide (0 ≤ n ∧ n ≤ 65535)

set_option maxHeartbeats 400000 in
theorem fits_yes (n : Int) (w : World) (h0 : 0 ≤ n) (h1 : n ≤ 65535) :
    Calls Try.prog 8 #[.int .i64 n] w fun e w' => e = .returned (.bool true) ∧ w = w' := by
  go_enter Try.func8, Try.ntmps8
  go_wp2
  go_ret
  exact ⟨rfl, rfl⟩

set_option maxHeartbeats 400000 in
theorem fits_no (n : Int) (w : World) (h : n < 0 ∨ 65535 < n) :
    Calls Try.prog 8 #[.int .i64 n] w fun e w' => e = .returned (.bool false) ∧ w = w' := by
  rcases h with h | h
  · have h' : decide (0 ≤ n) = false := by simp; omega
    go_enter Try.func8, Try.ntmps8
    go_wp2
    go_ret
    exact ⟨rfl, rfl⟩
  · have h0 : 0 ≤ n := by omega
    have h' : decide (n ≤ 65535) = false := by simp; omega
    go_enter Try.func8, Try.ntmps8
    go_wp2
    go_ret
    exact ⟨rfl, rfl⟩

set_option maxHeartbeats 400000 in
theorem join_any (a b : Int) (w : World) :
    Calls Try.prog 9 #[.int .i64 a, .int .i64 b] w fun e w' => e = .returned (cellV a b) ∧ w = w' := by
  go_enter Try.func9, Try.ntmps9
  go_wp2
  go_ret
  exact ⟨rfl, rfl⟩

set_option maxHeartbeats 400000 in
theorem of_yes (a b : Int) (w : World) (ha : 0 ≤ a) (ha' : a ≤ 65535) (hb : 0 ≤ b) (hb' : b ≤ 65535) :
    Calls Try.prog 4 #[.int .i64 a, .int .i64 b] w fun e w' => e = .returned (.tuple #[cellV a b, .bool true]) ∧ w = w' := by
  go_enter Try.func4, Try.ntmps4
  go_wp2_with (first
    | (go_at_call 8; refine (fits_yes _ _ (by assumption) (by assumption)).mono ?_; rintro e w' ⟨rfl, rfl⟩)
    | (go_at_call 9; refine (join_any _ _ _).mono ?_; rintro e w' ⟨rfl, rfl⟩))
  go_ret2
  exact ⟨rfl, rfl⟩

set_option maxHeartbeats 400000 in
theorem of_no (a b : Int) (w : World) (h : ¬ (0 ≤ a ∧ a ≤ 65535 ∧ 0 ≤ b ∧ b ≤ 65535)) :
    Calls Try.prog 4 #[.int .i64 a, .int .i64 b] w fun e w' => e = .returned (.tuple #[.complex .f64 0 0, .bool false]) ∧ w = w' := by
  by_cases ha : 0 ≤ a ∧ a ≤ 65535
  · have hb : b < 0 ∨ 65535 < b := by omega
    obtain ⟨ha0, ha1⟩ := ha
    clear h
    go_enter Try.func4, Try.ntmps4
    go_wp2_with fail
    refine (fits_yes _ _ ha0 ha1).mono ?_
    rintro e w' ⟨rfl, rfl⟩
    go_wp2_with fail
    refine (fits_no _ _ hb).mono ?_
    rintro e w' ⟨rfl, rfl⟩
    go_wp2
    go_ret2
    exact ⟨rfl, rfl⟩
  · have hb : a < 0 ∨ 65535 < a := by omega
    clear h ha
    go_enter Try.func4, Try.ntmps4
    go_wp2_with fail
    refine (fits_no _ _ hb).mono ?_
    rintro e w' ⟨rfl, rfl⟩
    go_wp2
    go_ret2
    exact ⟨rfl, rfl⟩

set_option maxHeartbeats 400000 in
theorem part_fl (a : Int) (w : World) (ha : 0 ≤ a) (ha' : a ≤ 65535) :
    Calls Try.prog 17 #[.float .f64 (floatOfInt .f64 a)] w fun e w' => e = .returned (.tuple #[.int .i64 a, .bool true]) ∧ w = w' := by
  have h1 := fl_low a ha ha'
  have h2 := fl_high a ha ha'
  have h3 := fl_self a ha ha'
  have h3' : (FloatKind.f64.format.order (floatOfInt .f64 a) (floatOfInt .f64 a) != some .eq) = false := by rw [bne, h3]; rfl
  have h4 := run_convert_float_int (P := Try.prog) w 25 3 .f64 .i64 (floatOfInt .f64 a) a (by kernel_rfl) Try.underlying3 (fl_back a ha ha')
  go_enter Try.func17, Try.ntmps17
  go_wp2
  go_ret2
  exact ⟨rfl, rfl⟩

set_option maxHeartbeats 400000 in
theorem parts_fl (a b : Int) (w : World) (ha : 0 ≤ a) (ha' : a ≤ 65535) (hb : 0 ≤ b) (hb' : b ≤ 65535) :
    Calls Try.prog 14 #[cellV a b] w fun e w' => e = .returned (.tuple #[.int .i64 a, .int .i64 b, .bool true]) ∧ w = w' := by
  unfold cellV
  go_enter Try.func14, Try.ntmps14
  go_wp2_with (go_at_call 17; refine (part_fl _ _ (by assumption) (by assumption)).mono ?_; rintro e w' ⟨rfl, rfl⟩)
  go_ret3
  exact ⟨rfl, rfl⟩

set_option maxHeartbeats 400000 in
theorem next_fl (a b n : Int) (w : World) (ha : 0 ≤ a) (ha' : a ≤ 65535) (hb : 0 ≤ b) (hb' : b ≤ 65535) :
    Calls Try.prog 12 #[cellV a b, .int .i64 n] w fun e w' => e = .returned (cellV (addW a n) b) ∧ w = w' := by
  go_enter Try.func12, Try.ntmps12
  go_wp2_with (first
    | (go_at_call 14; refine (parts_fl _ _ _ (by assumption) (by assumption) (by assumption) (by assumption)).mono ?_; rintro e w' ⟨rfl, rfl⟩)
    | (go_at_call 15; refine (add_any _ _ _).mono ?_; rintro e w' ⟨rfl, rfl⟩)
    | (go_at_call 9; refine (join_any _ _ _).mono ?_; rintro e w' ⟨rfl, rfl⟩))
  go_ret
  exact ⟨rfl, rfl⟩

theorem mul_23 : cMulBits 0 4607182418800017408 (floatOfInt .f64 2) (floatOfInt .f64 (-3)) = some (floatOfInt .f64 3, floatOfInt .f64 2) := by decide +kernel

set_option maxHeartbeats 400000 in
theorem turn_23 (w : World) :
    Calls Try.prog 11 #[cellV 2 3] w fun e w' => e = .returned (cellV 3 2) ∧ w = w' := by
  have hm : ∀ w : World, Sem.run Try.prog (binOp .mul 22 (.complex .f64 0 4607182418800017408) (cellV 2 (-3))) w = .ok (cellV 3 2) w :=
    fun w => run_complex_mul w 22 _ _ _ _ _ _ mul_23
  go_enter Try.func11, Try.ntmps11
  go_wp2_with (first
    | (go_at_call 14; refine (parts_fl _ _ _ (by omega) (by omega) (by omega) (by omega)).mono ?_; rintro e w' ⟨rfl, rfl⟩)
    | (go_at_call 9; refine (join_any _ _ _).mono ?_; rintro e w' ⟨rfl, rfl⟩))
  go_ret
  exact ⟨rfl, rfl⟩

set_option maxHeartbeats 400000 in
theorem text_23 (w : World) :
    Calls Try.prog 13 #[cellV 2 3] w fun e w' => e = .returned (.string ⟨#[48, 48, 48, 50, 58, 48, 48, 48, 51]⟩) ∧ Below w.heap.size w w' := by
  have e2 : hexL (2 % 65536) = [48, 48, 48, 50] := by decide
  have e3 : hexL (3 % 65536) = [48, 48, 48, 51] := by decide
  have E2 := Lib.hid e2; clear e2
  have E3 := Lib.hid e3; clear e3
  go_enter Try.func13, Try.ntmps13
  go_wp2_with fail
  refine (parts_fl _ _ _ (by omega) (by omega) (by omega) (by omega)).mono ?_
  rintro e w' ⟨rfl, rfl⟩
  go_wp2_with fail
  refine (hex_any _ _).mono ?_
  rintro e w1 ⟨rfl, hb1⟩
  rw [E2.out]
  go_wp2_with fail
  refine (hex_any _ _).mono ?_
  rintro e w2 ⟨rfl, hb2⟩
  rw [E3.out]
  go_wp2
  go_ret
  exact ⟨rfl, hb1.trans (hb2.mono hb1.size)⟩

#print axioms join_any
#print axioms next_fl
#print axioms turn_23
#print axioms text_23
end Go.Proofs.Ytdijlfipmhpihaa
