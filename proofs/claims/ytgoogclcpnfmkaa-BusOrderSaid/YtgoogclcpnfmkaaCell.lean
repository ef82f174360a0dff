/-
  Contracts of layer 2 (cell): Of, and Parts, Turn, Next and Text at cells.
  Conditions: those that each theorem states.
-/
import Derived.Test.YtgoogclcpnfmkaaWords
import Derived.Test.YtgoogclcpnfmkaaHex
import Derived.Test.YtgoogclcpnfmkaaFloat
import Derived.WalkLawsBesides
namespace Go.Proofs.Ytgoogclcpnfmkaa
open Go.ChangeShapes Go.WideShapes Go.ChangeAt Go.RowKit

/-- The cell of an address and a word. -/
def cellV (a b : Int) : Value := .complex .f64 (floatOfInt .f64 a) (floatOfInt .f64 b)

def fitsB (n : Int) : Bool := decide (0 ≤ n ∧ n ≤ 65535)

set_option maxRecDepth 100000 in
set_option maxHeartbeats 400000 in
theorem fits_yes (n : Int) (w : World) (h0 : 0 ≤ n) (h1 : n ≤ 65535) :
    Calls Try.prog 87 #[.int .i64 n] w fun e w' => e = .returned (.bool true) ∧ w = w' := by
  go_enter Try.func87, Try.ntmps87
  go_wp2
  go_ret
  exact ⟨rfl, rfl⟩

set_option maxRecDepth 100000 in
set_option maxHeartbeats 400000 in
theorem fits_no (n : Int) (w : World) (h : n < 0 ∨ 65535 < n) :
    Calls Try.prog 87 #[.int .i64 n] w fun e w' => e = .returned (.bool false) ∧ w = w' := by
  rcases h with h | h
  · have h' : decide (0 ≤ n) = false := by simp; omega
    go_enter Try.func87, Try.ntmps87
    go_wp2
    go_ret
    exact ⟨rfl, rfl⟩
  · have h0 : 0 ≤ n := by omega
    have h' : decide (n ≤ 65535) = false := by simp; omega
    go_enter Try.func87, Try.ntmps87
    go_wp2
    go_ret
    exact ⟨rfl, rfl⟩

set_option maxRecDepth 100000 in
set_option maxHeartbeats 400000 in
theorem join_any (a b : Int) (w : World) :
    Calls Try.prog 88 #[.int .i64 a, .int .i64 b] w fun e w' => e = .returned (cellV a b) ∧ w = w' := by
  go_enter Try.func88, Try.ntmps88
  go_wp2
  go_ret
  exact ⟨rfl, rfl⟩

set_option maxRecDepth 100000 in
set_option maxHeartbeats 400000 in
theorem of_yes (a b : Int) (w : World) (ha : 0 ≤ a) (ha' : a ≤ 65535) (hb : 0 ≤ b) (hb' : b ≤ 65535) :
    Calls Try.prog 80 #[.int .i64 a, .int .i64 b] w fun e w' => e = .returned (.tuple #[cellV a b, .bool true]) ∧ w = w' := by
  go_enter Try.func80, Try.ntmps80
  go_wp2_with (first
    | (go_at_call 87; refine (fits_yes _ _ (by assumption) (by assumption)).mono ?_; rintro e w' ⟨rfl, rfl⟩)
    | (go_at_call 88; refine (join_any _ _ _).mono ?_; rintro e w' ⟨rfl, rfl⟩))
  go_ret2
  exact ⟨rfl, rfl⟩

set_option maxRecDepth 100000 in
set_option maxHeartbeats 400000 in
theorem of_no (a b : Int) (w : World) (h : ¬ (0 ≤ a ∧ a ≤ 65535 ∧ 0 ≤ b ∧ b ≤ 65535)) :
    Calls Try.prog 80 #[.int .i64 a, .int .i64 b] w fun e w' => e = .returned (.tuple #[.complex .f64 0 0, .bool false]) ∧ w = w' := by
  by_cases ha : 0 ≤ a ∧ a ≤ 65535
  · have hb : b < 0 ∨ 65535 < b := by omega
    obtain ⟨ha0, ha1⟩ := ha
    clear h
    go_enter Try.func80, Try.ntmps80
    go_wp2_with fail
    refine (fits_yes _ _ ha0 ha1).mono ?_
    rintro e w' ⟨rfl, rfl⟩
    go_wp2_with fail
    refine (fits_no _ _ hb).mono ?_
    rintro e w' ⟨rfl, rfl⟩
    go_wp2
    go_ret2
    exact ⟨rfl, rfl⟩
  · have hb : a < 0 ∨ 65535 < a := by omega
    clear h ha
    go_enter Try.func80, Try.ntmps80
    go_wp2_with fail
    refine (fits_no _ _ hb).mono ?_
    rintro e w' ⟨rfl, rfl⟩
    go_wp2
    go_ret2
    exact ⟨rfl, rfl⟩

set_option maxRecDepth 100000 in
set_option maxHeartbeats 400000 in
theorem part_fl (a : Int) (w : World) (ha : 0 ≤ a) (ha' : a ≤ 65535) :
    Calls Try.prog 91 #[.float .f64 (floatOfInt .f64 a)] w fun e w' => e = .returned (.tuple #[.int .i64 a, .bool true]) ∧ w = w' := by
  have h1 := fl_low a ha ha'
  have h2 := fl_high a ha ha'
  have h3 := fl_self a ha ha'
  have h3' : (FloatKind.f64.format.order (floatOfInt .f64 a) (floatOfInt .f64 a) != some .eq) = false := by rw [bne, h3]; rfl
  have h4 := run_convert_float_int (P := Try.prog) w 109 3 .f64 .i64 (floatOfInt .f64 a) a (by kernel_rfl) Try.underlying3 (fl_back a ha ha')
  go_enter Try.func91, Try.ntmps91
  go_wp2
  go_ret2
  exact ⟨rfl, rfl⟩

set_option maxRecDepth 100000 in
set_option maxHeartbeats 400000 in
theorem parts_fl (a b : Int) (w : World) (ha : 0 ≤ a) (ha' : a ≤ 65535) (hb : 0 ≤ b) (hb' : b ≤ 65535) :
    Calls Try.prog 89 #[cellV a b] w fun e w' => e = .returned (.tuple #[.int .i64 a, .int .i64 b, .bool true]) ∧ w = w' := by
  unfold cellV
  go_enter Try.func89, Try.ntmps89
  go_wp2_with (go_at_call 91; refine (part_fl _ _ (by assumption) (by assumption)).mono ?_; rintro e w' ⟨rfl, rfl⟩)
  go_ret3
  exact ⟨rfl, rfl⟩

theorem mul_23 : cMulBits 0 4607182418800017408 (floatOfInt .f64 2) (floatOfInt .f64 (-3)) = some (floatOfInt .f64 3, floatOfInt .f64 2) := by decide +kernel

#print axioms join_any
end Go.Proofs.Ytgoogclcpnfmkaa
