/-
  The walk of the law CellOf of layer 2: it returns true for every input, and nothing that was there before the call changes.
  Conditions: none.
-/
import Derived.Test.YtgoogclcpnfmkaaCell
import Derived.Laws.Entries
namespace Go.Proofs.Ytgoogclcpnfmkaa
open Go.ChangeShapes Go.WideShapes Go.ChangeAt Go.RowKit

theorem put_float (P : Program) (w : World) (a : Addr) (m : Mode) (k : FloatKind) (b : Nat) : (store a (.float k b) m).run P w = stored P w a (.float k b) m := run_store P w a _ m rfl
attribute [local go_sem] put_float

set_option maxRecDepth 100000 in
set_option maxHeartbeats 400000 in
theorem ris_yes (n : Int) (w : World) (h0 : 0 ≤ n) (h1 : n ≤ 65535) :
    Calls Try.prog 67 #[.int .i64 n] w fun e w' => e = .returned (.bool true) ∧ w = w' := by
  go_enter Try.func67, Try.ntmps67
  go_wp2
  go_ret
  exact ⟨rfl, rfl⟩

set_option maxRecDepth 100000 in
set_option maxHeartbeats 400000 in
theorem ris_no (n : Int) (w : World) (h : n < 0 ∨ 65535 < n) :
    Calls Try.prog 67 #[.int .i64 n] w fun e w' => e = .returned (.bool false) ∧ w = w' := by
  rcases h with h | h
  · have h' : decide (0 ≤ n) = false := by simp; omega
    go_enter Try.func67, Try.ntmps67
    go_wp2
    go_ret
    exact ⟨rfl, rfl⟩
  · have h0 : 0 ≤ n := by omega
    have h' : decide (n ≤ 65535) = false := by simp; omega
    go_enter Try.func67, Try.ntmps67
    go_wp2
    go_ret
    exact ⟨rfl, rfl⟩

set_option maxRecDepth 100000 in
set_option maxHeartbeats 400000 in
theorem rof_yes (a b : Int) (w : World) (ha : 0 ≤ a) (ha' : a ≤ 65535) (hb : 0 ≤ b) (hb' : b ≤ 65535) :
    Calls Try.prog 66 #[.int .i64 a, .int .i64 b] w fun e w' => e = .returned (.tuple #[.agg #[.float .f64 (floatOfInt .f64 a), .float .f64 (floatOfInt .f64 b)], .bool true]) ∧ Below w.heap.size w w' := by
  go_enter Try.func66, Try.ntmps66
  go_wp2_with (go_at_call 67; refine (ris_yes _ _ (by assumption) (by assumption)).mono ?_; rintro e w' ⟨rfl, rfl⟩)
  exact bodyPost_ret (v := .tuple #[.agg #[.float .f64 (floatOfInt .f64 a), .float .f64 (floatOfInt .f64 b)], .bool true]) (by simp [results, Try.results66, go_sem]) rfl ⟨rfl, by go_grown⟩

set_option maxRecDepth 100000 in
set_option maxHeartbeats 400000 in
theorem rof_no (a b : Int) (w : World) (h : ¬ (0 ≤ a ∧ a ≤ 65535 ∧ 0 ≤ b ∧ b ≤ 65535)) :
    Calls Try.prog 66 #[.int .i64 a, .int .i64 b] w fun e w' => e = .returned (.tuple #[.agg #[.float .f64 0, .float .f64 0], .bool false]) ∧ Below w.heap.size w w' := by
  by_cases ha : 0 ≤ a ∧ a ≤ 65535
  · have hb : b < 0 ∨ 65535 < b := by omega
    obtain ⟨ha0, ha1⟩ := ha
    clear h
    go_enter Try.func66, Try.ntmps66
    go_wp2_with fail
    refine (ris_yes _ _ ha0 ha1).mono ?_
    rintro e w' ⟨rfl, rfl⟩
    go_wp2_with fail
    refine (ris_no _ _ hb).mono ?_
    rintro e w' ⟨rfl, rfl⟩
    go_wp2
    exact bodyPost_ret (v := .tuple #[.agg #[.float .f64 0, .float .f64 0], .bool false]) (by simp [results, Try.results66, go_sem]) rfl ⟨rfl, by go_grown⟩
  · have hb : a < 0 ∨ 65535 < a := by omega
    clear h ha
    go_enter Try.func66, Try.ntmps66
    go_wp2_with fail
    refine (ris_no _ _ hb).mono ?_
    rintro e w' ⟨rfl, rfl⟩
    go_wp2
    exact bodyPost_ret (v := .tuple #[.agg #[.float .f64 0, .float .f64 0], .bool false]) (by simp [results, Try.results66, go_sem]) rfl ⟨rfl, by go_grown⟩

/-- Two words of bits stand for equal numbers. -/
def sameF (x y : Nat) : Bool := FloatKind.f64.format.order x y == some .eq

theorem add_23 : addW 2 (-3) = 65535 := by decide
theorem c23 : cellV 2 3 = .complex .f64 4611686018427387904 4613937818241073152 := by
  unfold cellV; rw [show floatOfInt .f64 2 = 4611686018427387904 by decide +kernel, show floatOfInt .f64 3 = 4613937818241073152 by decide +kernel]
theorem c32 : cellV 3 2 = .complex .f64 4613937818241073152 4611686018427387904 := by
  unfold cellV; rw [show floatOfInt .f64 2 = 4611686018427387904 by decide +kernel, show floatOfInt .f64 3 = 4613937818241073152 by decide +kernel]
theorem cl3 : cellV 65535 3 = .complex .f64 4679239875398991872 4613937818241073152 := by
  unfold cellV; rw [fl_last, show floatOfInt .f64 3 = 4613937818241073152 by decide +kernel]
theorem o2 : (FloatKind.f64.format.order 4611686018427387904 4611686018427387904 == some .eq) = true := by decide +kernel
theorem o3 : (FloatKind.f64.format.order 4613937818241073152 4613937818241073152 == some .eq) = true := by decide +kernel
theorem ol : (FloatKind.f64.format.order 4679239875398991872 4679239875398991872 == some .eq) = true := by decide +kernel

end Go.Proofs.Ytgoogclcpnfmkaa
