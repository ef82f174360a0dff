/-
  Layer 7 (litmus): the law LitmusOrder for whatever arguments.
  Conditions: those that each theorem states.
-/
import Derived.Test.YthagbcdpnijifaaLit29
namespace Go.Proofs.Ythagbcdpnijifaa
open Go.ChangeShapes Go.WideShapes Go.ChangeAt Go.RowKit

set_option maxRecDepth 100000 in
set_option maxHeartbeats 1000000 in
theorem order_no0 (x y a b buf : Int) (w : World)  (h0 : x < 0) :
    Calls Try.prog 7 #[.agg #[.int .i64 x, .int .i64 y], .agg #[.int .i64 a, .int .i64 b], .int .i64 buf] w fun e w' => e = .returned (.bool true) ∧ Below w.heap.size w w' := by
  have t0 : decide (x < 0) = true := by simpa using h0
  have BB := Lib.hid (((below_al w (.cells #[.int .i64 x, .int .i64 y] 41)).alloc (by simp) (.cells #[.int .i64 a, .int .i64 b] 41)).drew)
  clear h0
  go_enter Try.func7, Try.ntmps7
  go_wp2
  go_region
  go_wp2_with (go_at_call 10; refine (alive_any _).mono ?_; rintro e w6 ⟨rfl, hb6⟩)
  go_ret
  exact ⟨rfl, below_on BB.out hb6⟩

set_option maxRecDepth 100000 in
set_option maxHeartbeats 1000000 in
theorem order_no1 (x y a b buf : Int) (w : World) (h0 : ¬ (x < 0)) (h1 : 3 < x) :
    Calls Try.prog 7 #[.agg #[.int .i64 x, .int .i64 y], .agg #[.int .i64 a, .int .i64 b], .int .i64 buf] w fun e w' => e = .returned (.bool true) ∧ Below w.heap.size w w' := by
  have t0 : decide (x < 0) = false := by simpa using h0
  have t1 : decide (3 < x) = true := by simpa using h1
  have BB := Lib.hid (((below_al w (.cells #[.int .i64 x, .int .i64 y] 41)).alloc (by simp) (.cells #[.int .i64 a, .int .i64 b] 41)).drew)
  clear h0 h1
  go_enter Try.func7, Try.ntmps7
  go_wp2
  go_region
  go_wp2_with (go_at_call 10; refine (alive_any _).mono ?_; rintro e w6 ⟨rfl, hb6⟩)
  go_ret
  exact ⟨rfl, below_on BB.out hb6⟩

set_option maxRecDepth 100000 in
set_option maxHeartbeats 1000000 in
theorem order_no2 (x y a b buf : Int) (w : World) (h0 : ¬ (x < 0)) (h1 : ¬ (3 < x)) (h2 : y < 0) :
    Calls Try.prog 7 #[.agg #[.int .i64 x, .int .i64 y], .agg #[.int .i64 a, .int .i64 b], .int .i64 buf] w fun e w' => e = .returned (.bool true) ∧ Below w.heap.size w w' := by
  have t0 : decide (x < 0) = false := by simpa using h0
  have t1 : decide (3 < x) = false := by simpa using h1
  have t2 : decide (y < 0) = true := by simpa using h2
  have BB := Lib.hid (((below_al w (.cells #[.int .i64 x, .int .i64 y] 41)).alloc (by simp) (.cells #[.int .i64 a, .int .i64 b] 41)).drew)
  clear h0 h1 h2
  go_enter Try.func7, Try.ntmps7
  go_wp2
  go_region
  go_wp2_with (go_at_call 10; refine (alive_any _).mono ?_; rintro e w6 ⟨rfl, hb6⟩)
  go_ret
  exact ⟨rfl, below_on BB.out hb6⟩

set_option maxRecDepth 100000 in
set_option maxHeartbeats 1000000 in
theorem order_no3 (x y a b buf : Int) (w : World) (h0 : ¬ (x < 0)) (h1 : ¬ (3 < x)) (h2 : ¬ (y < 0)) (h3 : 3 < y) :
    Calls Try.prog 7 #[.agg #[.int .i64 x, .int .i64 y], .agg #[.int .i64 a, .int .i64 b], .int .i64 buf] w fun e w' => e = .returned (.bool true) ∧ Below w.heap.size w w' := by
  have t0 : decide (x < 0) = false := by simpa using h0
  have t1 : decide (3 < x) = false := by simpa using h1
  have t2 : decide (y < 0) = false := by simpa using h2
  have t3 : decide (3 < y) = true := by simpa using h3
  have BB := Lib.hid (((below_al w (.cells #[.int .i64 x, .int .i64 y] 41)).alloc (by simp) (.cells #[.int .i64 a, .int .i64 b] 41)).drew)
  clear h0 h1 h2 h3
  go_enter Try.func7, Try.ntmps7
  go_wp2
  go_region
  go_wp2_with (go_at_call 10; refine (alive_any _).mono ?_; rintro e w6 ⟨rfl, hb6⟩)
  go_ret
  exact ⟨rfl, below_on BB.out hb6⟩

set_option maxRecDepth 100000 in
set_option maxHeartbeats 1000000 in
theorem order_no4 (x y a b buf : Int) (w : World) (h0 : ¬ (x < 0)) (h1 : ¬ (3 < x)) (h2 : ¬ (y < 0)) (h3 : ¬ (3 < y)) (h4 : x = y) :
    Calls Try.prog 7 #[.agg #[.int .i64 x, .int .i64 y], .agg #[.int .i64 a, .int .i64 b], .int .i64 buf] w fun e w' => e = .returned (.bool true) ∧ Below w.heap.size w w' := by
  have t0 : decide (x < 0) = false := by simpa using h0
  have t1 : decide (3 < x) = false := by simpa using h1
  have t2 : decide (y < 0) = false := by simpa using h2
  have t3 : decide (3 < y) = false := by simpa using h3
  have t4 : (x == y) = true := by simpa using h4
  have BB := Lib.hid (((below_al w (.cells #[.int .i64 x, .int .i64 y] 41)).alloc (by simp) (.cells #[.int .i64 a, .int .i64 b] 41)).drew)
  clear h0 h1 h2 h3 h4
  go_enter Try.func7, Try.ntmps7
  go_wp2
  go_region
  go_wp2_with (go_at_call 10; refine (alive_any _).mono ?_; rintro e w6 ⟨rfl, hb6⟩)
  go_ret
  exact ⟨rfl, below_on BB.out hb6⟩

set_option maxRecDepth 100000 in
set_option maxHeartbeats 1000000 in
theorem order_no5 (x y a b buf : Int) (w : World) (h0 : ¬ (x < 0)) (h1 : ¬ (3 < x)) (h2 : ¬ (y < 0)) (h3 : ¬ (3 < y)) (h4 : ¬ (x = y)) (h5 : a < 1) :
    Calls Try.prog 7 #[.agg #[.int .i64 x, .int .i64 y], .agg #[.int .i64 a, .int .i64 b], .int .i64 buf] w fun e w' => e = .returned (.bool true) ∧ Below w.heap.size w w' := by
  have t0 : decide (x < 0) = false := by simpa using h0
  have t1 : decide (3 < x) = false := by simpa using h1
  have t2 : decide (y < 0) = false := by simpa using h2
  have t3 : decide (3 < y) = false := by simpa using h3
  have t4 : (x == y) = false := by simpa using h4
  have t5 : decide (a < 1) = true := by simpa using h5
  have BB := Lib.hid (((below_al w (.cells #[.int .i64 x, .int .i64 y] 41)).alloc (by simp) (.cells #[.int .i64 a, .int .i64 b] 41)).drew)
  clear h0 h1 h2 h3 h4 h5
  go_enter Try.func7, Try.ntmps7
  go_wp2
  go_region
  go_wp2_with (go_at_call 10; refine (alive_any _).mono ?_; rintro e w6 ⟨rfl, hb6⟩)
  go_ret
  exact ⟨rfl, below_on BB.out hb6⟩

set_option maxRecDepth 100000 in
set_option maxHeartbeats 1000000 in
theorem order_no6 (x y a b buf : Int) (w : World) (h0 : ¬ (x < 0)) (h1 : ¬ (3 < x)) (h2 : ¬ (y < 0)) (h3 : ¬ (3 < y)) (h4 : ¬ (x = y)) (h5 : ¬ (a < 1)) (h6 : 9 < a) :
    Calls Try.prog 7 #[.agg #[.int .i64 x, .int .i64 y], .agg #[.int .i64 a, .int .i64 b], .int .i64 buf] w fun e w' => e = .returned (.bool true) ∧ Below w.heap.size w w' := by
  have t0 : decide (x < 0) = false := by simpa using h0
  have t1 : decide (3 < x) = false := by simpa using h1
  have t2 : decide (y < 0) = false := by simpa using h2
  have t3 : decide (3 < y) = false := by simpa using h3
  have t4 : (x == y) = false := by simpa using h4
  have t5 : decide (a < 1) = false := by simpa using h5
  have t6 : decide (9 < a) = true := by simpa using h6
  have BB := Lib.hid (((below_al w (.cells #[.int .i64 x, .int .i64 y] 41)).alloc (by simp) (.cells #[.int .i64 a, .int .i64 b] 41)).drew)
  clear h0 h1 h2 h3 h4 h5 h6
  go_enter Try.func7, Try.ntmps7
  go_wp2
  go_region
  go_wp2_with (go_at_call 10; refine (alive_any _).mono ?_; rintro e w6 ⟨rfl, hb6⟩)
  go_ret
  exact ⟨rfl, below_on BB.out hb6⟩

set_option maxRecDepth 100000 in
set_option maxHeartbeats 1000000 in
theorem order_no7 (x y a b buf : Int) (w : World) (h0 : ¬ (x < 0)) (h1 : ¬ (3 < x)) (h2 : ¬ (y < 0)) (h3 : ¬ (3 < y)) (h4 : ¬ (x = y)) (h5 : ¬ (a < 1)) (h6 : ¬ (9 < a)) (h7 : b < 1) :
    Calls Try.prog 7 #[.agg #[.int .i64 x, .int .i64 y], .agg #[.int .i64 a, .int .i64 b], .int .i64 buf] w fun e w' => e = .returned (.bool true) ∧ Below w.heap.size w w' := by
  have t0 : decide (x < 0) = false := by simpa using h0
  have t1 : decide (3 < x) = false := by simpa using h1
  have t2 : decide (y < 0) = false := by simpa using h2
  have t3 : decide (3 < y) = false := by simpa using h3
  have t4 : (x == y) = false := by simpa using h4
  have t5 : decide (a < 1) = false := by simpa using h5
  have t6 : decide (9 < a) = false := by simpa using h6
  have t7 : decide (b < 1) = true := by simpa using h7
  have BB := Lib.hid (((below_al w (.cells #[.int .i64 x, .int .i64 y] 41)).alloc (by simp) (.cells #[.int .i64 a, .int .i64 b] 41)).drew)
  clear h0 h1 h2 h3 h4 h5 h6 h7
  go_enter Try.func7, Try.ntmps7
  go_wp2
  go_region
  go_wp2_with (go_at_call 10; refine (alive_any _).mono ?_; rintro e w6 ⟨rfl, hb6⟩)
  go_ret
  exact ⟨rfl, below_on BB.out hb6⟩

set_option maxRecDepth 100000 in
set_option maxHeartbeats 1000000 in
theorem order_no8 (x y a b buf : Int) (w : World) (h0 : ¬ (x < 0)) (h1 : ¬ (3 < x)) (h2 : ¬ (y < 0)) (h3 : ¬ (3 < y)) (h4 : ¬ (x = y)) (h5 : ¬ (a < 1)) (h6 : ¬ (9 < a)) (h7 : ¬ (b < 1)) (h8 : 9 < b) :
    Calls Try.prog 7 #[.agg #[.int .i64 x, .int .i64 y], .agg #[.int .i64 a, .int .i64 b], .int .i64 buf] w fun e w' => e = .returned (.bool true) ∧ Below w.heap.size w w' := by
  have t0 : decide (x < 0) = false := by simpa using h0
  have t1 : decide (3 < x) = false := by simpa using h1
  have t2 : decide (y < 0) = false := by simpa using h2
  have t3 : decide (3 < y) = false := by simpa using h3
  have t4 : (x == y) = false := by simpa using h4
  have t5 : decide (a < 1) = false := by simpa using h5
  have t6 : decide (9 < a) = false := by simpa using h6
  have t7 : decide (b < 1) = false := by simpa using h7
  have t8 : decide (9 < b) = true := by simpa using h8
  have BB := Lib.hid (((below_al w (.cells #[.int .i64 x, .int .i64 y] 41)).alloc (by simp) (.cells #[.int .i64 a, .int .i64 b] 41)).drew)
  clear h0 h1 h2 h3 h4 h5 h6 h7 h8
  go_enter Try.func7, Try.ntmps7
  go_wp2
  go_region
  go_wp2_with (go_at_call 10; refine (alive_any _).mono ?_; rintro e w6 ⟨rfl, hb6⟩)
  go_ret
  exact ⟨rfl, below_on BB.out hb6⟩

set_option maxRecDepth 100000 in
set_option maxHeartbeats 1000000 in
theorem order_no9 (x y a b buf : Int) (w : World) (h0 : ¬ (x < 0)) (h1 : ¬ (3 < x)) (h2 : ¬ (y < 0)) (h3 : ¬ (3 < y)) (h4 : ¬ (x = y)) (h5 : ¬ (a < 1)) (h6 : ¬ (9 < a)) (h7 : ¬ (b < 1)) (h8 : ¬ (9 < b)) (h9 : buf < 0) :
    Calls Try.prog 7 #[.agg #[.int .i64 x, .int .i64 y], .agg #[.int .i64 a, .int .i64 b], .int .i64 buf] w fun e w' => e = .returned (.bool true) ∧ Below w.heap.size w w' := by
  have t0 : decide (x < 0) = false := by simpa using h0
  have t1 : decide (3 < x) = false := by simpa using h1
  have t2 : decide (y < 0) = false := by simpa using h2
  have t3 : decide (3 < y) = false := by simpa using h3
  have t4 : (x == y) = false := by simpa using h4
  have t5 : decide (a < 1) = false := by simpa using h5
  have t6 : decide (9 < a) = false := by simpa using h6
  have t7 : decide (b < 1) = false := by simpa using h7
  have t8 : decide (9 < b) = false := by simpa using h8
  have t9 : decide (buf < 0) = true := by simpa using h9
  have BB := Lib.hid (((below_al w (.cells #[.int .i64 x, .int .i64 y] 41)).alloc (by simp) (.cells #[.int .i64 a, .int .i64 b] 41)).drew)
  clear h0 h1 h2 h3 h4 h5 h6 h7 h8 h9
  go_enter Try.func7, Try.ntmps7
  go_wp2
  go_region
  go_wp2_with (go_at_call 10; refine (alive_any _).mono ?_; rintro e w6 ⟨rfl, hb6⟩)
  go_ret
  exact ⟨rfl, below_on BB.out hb6⟩

set_option maxRecDepth 100000 in
set_option maxHeartbeats 1000000 in
theorem order_no10 (x y a b buf : Int) (w : World) (h0 : ¬ (x < 0)) (h1 : ¬ (3 < x)) (h2 : ¬ (y < 0)) (h3 : ¬ (3 < y)) (h4 : ¬ (x = y)) (h5 : ¬ (a < 1)) (h6 : ¬ (9 < a)) (h7 : ¬ (b < 1)) (h8 : ¬ (9 < b)) (h9 : ¬ (buf < 0)) (h10 : 4 < buf) :
    Calls Try.prog 7 #[.agg #[.int .i64 x, .int .i64 y], .agg #[.int .i64 a, .int .i64 b], .int .i64 buf] w fun e w' => e = .returned (.bool true) ∧ Below w.heap.size w w' := by
  have t0 : decide (x < 0) = false := by simpa using h0
  have t1 : decide (3 < x) = false := by simpa using h1
  have t2 : decide (y < 0) = false := by simpa using h2
  have t3 : decide (3 < y) = false := by simpa using h3
  have t4 : (x == y) = false := by simpa using h4
  have t5 : decide (a < 1) = false := by simpa using h5
  have t6 : decide (9 < a) = false := by simpa using h6
  have t7 : decide (b < 1) = false := by simpa using h7
  have t8 : decide (9 < b) = false := by simpa using h8
  have t9 : decide (buf < 0) = false := by simpa using h9
  have t10 : decide (4 < buf) = true := by simpa using h10
  have BB := Lib.hid (((below_al w (.cells #[.int .i64 x, .int .i64 y] 41)).alloc (by simp) (.cells #[.int .i64 a, .int .i64 b] 41)).drew)
  clear h0 h1 h2 h3 h4 h5 h6 h7 h8 h9 h10
  go_enter Try.func7, Try.ntmps7
  go_wp2
  go_region
  go_wp2_with (go_at_call 10; refine (alive_any _).mono ?_; rintro e w6 ⟨rfl, hb6⟩)
  go_ret
  exact ⟨rfl, below_on BB.out hb6⟩

theorem order_any (x y a b buf : Int) (w : World) :
    Calls Try.prog 7 #[.agg #[.int .i64 x, .int .i64 y], .agg #[.int .i64 a, .int .i64 b], .int .i64 buf] w fun e w' => e = .returned (.bool true) ∧ Below w.heap.size w w' := by
  by_cases h0 : x < 0
  · exact order_no0 x y a b buf w h0
  by_cases h1 : 3 < x
  · exact order_no1 x y a b buf w h0 h1
  by_cases h2 : y < 0
  · exact order_no2 x y a b buf w h0 h1 h2
  by_cases h3 : 3 < y
  · exact order_no3 x y a b buf w h0 h1 h2 h3
  by_cases h4 : x = y
  · exact order_no4 x y a b buf w h0 h1 h2 h3 h4
  by_cases h5 : a < 1
  · exact order_no5 x y a b buf w h0 h1 h2 h3 h4 h5
  by_cases h6 : 9 < a
  · exact order_no6 x y a b buf w h0 h1 h2 h3 h4 h5 h6
  by_cases h7 : b < 1
  · exact order_no7 x y a b buf w h0 h1 h2 h3 h4 h5 h6 h7
  by_cases h8 : 9 < b
  · exact order_no8 x y a b buf w h0 h1 h2 h3 h4 h5 h6 h7 h8
  by_cases h9 : buf < 0
  · exact order_no9 x y a b buf w h0 h1 h2 h3 h4 h5 h6 h7 h8 h9
  by_cases h10 : 4 < buf
  · exact order_no10 x y a b buf w h0 h1 h2 h3 h4 h5 h6 h7 h8 h9 h10
  obtain ⟨X, rfl⟩ := Int.eq_ofNat_of_zero_le (show 0 ≤ x by omega)
  obtain ⟨Y, rfl⟩ := Int.eq_ofNat_of_zero_le (show 0 ≤ y by omega)
  obtain ⟨N, rfl⟩ := Int.eq_ofNat_of_zero_le (show 0 ≤ buf by omega)
  exact order_main X Y N a b w (by omega) (by omega) (by omega) (by omega) (by omega) (by omega) (by omega) (by omega)

#print axioms order_any
end Go.Proofs.Ythagbcdpnijifaa
