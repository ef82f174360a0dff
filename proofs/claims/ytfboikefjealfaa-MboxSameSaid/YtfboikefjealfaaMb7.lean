/-
  Layer 9 (mbox): the methods Ring, Pending, Ack, Take, Waits, Reset at a core that there is not, and at a nil Box.
  Conditions: those that each theorem states.
-/
import Derived.Test.YtfboikefjealfaaMb6
namespace Go.Proofs.Ytfboikefjealfaa
open Go.ChangeShapes Go.WideShapes Go.ChangeAt Go.RowKit

set_option maxRecDepth 100000 in
set_option maxHeartbeats 1000000 in
theorem ring9_no (L : MLay) (ms : List Mail) (f c x : Int) (w : World) (r : BoxAt w L ms) (hc : cIs ms.length c = false) :
    Calls Try.prog 18 #[.pointer (some ⟨L.g, 0, none⟩), .int .i64 f, .int .i64 c, .int .i64 x] w (TellP (.int .i64 3) w) := by
  have hb : Below w.heap.size w (((w.alloc (.cells #[.pointer (some ⟨L.g, 0, none⟩)] 24)).alloc (.cells #[.int .i64 f] 3)).alloc (.cells #[.int .i64 x] 3)) := (below_on (below_on (below_al _ _) (below_al _ _)) (below_al _ _))
  have X := Lib.hid (fun F => visit_no L ms c F _ (r.below hb) hc)
  clear hb r hc
  go_enter Try.func18, Try.ntmps18
  go_wp2_with (go_at_call 27; refine (X.out _).mono ?_; rintro e w1 ⟨rfl, rfl⟩)
  go_ret
  exact ⟨rfl, (below_on (below_on (below_al _ _) (below_al _ _)) (below_al _ _))⟩

set_option maxRecDepth 100000 in
set_option maxHeartbeats 1000000 in
theorem ring9_nil (f c x : Int) (w : World) :
    Calls Try.prog 18 #[.pointer none, .int .i64 f, .int .i64 c, .int .i64 x] w (TellP (.int .i64 1) w) := by
  have X := Lib.hid (fun F => visit_nil c F (((w.alloc (.cells #[.pointer none] 24)).alloc (.cells #[.int .i64 f] 3)).alloc (.cells #[.int .i64 x] 3)))
  go_enter Try.func18, Try.ntmps18
  go_wp2_with (go_at_call 27; refine (X.out _).mono ?_; rintro e w1 ⟨rfl, rfl⟩)
  go_ret
  exact ⟨rfl, (below_on (below_on (below_al _ _) (below_al _ _)) (below_al _ _))⟩

set_option maxRecDepth 100000 in
set_option maxHeartbeats 1000000 in
theorem pend9_no (L : MLay) (ms : List Mail) (c : Int) (w : World) (r : BoxAt w L ms) (hc : cIs ms.length c = false) :
    Calls Try.prog 12 #[.pointer (some ⟨L.g, 0, none⟩), .int .i64 c] w (TellP (.tuple #[.int .i64 0, .int .i64 3]) w) := by
  have hb : Below w.heap.size w (w.alloc (.cells #[.int .i64 0] 3)) := (below_al _ _)
  have X := Lib.hid (fun F => visit_no L ms c F _ (r.below hb) hc)
  clear hb r hc
  go_enter Try.func12, Try.ntmps12
  go_wp2_with (go_at_call 27; refine (X.out _).mono ?_; rintro e w1 ⟨rfl, rfl⟩)
  exact bodyPost_ret (v := .tuple #[.int .i64 0, .int .i64 3]) (by simp [results, Try.results12, go_sem, *]) rfl ⟨rfl, (below_al _ _)⟩

set_option maxRecDepth 100000 in
set_option maxHeartbeats 1000000 in
theorem pend9_nil (c : Int) (w : World) :
    Calls Try.prog 12 #[.pointer none, .int .i64 c] w (TellP (.tuple #[.int .i64 0, .int .i64 1]) w) := by
  have X := Lib.hid (fun F => visit_nil c F (w.alloc (.cells #[.int .i64 0] 3)))
  go_enter Try.func12, Try.ntmps12
  go_wp2_with (go_at_call 27; refine (X.out _).mono ?_; rintro e w1 ⟨rfl, rfl⟩)
  exact bodyPost_ret (v := .tuple #[.int .i64 0, .int .i64 1]) (by simp [results, Try.results12, go_sem, *]) rfl ⟨rfl, (below_al _ _)⟩

set_option maxRecDepth 100000 in
set_option maxHeartbeats 1000000 in
theorem ack9_no (L : MLay) (ms : List Mail) (c x : Int) (w : World) (r : BoxAt w L ms) (hc : cIs ms.length c = false) :
    Calls Try.prog 20 #[.pointer (some ⟨L.g, 0, none⟩), .int .i64 c, .int .i64 x] w (TellP (.int .i64 3) w) := by
  have hb : Below w.heap.size w (w.alloc (.cells #[.int .i64 x] 3)) := (below_al _ _)
  have X := Lib.hid (fun F => visit_no L ms c F _ (r.below hb) hc)
  clear hb r hc
  go_enter Try.func20, Try.ntmps20
  go_wp2_with (go_at_call 27; refine (X.out _).mono ?_; rintro e w1 ⟨rfl, rfl⟩)
  go_ret
  exact ⟨rfl, (below_al _ _)⟩

set_option maxRecDepth 100000 in
set_option maxHeartbeats 1000000 in
theorem ack9_nil (c x : Int) (w : World) :
    Calls Try.prog 20 #[.pointer none, .int .i64 c, .int .i64 x] w (TellP (.int .i64 1) w) := by
  have X := Lib.hid (fun F => visit_nil c F (w.alloc (.cells #[.int .i64 x] 3)))
  go_enter Try.func20, Try.ntmps20
  go_wp2_with (go_at_call 27; refine (X.out _).mono ?_; rintro e w1 ⟨rfl, rfl⟩)
  go_ret
  exact ⟨rfl, (below_al _ _)⟩

set_option maxRecDepth 100000 in
set_option maxHeartbeats 1000000 in
theorem take9_no (L : MLay) (ms : List Mail) (c : Int) (w : World) (r : BoxAt w L ms) (hc : cIs ms.length c = false) :
    Calls Try.prog 19 #[.pointer (some ⟨L.g, 0, none⟩), .int .i64 c] w (TellP (.tuple #[.int .i64 0, .int .i64 0, .int .i64 3]) w) := by
  have hb : Below w.heap.size w ((w.alloc (.cells #[.int .i64 0] 3)).alloc (.cells #[.int .i64 0] 3)) := (below_on (below_al _ _) (below_al _ _))
  have X := Lib.hid (fun F => visit_no L ms c F _ (r.below hb) hc)
  clear hb r hc
  go_enter Try.func19, Try.ntmps19
  go_wp2_with (go_at_call 27; refine (X.out _).mono ?_; rintro e w1 ⟨rfl, rfl⟩)
  go_region
  all_goals go_wp2
  all_goals exact bodyPost_ret (v := .tuple #[.int .i64 0, .int .i64 0, .int .i64 3]) (by simp [results, Try.results19, go_sem, *]) rfl ⟨rfl, (below_on (below_al _ _) (below_al _ _)).drew⟩

set_option maxRecDepth 100000 in
set_option maxHeartbeats 1000000 in
theorem take9_nil (c : Int) (w : World) :
    Calls Try.prog 19 #[.pointer none, .int .i64 c] w (TellP (.tuple #[.int .i64 0, .int .i64 0, .int .i64 1]) w) := by
  have X := Lib.hid (fun F => visit_nil c F ((w.alloc (.cells #[.int .i64 0] 3)).alloc (.cells #[.int .i64 0] 3)))
  go_enter Try.func19, Try.ntmps19
  go_wp2_with (go_at_call 27; refine (X.out _).mono ?_; rintro e w1 ⟨rfl, rfl⟩)
  go_region
  all_goals go_wp2
  all_goals exact bodyPost_ret (v := .tuple #[.int .i64 0, .int .i64 0, .int .i64 1]) (by simp [results, Try.results19, go_sem, *]) rfl ⟨rfl, (below_on (below_al _ _) (below_al _ _)).drew⟩

set_option maxRecDepth 100000 in
set_option maxHeartbeats 1000000 in
theorem waits9_no (L : MLay) (ms : List Mail) (c : Int) (w : World) (r : BoxAt w L ms) (hc : cIs ms.length c = false) :
    Calls Try.prog 14 #[.pointer (some ⟨L.g, 0, none⟩), .int .i64 c] w (TellP (.int .i64 0) w) := by
  have hb : Below w.heap.size w (w.alloc (.cells #[.int .i64 0] 3)) := (below_al _ _)
  have X := Lib.hid (fun F => visit_no L ms c F _ (r.below hb) hc)
  clear hb r hc
  go_enter Try.func14, Try.ntmps14
  go_wp2_with (go_at_call 27; refine (X.out _).mono ?_; rintro e w1 ⟨rfl, rfl⟩)
  exact bodyPost_ret (v := .int .i64 0) (by simp [results, Try.results14, go_sem, *]) rfl ⟨rfl, (below_al _ _)⟩

set_option maxRecDepth 100000 in
set_option maxHeartbeats 1000000 in
theorem waits9_nil (c : Int) (w : World) :
    Calls Try.prog 14 #[.pointer none, .int .i64 c] w (TellP (.int .i64 0) w) := by
  have X := Lib.hid (fun F => visit_nil c F (w.alloc (.cells #[.int .i64 0] 3)))
  go_enter Try.func14, Try.ntmps14
  go_wp2_with (go_at_call 27; refine (X.out _).mono ?_; rintro e w1 ⟨rfl, rfl⟩)
  exact bodyPost_ret (v := .int .i64 0) (by simp [results, Try.results14, go_sem, *]) rfl ⟨rfl, (below_al _ _)⟩

set_option maxRecDepth 100000 in
set_option maxHeartbeats 1000000 in
theorem reset9_no (L : MLay) (ms : List Mail) (c : Int) (w : World) (r : BoxAt w L ms) (hc : cIs ms.length c = false) :
    Calls Try.prog 26 #[.pointer (some ⟨L.g, 0, none⟩), .int .i64 c] w (TellP (.tuple #[.int .i64 0, .int .i64 3]) w) := by
  have hb : Below w.heap.size w (w.alloc (.cells #[.int .i64 0] 3)) := (below_al _ _)
  have X := Lib.hid (fun F => visit_no L ms c F _ (r.below hb) hc)
  clear hb r hc
  go_enter Try.func26, Try.ntmps26
  go_wp2_with (go_at_call 27; refine (X.out _).mono ?_; rintro e w1 ⟨rfl, rfl⟩)
  exact bodyPost_ret (v := .tuple #[.int .i64 0, .int .i64 3]) (by simp [results, Try.results26, go_sem, *]) rfl ⟨rfl, (below_al _ _)⟩

set_option maxRecDepth 100000 in
set_option maxHeartbeats 1000000 in
theorem reset9_nil (c : Int) (w : World) :
    Calls Try.prog 26 #[.pointer none, .int .i64 c] w (TellP (.tuple #[.int .i64 0, .int .i64 1]) w) := by
  have X := Lib.hid (fun F => visit_nil c F (w.alloc (.cells #[.int .i64 0] 3)))
  go_enter Try.func26, Try.ntmps26
  go_wp2_with (go_at_call 27; refine (X.out _).mono ?_; rintro e w1 ⟨rfl, rfl⟩)
  exact bodyPost_ret (v := .tuple #[.int .i64 0, .int .i64 1]) (by simp [results, Try.results26, go_sem, *]) rfl ⟨rfl, (below_al _ _)⟩

#print axioms ring9_no
#print axioms reset9_nil
end Go.Proofs.Ytfboikefjealfaa
