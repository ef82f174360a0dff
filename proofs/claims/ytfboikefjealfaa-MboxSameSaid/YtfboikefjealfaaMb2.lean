/-
  Layer 9 (mbox): has; visit at a nil Box, at a core that there is not.
  Conditions: those that each theorem states.
-/
import Derived.Test.YtfboikefjealfaaMb
namespace Go.Proofs.Ytfboikefjealfaa
open Go.ChangeShapes Go.WideShapes Go.ChangeAt Go.RowKit

/-- Is there such a core? -/
def cIs (n : Nat) (c : Int) : Bool := decide (0 ≤ c ∧ c < n)
theorem cIs_yes {n : Nat} {c : Int} (h : cIs n c = true) : 0 ≤ c ∧ c < n := by simpa [cIs] using h
theorem cIs_no {n : Nat} {c : Int} (h : cIs n c = false) : ¬ (0 ≤ c ∧ c < n) := by simpa [cIs] using h
theorem cIs_nat {n i : Nat} (h : i < n) : cIs n (i : Int) = true := by simp [cIs]; omega

set_option maxRecDepth 100000 in
set_option maxHeartbeats 400000 in
theorem has9_any (L : MLay) (ms : List Mail) (c : Int) (w : World) (r : BoxAt w L ms) :
    Calls Try.prog 35 #[.pointer (some ⟨L.g, 0, none⟩), .int .i64 c] w fun e w' => e = .returned (.bool (cIs ms.length c)) ∧ w = w' := by
  have h1 : w.cell? ⟨L.g, 0, none⟩ = some (.slice (some ⟨L.mb, 0, none⟩) ms.length ms.length) := r.top.cell 0
  have hm := r.most
  clear r
  by_cases h0 : 0 ≤ c
  · have e : cIs ms.length c = decide (c < (ms.length : Int)) := by simp [cIs, h0]
    have E := Lib.hid e; clear e
    go_enter Try.func35, Try.ntmps35
    go_wp2
    go_ret
    exact ⟨by rw [E.out]; rfl, rfl⟩
  · have e : cIs ms.length c = false := by simp [cIs, h0]
    have E := Lib.hid e; clear e
    go_enter Try.func35, Try.ntmps35
    go_wp2
    go_ret
    exact ⟨by rw [E.out]; rfl, rfl⟩

set_option maxRecDepth 100000 in
set_option maxHeartbeats 400000 in
theorem visit_nil (c : Int) (F : Value) (w : World) :
    Calls Try.prog 27 #[.pointer none, .int .i64 c, F] w fun e w' => e = .returned (.int .i64 1) ∧ w = w' := by
  go_enter Try.func27, Try.ntmps27
  go_wp2
  go_ret
  exact ⟨rfl, rfl⟩

set_option maxRecDepth 100000 in
set_option maxHeartbeats 400000 in
theorem visit_no (L : MLay) (ms : List Mail) (c : Int) (F : Value) (w : World) (r : BoxAt w L ms) (hc : cIs ms.length c = false) :
    Calls Try.prog 27 #[.pointer (some ⟨L.g, 0, none⟩), .int .i64 c, F] w fun e w' => e = .returned (.int .i64 3) ∧ w = w' := by
  have hs := has9_any L ms c w r
  rw [hc] at hs
  have HS := Lib.hid hs
  clear r hs hc
  go_enter Try.func27, Try.ntmps27
  go_wp2_with (go_at_call 35; refine HS.out.mono ?_; rintro e w' ⟨rfl, rfl⟩)
  go_ret
  exact ⟨rfl, rfl⟩

#print axioms has9_any
#print axioms visit_no
end Go.Proofs.Ytfboikefjealfaa
