/-
  Layer 9 (mbox): visit, at a call (a closure) that is known by its contract.
  Conditions: those that each theorem states.
-/
import Derived.Test.YtfboikefjealfaaMb2
namespace Go.Proofs.Ytfboikefjealfaa
open Go.ChangeShapes Go.WideShapes Go.ChangeAt Go.RowKit

set_option maxRecDepth 100000 in
set_option maxHeartbeats 400000 in
theorem visit_Ring (L : MLay) (ms : List Mail) (i : Nat) (p1 p2 p3 : Value) (w : World) (r : BoxAt w L ms) (hi : i < ms.length) (R : Int → World → Prop)
    (hk : Calls Try.prog 34 #[.pointer (some ⟨L.mb, i * 2, none⟩), p1, p2, p3] w fun e w' => ∃ z, e = .returned (.int .i64 z) ∧ R z w') :
    Calls Try.prog 27 #[.pointer (some ⟨L.g, 0, none⟩), .int .i64 (i : Int), .func (.func 34) #[] #[p1, p2, p3]] w fun e w' => ∃ z, e = .returned (.int .i64 z) ∧ R z w' := by
  have h1 : w.cell? ⟨L.g, 0, none⟩ = some (.slice (some ⟨L.mb, 0, none⟩) ms.length ms.length) := r.top.cell 0
  have hm := r.most
  have hs := has9_any L ms i w r
  rw [cIs_nat hi] at hs
  have HS := Lib.hid hs
  have HK := Lib.hid hk
  clear r hk hs
  go_enter Try.func27, Try.ntmps27
  go_wp2_with (first
    | (go_at_call 35; refine HS.out.mono ?_; rintro e w' ⟨rfl, rfl⟩)
    | (go_at_call 34; refine HK.out.mono ?_; rintro e w' ⟨z, rfl, hz⟩))
  go_ret
  exact ⟨_, rfl, hz⟩

set_option maxRecDepth 100000 in
set_option maxHeartbeats 400000 in
theorem visit_Pending (L : MLay) (ms : List Mail) (i : Nat) (p1 : Value) (w : World) (r : BoxAt w L ms) (hi : i < ms.length) (R : Int → World → Prop)
    (hk : Calls Try.prog 28 #[.pointer (some ⟨L.mb, i * 2, none⟩), p1] w fun e w' => ∃ z, e = .returned (.int .i64 z) ∧ R z w') :
    Calls Try.prog 27 #[.pointer (some ⟨L.g, 0, none⟩), .int .i64 (i : Int), .func (.func 28) #[] #[p1]] w fun e w' => ∃ z, e = .returned (.int .i64 z) ∧ R z w' := by
  have h1 : w.cell? ⟨L.g, 0, none⟩ = some (.slice (some ⟨L.mb, 0, none⟩) ms.length ms.length) := r.top.cell 0
  have hm := r.most
  have hs := has9_any L ms i w r
  rw [cIs_nat hi] at hs
  have HS := Lib.hid hs
  have HK := Lib.hid hk
  clear r hk hs
  go_enter Try.func27, Try.ntmps27
  go_wp2_with (first
    | (go_at_call 35; refine HS.out.mono ?_; rintro e w' ⟨rfl, rfl⟩)
    | (go_at_call 28; refine HK.out.mono ?_; rintro e w' ⟨z, rfl, hz⟩))
  go_ret
  exact ⟨_, rfl, hz⟩

set_option maxRecDepth 100000 in
set_option maxHeartbeats 400000 in
theorem visit_Ack (L : MLay) (ms : List Mail) (i : Nat) (p1 : Value) (w : World) (r : BoxAt w L ms) (hi : i < ms.length) (R : Int → World → Prop)
    (hk : Calls Try.prog 42 #[.pointer (some ⟨L.mb, i * 2, none⟩), p1] w fun e w' => ∃ z, e = .returned (.int .i64 z) ∧ R z w') :
    Calls Try.prog 27 #[.pointer (some ⟨L.g, 0, none⟩), .int .i64 (i : Int), .func (.func 42) #[] #[p1]] w fun e w' => ∃ z, e = .returned (.int .i64 z) ∧ R z w' := by
  have h1 : w.cell? ⟨L.g, 0, none⟩ = some (.slice (some ⟨L.mb, 0, none⟩) ms.length ms.length) := r.top.cell 0
  have hm := r.most
  have hs := has9_any L ms i w r
  rw [cIs_nat hi] at hs
  have HS := Lib.hid hs
  have HK := Lib.hid hk
  clear r hk hs
  go_enter Try.func27, Try.ntmps27
  go_wp2_with (first
    | (go_at_call 35; refine HS.out.mono ?_; rintro e w' ⟨rfl, rfl⟩)
    | (go_at_call 42; refine HK.out.mono ?_; rintro e w' ⟨z, rfl, hz⟩))
  go_ret
  exact ⟨_, rfl, hz⟩

set_option maxRecDepth 100000 in
set_option maxHeartbeats 400000 in
theorem visit_Take (L : MLay) (ms : List Mail) (i : Nat) (p1 p2 : Value) (w : World) (r : BoxAt w L ms) (hi : i < ms.length) (R : Int → World → Prop)
    (hk : Calls Try.prog 39 #[.pointer (some ⟨L.mb, i * 2, none⟩), p1, p2] w fun e w' => ∃ z, e = .returned (.int .i64 z) ∧ R z w') :
    Calls Try.prog 27 #[.pointer (some ⟨L.g, 0, none⟩), .int .i64 (i : Int), .func (.func 39) #[] #[p1, p2]] w fun e w' => ∃ z, e = .returned (.int .i64 z) ∧ R z w' := by
  have h1 : w.cell? ⟨L.g, 0, none⟩ = some (.slice (some ⟨L.mb, 0, none⟩) ms.length ms.length) := r.top.cell 0
  have hm := r.most
  have hs := has9_any L ms i w r
  rw [cIs_nat hi] at hs
  have HS := Lib.hid hs
  have HK := Lib.hid hk
  clear r hk hs
  go_enter Try.func27, Try.ntmps27
  go_wp2_with (first
    | (go_at_call 35; refine HS.out.mono ?_; rintro e w' ⟨rfl, rfl⟩)
    | (go_at_call 39; refine HK.out.mono ?_; rintro e w' ⟨z, rfl, hz⟩))
  go_ret
  exact ⟨_, rfl, hz⟩

set_option maxRecDepth 100000 in
set_option maxHeartbeats 400000 in
theorem visit_Waits (L : MLay) (ms : List Mail) (i : Nat) (p1 : Value) (w : World) (r : BoxAt w L ms) (hi : i < ms.length) (R : Int → World → Prop)
    (hk : Calls Try.prog 29 #[.pointer (some ⟨L.mb, i * 2, none⟩), p1] w fun e w' => ∃ z, e = .returned (.int .i64 z) ∧ R z w') :
    Calls Try.prog 27 #[.pointer (some ⟨L.g, 0, none⟩), .int .i64 (i : Int), .func (.func 29) #[] #[p1]] w fun e w' => ∃ z, e = .returned (.int .i64 z) ∧ R z w' := by
  have h1 : w.cell? ⟨L.g, 0, none⟩ = some (.slice (some ⟨L.mb, 0, none⟩) ms.length ms.length) := r.top.cell 0
  have hm := r.most
  have hs := has9_any L ms i w r
  rw [cIs_nat hi] at hs
  have HS := Lib.hid hs
  have HK := Lib.hid hk
  clear r hk hs
  go_enter Try.func27, Try.ntmps27
  go_wp2_with (first
    | (go_at_call 35; refine HS.out.mono ?_; rintro e w' ⟨rfl, rfl⟩)
    | (go_at_call 29; refine HK.out.mono ?_; rintro e w' ⟨z, rfl, hz⟩))
  go_ret
  exact ⟨_, rfl, hz⟩

set_option maxRecDepth 100000 in
set_option maxHeartbeats 400000 in
theorem visit_Reset (L : MLay) (ms : List Mail) (i : Nat) (p1 : Value) (w : World) (r : BoxAt w L ms) (hi : i < ms.length) (R : Int → World → Prop)
    (hk : Calls Try.prog 43 #[.pointer (some ⟨L.mb, i * 2, none⟩), p1] w fun e w' => ∃ z, e = .returned (.int .i64 z) ∧ R z w') :
    Calls Try.prog 27 #[.pointer (some ⟨L.g, 0, none⟩), .int .i64 (i : Int), .func (.func 43) #[] #[p1]] w fun e w' => ∃ z, e = .returned (.int .i64 z) ∧ R z w' := by
  have h1 : w.cell? ⟨L.g, 0, none⟩ = some (.slice (some ⟨L.mb, 0, none⟩) ms.length ms.length) := r.top.cell 0
  have hm := r.most
  have hs := has9_any L ms i w r
  rw [cIs_nat hi] at hs
  have HS := Lib.hid hs
  have HK := Lib.hid hk
  clear r hk hs
  go_enter Try.func27, Try.ntmps27
  go_wp2_with (first
    | (go_at_call 35; refine HS.out.mono ?_; rintro e w' ⟨rfl, rfl⟩)
    | (go_at_call 43; refine HK.out.mono ?_; rintro e w' ⟨z, rfl, hz⟩))
  go_ret
  exact ⟨_, rfl, hz⟩

#print axioms visit_Ring
#print axioms visit_Reset
end Go.Proofs.Ytfboikefjealfaa
