/-
  Layer 6 (bus): execute, at a request that is known by its contract.
  Conditions: those that each theorem states.
-/
import Derived.Test.YtgoogclcpnfmkaaBus2
namespace Go.Proofs.Ytgoogclcpnfmkaa
open Go.ChangeShapes Go.WideShapes Go.ChangeAt Go.RowKit

set_option maxRecDepth 100000 in
set_option maxHeartbeats 400000 in
theorem exec_nil (c : Int) (F : Value) (w : World) :
    Calls Try.prog 49 #[.pointer none, .int .i64 c, F] w fun e w' => e = .returned (.int .i64 1) ∧ w = w' := by
  go_enter Try.func49, Try.ntmps49
  go_wp2
  go_ret
  exact ⟨rfl, rfl⟩

set_option maxRecDepth 100000 in
set_option maxHeartbeats 400000 in
theorem exec_no (L : Lay) (N : Nat) (l : List Int) (qs : List (List (Int × Int))) (c : Int) (F : Value) (w : World) (r : BusAt w L N l qs) (hc : c < 0 ∨ (qs.length : Int) ≤ c) :
    Calls Try.prog 49 #[ptr L.g, .int .i64 c, F] w fun e w' => e = .returned (.int .i64 3) ∧ w = w' := by
  have h1 : w.cell? ⟨L.g, 1, none⟩ = some (.slice (some ⟨L.bb, 0, none⟩) qs.length qs.length) := r.top.cell 1
  have hm := r.most
  clear r
  unfold ptr
  by_cases h0 : c < 0
  · clear hc
    go_enter Try.func49, Try.ntmps49
    go_wp2
    go_ret
    exact ⟨rfl, rfl⟩
  · have h2 : (qs.length : Int) ≤ c := by omega
    clear hc
    go_enter Try.func49, Try.ntmps49
    go_wp2
    go_ret
    exact ⟨rfl, rfl⟩

set_option maxRecDepth 100000 in
set_option maxHeartbeats 400000 in
theorem exec_Load (L : Lay) (N : Nat) (l : List Int) (qs : List (List (Int × Int))) (i : Nat) (p1 p2 p3 p4 : Value) (w : World) (r : BusAt w L N l qs) (hi : i < qs.length) (R : Int → World → Prop)
    (hk : Calls Try.prog 56 #[ptr (L.gf i), p1, p2, p3, p4] w fun e w' => ∃ z, e = .returned (.int .i64 z) ∧ R z w') :
    Calls Try.prog 49 #[ptr L.g, .int .i64 (i : Int), .func (.func 56) #[] #[p1, p2, p3, p4]] w fun e w' => ∃ z, e = .returned (.int .i64 z) ∧ R z w' := by
  have h1 : w.cell? ⟨L.g, 1, none⟩ = some (.slice (some ⟨L.bb, 0, none⟩) qs.length qs.length) := r.top.cell 1
  have h2 : w.cell? ⟨L.bb, i, none⟩ = some (.pointer (some ⟨L.gf i, 0, none⟩)) := by rw [r.row.cell, ptrs_at _ hi]; rfl
  have hm := r.most
  have HK := Lib.hid hk
  clear r hk
  unfold ptr at HK ⊢
  go_enter Try.func49, Try.ntmps49
  go_wp2_with (go_at_call 56; refine HK.out.mono ?_; rintro e w' ⟨z, rfl, hz⟩)
  go_ret
  exact ⟨_, rfl, hz⟩

set_option maxRecDepth 100000 in
set_option maxHeartbeats 400000 in
theorem exec_Store (L : Lay) (N : Nat) (l : List Int) (qs : List (List (Int × Int))) (i : Nat) (p1 p2 p3 : Value) (w : World) (r : BusAt w L N l qs) (hi : i < qs.length) (R : Int → World → Prop)
    (hk : Calls Try.prog 50 #[ptr (L.gf i), p1, p2, p3] w fun e w' => ∃ z, e = .returned (.int .i64 z) ∧ R z w') :
    Calls Try.prog 49 #[ptr L.g, .int .i64 (i : Int), .func (.func 50) #[] #[p1, p2, p3]] w fun e w' => ∃ z, e = .returned (.int .i64 z) ∧ R z w' := by
  have h1 : w.cell? ⟨L.g, 1, none⟩ = some (.slice (some ⟨L.bb, 0, none⟩) qs.length qs.length) := r.top.cell 1
  have h2 : w.cell? ⟨L.bb, i, none⟩ = some (.pointer (some ⟨L.gf i, 0, none⟩)) := by rw [r.row.cell, ptrs_at _ hi]; rfl
  have hm := r.most
  have HK := Lib.hid hk
  clear r hk
  unfold ptr at HK ⊢
  go_enter Try.func49, Try.ntmps49
  go_wp2_with (go_at_call 50; refine HK.out.mono ?_; rintro e w' ⟨z, rfl, hz⟩)
  go_ret
  exact ⟨_, rfl, hz⟩

set_option maxRecDepth 100000 in
set_option maxHeartbeats 400000 in
theorem exec_Fence (L : Lay) (N : Nat) (l : List Int) (qs : List (List (Int × Int))) (i : Nat) (p1 p2 : Value) (w : World) (r : BusAt w L N l qs) (hi : i < qs.length) (R : Int → World → Prop)
    (hk : Calls Try.prog 59 #[ptr (L.gf i), p1, p2] w fun e w' => ∃ z, e = .returned (.int .i64 z) ∧ R z w') :
    Calls Try.prog 49 #[ptr L.g, .int .i64 (i : Int), .func (.func 59) #[] #[p1, p2]] w fun e w' => ∃ z, e = .returned (.int .i64 z) ∧ R z w' := by
  have h1 : w.cell? ⟨L.g, 1, none⟩ = some (.slice (some ⟨L.bb, 0, none⟩) qs.length qs.length) := r.top.cell 1
  have h2 : w.cell? ⟨L.bb, i, none⟩ = some (.pointer (some ⟨L.gf i, 0, none⟩)) := by rw [r.row.cell, ptrs_at _ hi]; rfl
  have hm := r.most
  have HK := Lib.hid hk
  clear r hk
  unfold ptr at HK ⊢
  go_enter Try.func49, Try.ntmps49
  go_wp2_with (go_at_call 59; refine HK.out.mono ?_; rintro e w' ⟨z, rfl, hz⟩)
  go_ret
  exact ⟨_, rfl, hz⟩

set_option maxRecDepth 100000 in
set_option maxHeartbeats 400000 in
theorem exec_Drain (L : Lay) (N : Nat) (l : List Int) (qs : List (List (Int × Int))) (i : Nat) (p1 p2 : Value) (w : World) (r : BusAt w L N l qs) (hi : i < qs.length) (R : Int → World → Prop)
    (hk : Calls Try.prog 72 #[ptr (L.gf i), p1, p2] w fun e w' => ∃ z, e = .returned (.int .i64 z) ∧ R z w') :
    Calls Try.prog 49 #[ptr L.g, .int .i64 (i : Int), .func (.func 72) #[] #[p1, p2]] w fun e w' => ∃ z, e = .returned (.int .i64 z) ∧ R z w' := by
  have h1 : w.cell? ⟨L.g, 1, none⟩ = some (.slice (some ⟨L.bb, 0, none⟩) qs.length qs.length) := r.top.cell 1
  have h2 : w.cell? ⟨L.bb, i, none⟩ = some (.pointer (some ⟨L.gf i, 0, none⟩)) := by rw [r.row.cell, ptrs_at _ hi]; rfl
  have hm := r.most
  have HK := Lib.hid hk
  clear r hk
  unfold ptr at HK ⊢
  go_enter Try.func49, Try.ntmps49
  go_wp2_with (go_at_call 72; refine HK.out.mono ?_; rintro e w' ⟨z, rfl, hz⟩)
  go_ret
  exact ⟨_, rfl, hz⟩

set_option maxRecDepth 100000 in
set_option maxHeartbeats 400000 in
theorem exec_Swap (L : Lay) (N : Nat) (l : List Int) (qs : List (List (Int × Int))) (i : Nat) (p1 p2 p3 p4 : Value) (w : World) (r : BusAt w L N l qs) (hi : i < qs.length) (R : Int → World → Prop)
    (hk : Calls Try.prog 73 #[ptr (L.gf i), p1, p2, p3, p4] w fun e w' => ∃ z, e = .returned (.int .i64 z) ∧ R z w') :
    Calls Try.prog 49 #[ptr L.g, .int .i64 (i : Int), .func (.func 73) #[] #[p1, p2, p3, p4]] w fun e w' => ∃ z, e = .returned (.int .i64 z) ∧ R z w' := by
  have h1 : w.cell? ⟨L.g, 1, none⟩ = some (.slice (some ⟨L.bb, 0, none⟩) qs.length qs.length) := r.top.cell 1
  have h2 : w.cell? ⟨L.bb, i, none⟩ = some (.pointer (some ⟨L.gf i, 0, none⟩)) := by rw [r.row.cell, ptrs_at _ hi]; rfl
  have hm := r.most
  have HK := Lib.hid hk
  clear r hk
  unfold ptr at HK ⊢
  go_enter Try.func49, Try.ntmps49
  go_wp2_with (go_at_call 73; refine HK.out.mono ?_; rintro e w' ⟨z, rfl, hz⟩)
  go_ret
  exact ⟨_, rfl, hz⟩

set_option maxRecDepth 100000 in
set_option maxHeartbeats 400000 in
theorem exec_Lose (L : Lay) (N : Nat) (l : List Int) (qs : List (List (Int × Int))) (i : Nat) (p1 : Value) (w : World) (r : BusAt w L N l qs) (hi : i < qs.length) (R : Int → World → Prop)
    (hk : Calls Try.prog 75 #[ptr (L.gf i), p1] w fun e w' => ∃ z, e = .returned (.int .i64 z) ∧ R z w') :
    Calls Try.prog 49 #[ptr L.g, .int .i64 (i : Int), .func (.func 75) #[] #[p1]] w fun e w' => ∃ z, e = .returned (.int .i64 z) ∧ R z w' := by
  have h1 : w.cell? ⟨L.g, 1, none⟩ = some (.slice (some ⟨L.bb, 0, none⟩) qs.length qs.length) := r.top.cell 1
  have h2 : w.cell? ⟨L.bb, i, none⟩ = some (.pointer (some ⟨L.gf i, 0, none⟩)) := by rw [r.row.cell, ptrs_at _ hi]; rfl
  have hm := r.most
  have HK := Lib.hid hk
  clear r hk
  unfold ptr at HK ⊢
  go_enter Try.func49, Try.ntmps49
  go_wp2_with (go_at_call 75; refine HK.out.mono ?_; rintro e w' ⟨z, rfl, hz⟩)
  go_ret
  exact ⟨_, rfl, hz⟩

set_option maxRecDepth 100000 in
set_option maxHeartbeats 400000 in
theorem exec_Waits (L : Lay) (N : Nat) (l : List Int) (qs : List (List (Int × Int))) (i : Nat) (p1 : Value) (w : World) (r : BusAt w L N l qs) (hi : i < qs.length) (R : Int → World → Prop)
    (hk : Calls Try.prog 63 #[ptr (L.gf i), p1] w fun e w' => ∃ z, e = .returned (.int .i64 z) ∧ R z w') :
    Calls Try.prog 49 #[ptr L.g, .int .i64 (i : Int), .func (.func 63) #[] #[p1]] w fun e w' => ∃ z, e = .returned (.int .i64 z) ∧ R z w' := by
  have h1 : w.cell? ⟨L.g, 1, none⟩ = some (.slice (some ⟨L.bb, 0, none⟩) qs.length qs.length) := r.top.cell 1
  have h2 : w.cell? ⟨L.bb, i, none⟩ = some (.pointer (some ⟨L.gf i, 0, none⟩)) := by rw [r.row.cell, ptrs_at _ hi]; rfl
  have hm := r.most
  have HK := Lib.hid hk
  clear r hk
  unfold ptr at HK ⊢
  go_enter Try.func49, Try.ntmps49
  go_wp2_with (go_at_call 63; refine HK.out.mono ?_; rintro e w' ⟨z, rfl, hz⟩)
  go_ret
  exact ⟨_, rfl, hz⟩

#print axioms exec_Load
#print axioms exec_Waits
end Go.Proofs.Ytgoogclcpnfmkaa
