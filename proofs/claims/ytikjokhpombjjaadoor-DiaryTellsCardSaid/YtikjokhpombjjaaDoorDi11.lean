/-
  Layer 19 (diary): the example.
  Conditions: those that each theorem states.
-/
import Derived.Test.YtikjokhpombjjaaDoorDi8
import Derived.Test.YtikjokhpombjjaaDoorDiIt
namespace Go.Proofs.YtikjokhpombjjaaDoor
open Go.ChangeShapes Go.WideShapes Go.ChangeAt Go.RowKit

/-- The letter of a kind. -/
def let19 (k : Int) : List UInt8 := if k = 1 then [115] else if k = 2 then [114] else if k = 3 then [120] else [63]

set_option maxRecDepth 100000 in
set_option maxHeartbeats 400000 in
theorem letter19_any (k : Int) (w : World) : Calls Tryd.prog 27 #[.int .i64 k] w fun e w' => e = .returned (.string ⟨(let19 k).toArray⟩) ∧ w' = w := by
  by_cases h1 : k = 1
  · have E : Hid (let19 k = [115]) := Lib.hid (by simp [let19, h1])
    have k1 : (k == 1) = true := by simpa using h1
    clear h1
    go_enter Tryd.func27, Tryd.ntmps27
    go_wp2
    go_ret
    exact ⟨by rw [E.out]; rfl, rfl⟩
  have k1 : (k == 1) = false := by simpa using h1
  by_cases h2 : k = 2
  · have E : Hid (let19 k = [114]) := Lib.hid (by simp [let19, h2])
    have k2 : (k == 2) = true := by simpa using h2
    clear h1 h2
    go_enter Tryd.func27, Tryd.ntmps27
    go_wp2
    go_ret
    exact ⟨by rw [E.out]; rfl, rfl⟩
  have k2 : (k == 2) = false := by simpa using h2
  by_cases h3 : k = 3
  · have E : Hid (let19 k = [120]) := Lib.hid (by simp [let19, h3])
    have k3 : (k == 3) = true := by simpa using h3
    clear h1 h2 h3
    go_enter Tryd.func27, Tryd.ntmps27
    go_wp2
    go_ret
    exact ⟨by rw [E.out]; rfl, rfl⟩
  have k3 : (k == 3) = false := by simpa using h3
  have E : Hid (let19 k = [63]) := Lib.hid (by simp [let19, h1, h2, h3])
  clear h1 h2 h3
  go_enter Tryd.func27, Tryd.ntmps27
  go_wp2
  go_ret
  exact ⟨by rw [E.out]; rfl, rfl⟩

theorem itoaQ (z : Int) (s : List UInt8) (i : Nat) (hz : z = i) (h : i < 100) (hs : Lib.decDigits i = s) (W : World) (n : Nat) : Calls Tryd.prog 26 #[.int .i64 z] (W.drewN n) fun e w'' => e = .returned (.string ⟨s.toArray⟩) ∧ ∃ m, w'' = W.drewN m := by
  subst hz hs
  exact Calls.quiet_of_same (Any.strconv_Itoa_small Tryd.itoaL i h _)

set_option maxRecDepth 100000 in
set_option maxHeartbeats 2000000 in
theorem text19_ex (w : World) :
    Calls Tryd.prog 15 #[.agg #[.int .i64 0, .int .i64 1, .int .i64 1, .int .i64 3, .int .i64 9, .int .i64 0, .slice none 0 0, .int .i64 0]] w fun e w' => e = .returned (.string ⟨#[48, 115, 49, 32, 51, 45, 57, 32, 48]⟩) ∧ Below w.heap.size w w' := by
  have K0 := Lib.hid (itoaQ 0 [48] 0 rfl (by omega) (by decide +kernel))
  have K1 := Lib.hid (itoaQ 1 [49] 1 rfl (by omega) (by decide +kernel))
  have K3 := Lib.hid (itoaQ 3 [51] 3 rfl (by omega) (by decide +kernel))
  have K9 := Lib.hid (itoaQ 9 [57] 9 rfl (by omega) (by decide +kernel))
  have KL : Hid (∀ (W : World) (n : Nat), Calls Tryd.prog 27 #[.int .i64 1] (W.drewN n) fun e w'' => e = .returned (.string ⟨#[115]⟩) ∧ ∃ m, w'' = W.drewN m) := Lib.hid (fun (W : World) (n : Nat) => Calls.quiet_of_same (w := W) (n := n) (letter19_any 1 (W.drewN n)))
  have R := Lib.hid (Row.new w 38 #[.int .i64 0, .int .i64 1, .int .i64 1, .int .i64 3, .int .i64 9, .int .i64 0, .slice none 0 0, .int .i64 0])
  have BB := Lib.hid (below_al w (.cells #[.int .i64 0, .int .i64 1, .int .i64 1, .int .i64 3, .int .i64 9, .int .i64 0, .slice none 0 0, .int .i64 0] 38))
  have KE := Lib.hid (fun (W : World) => ended19_any ⟨0, 1, 1, 3, 9, 0, [], 0⟩ (.slice none 0 0) W)
  simp only [row19] at KE
  go_enter Tryd.func15, Tryd.ntmps15
  go_wp2
  go_quiet (first
    | (go_at_call 26; first | exact K0.out _ _ | exact K1.out _ _ | exact K3.out _ _)
    | (go_at_call 27; exact KL.out _ _))
  go_wp2_with (go_at_call 28; refine (KE.out _).mono ?_; rintro e w1 ⟨rfl, b1⟩; have Q := Lib.hid ((R.out.below (below_dn (Below.refl _ _) _)).below b1); have B1 := Lib.hid (below_on (below_dn BB.out _) b1); have q4 := Q.out.cell 4; have q5 := Q.out.cell 5; simp only [List.getElem?_cons_zero, List.getElem?_cons_succ] at q4 q5; clear b1)
  go_quiet (first
    | (go_at_call 26; first | exact K0.out _ _ | exact K9.out _ _))
  go_wp2
  go_ret
  exact ⟨by rfl, below_dn B1.out _⟩

set_option maxRecDepth 100000 in
set_option maxHeartbeats 400000 in
theorem alive19_any (w : World) : Calls Tryd.prog 8 #[] w fun e w' => e = .returned (.bool true) ∧ Below w.heap.size w w' := by
  go_enter Tryd.func8, Tryd.ntmps8
  go_wp2_with (go_at_call 15; refine (text19_ex _).mono ?_; rintro e w1 ⟨rfl, b1⟩)
  go_ret
  exact ⟨by rfl, b1⟩

#print axioms alive19_any
end Go.Proofs.YtikjokhpombjjaaDoor
