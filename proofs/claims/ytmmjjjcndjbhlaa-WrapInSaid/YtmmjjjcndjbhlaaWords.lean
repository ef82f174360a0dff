/-
  Contracts of the number functions of layer 1 (Word, Add, Sub, Ahead, In), of the program and of the reference, for every argument: each returns the number that modular arithmetic gives and leaves the world as it is.
  Conditions: none.
-/
import Derived.Test.YtmmjjjcndjbhlaaRows
import Derived.WalkKit
import Derived.ProofKit
import Derived.OpenShut
import Derived.Handy
import Derived.Lib.Hide
import Derived.Laws.BitsLemmas
namespace Go.Proofs.Ytmmjjjcndjbhlaa
open Go.ChangeShapes Go.WideShapes Go.ChangeAt Go.RowKit

theorem and_mask16 (n : Int) : bits .and .i64 n 65535 = n % 65536 := by
  have hm : (BitVec.ofInt 64 65535).toNat = 2 ^ 16 - 1 := by decide
  have key : (BitVec.ofInt 64 n &&& BitVec.ofInt 64 65535).toNat = (n % ((2 ^ 64 : Nat) : Int)).toNat % 2 ^ 16 := by
    rw [BitVec.toNat_and, BitVec.toNat_ofInt, hm, Nat.and_two_pow_sub_one_eq_mod]
  show IntKind.i64.wrap ((BitVec.ofInt 64 n &&& BitVec.ofInt 64 65535).toNat : Nat) = n % 65536
  rw [key, IntKind.wrap_i64]
  omega

theorem ret_int {k : IntKind} {a b : Int} (h : a = b) : Ending.returned (.int k a) = .returned (.int k b) := by rw [h]

set_option maxHeartbeats 400000 in
theorem word_any (n : Int) (w : World) :
    Calls Try.prog 8 #[.int .i64 n] w fun e w' => e = .returned (.int .i64 (n % 65536)) ∧ w = w' := by
  go_enter Try.func8, Try.ntmps8
  go_wp2
  go_ret
  exact ⟨ret_int (and_mask16 n), rfl⟩

set_option maxHeartbeats 400000 in
theorem rword_any (n : Int) (w : World) :
    Calls Try.prog 9 #[.int .i64 n] w fun e w' => e = .returned (.int .i64 (n % 65536)) ∧ w = w' := by
  have b1 := Int.tmod_lt_of_pos n (show (0 : Int) < 65536 by omega)
  have b2 : -65536 < n.tmod 65536 := by have := Int.tmod_lt_of_pos (-n) (show (0 : Int) < 65536 by omega); rw [Int.neg_tmod] at this; omega
  by_cases h : n.tmod 65536 < 0
  all_goals
    go_enter Try.func9, Try.ntmps9
    go_wp2
    go_ret
    refine ⟨ret_int ?_, rfl⟩
    have hd := Int.mul_tdiv_add_tmod n 65536
    omega

def addW (a b : Int) : Int := (a + b) % 65536
def subW (a b : Int) : Int := (a - b) % 65536
def aheadW (a b : Int) : Int := if 32768 ≤ subW b a then subW b a - 65536 else subW b a
theorem addW_bd (a b : Int) : 0 ≤ addW a b ∧ addW a b ≤ 65535 := by unfold addW; omega
theorem subW_bd (a b : Int) : 0 ≤ subW a b ∧ subW a b ≤ 65535 := by unfold subW; omega
theorem aheadW_bd (a b : Int) : -32768 ≤ aheadW a b ∧ aheadW a b ≤ 32767 := by have := subW_bd b a; unfold aheadW; split <;> omega

set_option maxHeartbeats 400000 in
theorem add_any (a b : Int) (w : World) :
    Calls Try.prog 10 #[.int .i64 a, .int .i64 b] w fun e w' => e = .returned (.int .i64 (addW a b)) ∧ w = w' := by
  have b1 : 0 ≤ a % 65536 ∧ a % 65536 ≤ 65535 := by omega
  have b2 : 0 ≤ b % 65536 ∧ b % 65536 ≤ 65535 := by omega
  go_enter Try.func10, Try.ntmps10
  go_wp2_with (go_at_call 8; refine (word_any _ _).mono ?_; rintro e w' ⟨rfl, rfl⟩)
  go_ret
  exact ⟨rfl, rfl⟩

set_option maxHeartbeats 400000 in
theorem sub_any (a b : Int) (w : World) :
    Calls Try.prog 12 #[.int .i64 a, .int .i64 b] w fun e w' => e = .returned (.int .i64 (subW a b)) ∧ w = w' := by
  have b1 : 0 ≤ a % 65536 ∧ a % 65536 ≤ 65535 := by omega
  have b2 : 0 ≤ b % 65536 ∧ b % 65536 ≤ 65535 := by omega
  go_enter Try.func12, Try.ntmps12
  go_wp2_with (go_at_call 8; refine (word_any _ _).mono ?_; rintro e w' ⟨rfl, rfl⟩)
  go_ret
  exact ⟨rfl, rfl⟩

set_option maxHeartbeats 400000 in
theorem ahead_any (a b : Int) (w : World) :
    Calls Try.prog 14 #[.int .i64 a, .int .i64 b] w fun e w' => e = .returned (.int .i64 (aheadW a b)) ∧ w = w' := by
  have b1 := subW_bd b a
  by_cases h : 32768 ≤ subW b a
  · have hr : aheadW a b = subW b a - 65536 := if_pos h
    have HR := Lib.hid hr; clear hr
    go_enter Try.func14, Try.ntmps14
    go_wp2_with (go_at_call 12; refine (sub_any _ _ _).mono ?_; rintro e w' ⟨rfl, rfl⟩)
    go_ret
    exact ⟨ret_int HR.out.symm, rfl⟩
  · have hr : aheadW a b = subW b a := if_neg h
    have HR := Lib.hid hr; clear hr
    go_enter Try.func14, Try.ntmps14
    go_wp2_with (go_at_call 12; refine (sub_any _ _ _).mono ?_; rintro e w' ⟨rfl, rfl⟩)
    go_ret
    exact ⟨ret_int HR.out.symm, rfl⟩

set_option maxHeartbeats 400000 in
theorem in_any (f n x : Int) (w : World) :
    Calls Try.prog 19 #[.int .i64 f, .int .i64 n, .int .i64 x] w fun e w' => e = .returned (.bool (decide (subW x f < n))) ∧ w = w' := by
  have b1 := subW_bd x f
  go_enter Try.func19, Try.ntmps19
  go_wp2_with (go_at_call 12; refine (sub_any _ _ _).mono ?_; rintro e w' ⟨rfl, rfl⟩)
  go_ret
  exact ⟨rfl, rfl⟩

set_option maxHeartbeats 400000 in
theorem radd_any (a b : Int) (w : World) :
    Calls Try.prog 11 #[.int .i64 a, .int .i64 b] w fun e w' => e = .returned (.int .i64 (addW a b)) ∧ w = w' := by
  have b1 : 0 ≤ a % 65536 ∧ a % 65536 ≤ 65535 := by omega
  have b2 : 0 ≤ b % 65536 ∧ b % 65536 ≤ 65535 := by omega
  go_enter Try.func11, Try.ntmps11
  go_wp2_with (go_at_call 9; refine (rword_any _ _).mono ?_; rintro e w' ⟨rfl, rfl⟩)
  go_ret
  exact ⟨rfl, rfl⟩

set_option maxHeartbeats 400000 in
theorem rsub_any (a b : Int) (w : World) :
    Calls Try.prog 13 #[.int .i64 a, .int .i64 b] w fun e w' => e = .returned (.int .i64 (subW a b)) ∧ w = w' := by
  have b1 : 0 ≤ a % 65536 ∧ a % 65536 ≤ 65535 := by omega
  have b2 : 0 ≤ b % 65536 ∧ b % 65536 ≤ 65535 := by omega
  go_enter Try.func13, Try.ntmps13
  go_wp2_with (go_at_call 9; refine (rword_any _ _).mono ?_; rintro e w' ⟨rfl, rfl⟩)
  go_ret
  exact ⟨rfl, rfl⟩

set_option maxHeartbeats 400000 in
theorem rahead_any (a b : Int) (w : World) :
    Calls Try.prog 15 #[.int .i64 a, .int .i64 b] w fun e w' => e = .returned (.int .i64 (aheadW a b)) ∧ w = w' := by
  have b1 := subW_bd b a
  by_cases h : 32768 ≤ subW b a
  · have hr : aheadW a b = subW b a - 65536 := if_pos h
    have HR := Lib.hid hr; clear hr
    go_enter Try.func15, Try.ntmps15
    go_wp2_with (go_at_call 13; refine (rsub_any _ _ _).mono ?_; rintro e w' ⟨rfl, rfl⟩)
    go_ret
    exact ⟨ret_int HR.out.symm, rfl⟩
  · have hr : aheadW a b = subW b a := if_neg h
    have HR := Lib.hid hr; clear hr
    go_enter Try.func15, Try.ntmps15
    go_wp2_with (go_at_call 13; refine (rsub_any _ _ _).mono ?_; rintro e w' ⟨rfl, rfl⟩)
    go_ret
    exact ⟨ret_int HR.out.symm, rfl⟩

set_option maxHeartbeats 400000 in
theorem rin_any (f n x : Int) (w : World) :
    Calls Try.prog 20 #[.int .i64 f, .int .i64 n, .int .i64 x] w fun e w' => e = .returned (.bool (decide (subW x f < n))) ∧ w = w' := by
  have b1 := subW_bd x f
  go_enter Try.func20, Try.ntmps20
  go_wp2_with (go_at_call 13; refine (rsub_any _ _ _).mono ?_; rintro e w' ⟨rfl, rfl⟩)
  go_ret
  exact ⟨rfl, rfl⟩

#print axioms in_any
#print axioms rahead_any
#print axioms rin_any
end Go.Proofs.Ytmmjjjcndjbhlaa
