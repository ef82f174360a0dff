/-
  Contracts of the number functions of layer 1 (Word, Add, Sub, Ahead, In), of the program and of the reference, for every argument: each returns the number that modular arithmetic gives and leaves the world as it is.
  Conditions: none.
-/
import Derived.Test.YtgdbaaoifnedbaaDoorRows
import Derived.WalkKit
import Derived.ProofKit
import Derived.OpenShut
import Derived.Handy
import Derived.Lib.Hide
import Derived.Laws.BitsLemmas
namespace Go.Proofs.YtgdbaaoifnedbaaDoor
open Go.ChangeShapes Go.WideShapes Go.ChangeAt Go.RowKit

theorem and_mask16 (n : Int) : bits .and .i64 n 65535 = n % 65536 := by
  have hm : (BitVec.ofInt 64 65535).toNat = 2 ^ 16 - 1 := by decide
  have key : (BitVec.ofInt 64 n &&& BitVec.ofInt 64 65535).toNat = (n % ((2 ^ 64 : Nat) : Int)).toNat % 2 ^ 16 := by
    rw [BitVec.toNat_and, BitVec.toNat_ofInt, hm, Nat.and_two_pow_sub_one_eq_mod]
  show IntKind.i64.wrap ((BitVec.ofInt 64 n &&& BitVec.ofInt 64 65535).toNat : Nat) = n % 65536
  rw [key, IntKind.wrap_i64]
  omega

theorem below_tr {a b c : World} (h : Below a.heap.size a b) (h' : Below b.heap.size b c) : Below a.heap.size a c := h.trans (h'.mono h.size)

theorem ret_int {k : IntKind} {a b : Int} (h : a = b) : Ending.returned (.int k a) = .returned (.int k b) := by rw [h]

set_option maxRecDepth 100000 in
set_option maxHeartbeats 400000 in
theorem word_any (n : Int) (w : World) :
    Calls Tryd.prog 73 #[.int .i64 n] w fun e w' => e = .returned (.int .i64 (n % 65536)) ∧ w = w' := by
  go_enter Tryd.func73, Tryd.ntmps73
  go_wp2
  go_ret
  exact ⟨ret_int (and_mask16 n), rfl⟩

set_option maxRecDepth 100000 in
set_option maxHeartbeats 400000 in
theorem rword_any (n : Int) (w : World) :
    Calls Tryd.prog 85 #[.int .i64 n] w fun e w' => e = .returned (.int .i64 (n % 65536)) ∧ w = w' := by
  have b1 := Int.tmod_lt_of_pos n (show (0 : Int) < 65536 by omega)
  have b2 : -65536 < n.tmod 65536 := by have := Int.tmod_lt_of_pos (-n) (show (0 : Int) < 65536 by omega); rw [Int.neg_tmod] at this; omega
  by_cases h : n.tmod 65536 < 0
  all_goals
    go_enter Tryd.func85, Tryd.ntmps85
    go_wp2
    go_ret
    refine ⟨ret_int ?_, rfl⟩
    have hd := Int.mul_tdiv_add_tmod n 65536
    omega

def addW (a b : Int) : Int := (a + b) % 65536
def subW (a b : Int) : Int := (a - b) % 65536
def aheadW (a b : Int) : Int := if 32768 ≤ subW b a then subW b a - 65536 else subW b a
theorem addW_bd (a b : Int) : 0 ≤ addW a b ∧ addW a b ≤ 65535 := by unfold addW; omega
theorem subW_bd (a b : Int) : 0 ≤ subW a b ∧ subW a b ≤ 65535 := by unfold subW; omega
theorem aheadW_bd (a b : Int) : -32768 ≤ aheadW a b ∧ aheadW a b ≤ 32767 := by have := subW_bd b a; unfold aheadW; split <;> omega

set_option maxRecDepth 100000 in
set_option maxHeartbeats 400000 in
theorem add_any (a b : Int) (w : World) :
    Calls Tryd.prog 102 #[.int .i64 a, .int .i64 b] w fun e w' => e = .returned (.int .i64 (addW a b)) ∧ w = w' := by
  have b1 : 0 ≤ a % 65536 ∧ a % 65536 ≤ 65535 := by omega
  have b2 : 0 ≤ b % 65536 ∧ b % 65536 ≤ 65535 := by omega
  go_enter Tryd.func102, Tryd.ntmps102
  go_wp2_with (go_at_call 73; refine (word_any _ _).mono ?_; rintro e w' ⟨rfl, rfl⟩)
  go_ret
  exact ⟨rfl, rfl⟩

set_option maxRecDepth 100000 in
set_option maxHeartbeats 400000 in
theorem sub_any (a b : Int) (w : World) :
    Calls Tryd.prog 95 #[.int .i64 a, .int .i64 b] w fun e w' => e = .returned (.int .i64 (subW a b)) ∧ w = w' := by
  have b1 : 0 ≤ a % 65536 ∧ a % 65536 ≤ 65535 := by omega
  have b2 : 0 ≤ b % 65536 ∧ b % 65536 ≤ 65535 := by omega
  go_enter Tryd.func95, Tryd.ntmps95
  go_wp2_with (go_at_call 73; refine (word_any _ _).mono ?_; rintro e w' ⟨rfl, rfl⟩)
  go_ret
  exact ⟨rfl, rfl⟩

set_option maxRecDepth 100000 in
set_option maxHeartbeats 400000 in
theorem radd_any (a b : Int) (w : World) :
    Calls Tryd.prog 86 #[.int .i64 a, .int .i64 b] w fun e w' => e = .returned (.int .i64 (addW a b)) ∧ w = w' := by
  have b1 : 0 ≤ a % 65536 ∧ a % 65536 ≤ 65535 := by omega
  have b2 : 0 ≤ b % 65536 ∧ b % 65536 ≤ 65535 := by omega
  go_enter Tryd.func86, Tryd.ntmps86
  go_wp2_with (go_at_call 85; refine (rword_any _ _).mono ?_; rintro e w' ⟨rfl, rfl⟩)
  go_ret
  exact ⟨rfl, rfl⟩

set_option maxRecDepth 100000 in
set_option maxHeartbeats 400000 in
theorem rsub_any (a b : Int) (w : World) :
    Calls Tryd.prog 88 #[.int .i64 a, .int .i64 b] w fun e w' => e = .returned (.int .i64 (subW a b)) ∧ w = w' := by
  have b1 : 0 ≤ a % 65536 ∧ a % 65536 ≤ 65535 := by omega
  have b2 : 0 ≤ b % 65536 ∧ b % 65536 ≤ 65535 := by omega
  go_enter Tryd.func88, Tryd.ntmps88
  go_wp2_with (go_at_call 85; refine (rword_any _ _).mono ?_; rintro e w' ⟨rfl, rfl⟩)
  go_ret
  exact ⟨rfl, rfl⟩

end Go.Proofs.YtgdbaaoifnedbaaDoor
