/-
  Texts merged, with what one theorem needs of them.
  Conditions: those that each theorem states.
-/
import Derived.Test.YtiofipofbeodpaaGreatDoorRows
import Derived.Handy
import Derived.Laws.BitsLemmas
import Derived.Lib.Hide
import Derived.OpenShut
import Derived.ProofKit
import Derived.WalkKit
namespace Go.Proofs.YtiofipofbeodpaaGreatDoor

section
open Go.ChangeShapes Go.WideShapes Go.ChangeAt Go.RowKit
theorem and_mask16 (n : Int) : bits .and .i64 n 65535 = n % 65536 := by
  have hm : (BitVec.ofInt 64 65535).toNat = 2 ^ 16 - 1 := by decide
  have key : (BitVec.ofInt 64 n &&& BitVec.ofInt 64 65535).toNat = (n % ((2 ^ 64 : Nat) : Int)).toNat % 2 ^ 16 := by
    rw [BitVec.toNat_and, BitVec.toNat_ofInt, hm, Nat.and_two_pow_sub_one_eq_mod]
  show IntKind.i64.wrap ((BitVec.ofInt 64 n &&& BitVec.ofInt 64 65535).toNat : Nat) = n % 65536
  rw [key, IntKind.wrap_i64]
  omega
theorem ret_int {k : IntKind} {a b : Int} (h : a = b) : Ending.returned (.int k a) = .returned (.int k b) := by rw [h]
set_option maxRecDepth 100000 in
set_option maxHeartbeats 400000 in
theorem word_any (n : Int) (w : World) :
    Calls Tryz.prog 68 #[.int .i64 n] w fun e w' => e = .returned (.int .i64 (n % 65536)) ∧ w = w' := by
  go_enter Tryz.func68, Tryz.ntmps68
  go_wp2
  go_ret
  exact ⟨ret_int (and_mask16 n), rfl⟩
set_option maxRecDepth 100000 in
set_option maxHeartbeats 400000 in
theorem rword_any (n : Int) (w : World) :
    Calls Tryz.prog 60 #[.int .i64 n] w fun e w' => e = .returned (.int .i64 (n % 65536)) ∧ w = w' := by
  have b1 := Int.tmod_lt_of_pos n (show (0 : Int) < 65536 by omega)
  have b2 : -65536 < n.tmod 65536 := by have := Int.tmod_lt_of_pos (-n) (show (0 : Int) < 65536 by omega); rw [Int.neg_tmod] at this; omega
  by_cases h : n.tmod 65536 < 0
  all_goals
    go_enter Tryz.func60, Tryz.ntmps60
    go_wp2
    go_ret
    refine ⟨ret_int ?_, rfl⟩
    have hd := Int.mul_tdiv_add_tmod n 65536
    omega
def addW (a b : Int) : Int := (a + b) % 65536
def subW (a b : Int) : Int := (a - b) % 65536
theorem addW_bd (a b : Int) : 0 ≤ addW a b ∧ addW a b ≤ 65535 := by unfold addW; omega
set_option maxRecDepth 100000 in
set_option maxHeartbeats 400000 in
theorem add_any (a b : Int) (w : World) :
    Calls Tryz.prog 79 #[.int .i64 a, .int .i64 b] w fun e w' => e = .returned (.int .i64 (addW a b)) ∧ w = w' := by
  have b1 : 0 ≤ a % 65536 ∧ a % 65536 ≤ 65535 := by omega
  have b2 : 0 ≤ b % 65536 ∧ b % 65536 ≤ 65535 := by omega
  go_enter Tryz.func79, Tryz.ntmps79
  go_wp2_with (go_at_call 68; refine (word_any _ _).mono ?_; rintro e w' ⟨rfl, rfl⟩)
  go_ret
  exact ⟨rfl, rfl⟩
set_option maxRecDepth 100000 in
set_option maxHeartbeats 400000 in
theorem sub_any (a b : Int) (w : World) :
    Calls Tryz.prog 74 #[.int .i64 a, .int .i64 b] w fun e w' => e = .returned (.int .i64 (subW a b)) ∧ w = w' := by
  have b1 : 0 ≤ a % 65536 ∧ a % 65536 ≤ 65535 := by omega
  have b2 : 0 ≤ b % 65536 ∧ b % 65536 ≤ 65535 := by omega
  go_enter Tryz.func74, Tryz.ntmps74
  go_wp2_with (go_at_call 68; refine (word_any _ _).mono ?_; rintro e w' ⟨rfl, rfl⟩)
  go_ret
  exact ⟨rfl, rfl⟩
set_option maxRecDepth 100000 in
set_option maxHeartbeats 400000 in
theorem radd_any (a b : Int) (w : World) :
    Calls Tryz.prog 62 #[.int .i64 a, .int .i64 b] w fun e w' => e = .returned (.int .i64 (addW a b)) ∧ w = w' := by
  have b1 : 0 ≤ a % 65536 ∧ a % 65536 ≤ 65535 := by omega
  have b2 : 0 ≤ b % 65536 ∧ b % 65536 ≤ 65535 := by omega
  go_enter Tryz.func62, Tryz.ntmps62
  go_wp2_with (go_at_call 60; refine (rword_any _ _).mono ?_; rintro e w' ⟨rfl, rfl⟩)
  go_ret
  exact ⟨rfl, rfl⟩
set_option maxRecDepth 100000 in
set_option maxHeartbeats 400000 in
theorem rsub_any (a b : Int) (w : World) :
    Calls Tryz.prog 82 #[.int .i64 a, .int .i64 b] w fun e w' => e = .returned (.int .i64 (subW a b)) ∧ w = w' := by
  have b1 : 0 ≤ a % 65536 ∧ a % 65536 ≤ 65535 := by omega
  have b2 : 0 ≤ b % 65536 ∧ b % 65536 ≤ 65535 := by omega
  go_enter Tryz.func82, Tryz.ntmps82
  go_wp2_with (go_at_call 60; refine (rword_any _ _).mono ?_; rintro e w' ⟨rfl, rfl⟩)
  go_ret
  exact ⟨rfl, rfl⟩
end

section
open Go.ChangeShapes Go.WideShapes Go.ChangeAt Go.RowKit
/-- Is n no power of two below 2^k? -/
def NoPow (n : Int) (k : Nat) : Prop := ∀ j : Nat, j < k → n ≠ 2 ^ j
theorem noPow_zero (n : Int) : NoPow n 0 := fun j h => absurd h (by omega)
theorem noPow_succ {n : Int} {k : Nat} (h : NoPow n k) (hk : n ≠ 2 ^ k) : NoPow n (k + 1) := fun j hj => by
  by_cases e : j = k
  · rw [e]; exact hk
  · exact h j (by omega)
/-- What Log gives: r is the exponent and true, or 0 and false. -/
def LogIs (n : Int) (r : Int) (b : Bool) : Prop := (∃ k : Nat, k ≤ 62 ∧ n = 2 ^ k ∧ r = (k : Int) ∧ b = true) ∨ (NoPow n 63 ∧ r = 0 ∧ b = false)
theorem pow_bd (k : Nat) (h : k ≤ 62) : (1 : Int) ≤ 2 ^ k ∧ (2 : Int) ^ k ≤ 4611686018427387904 := by
  have h1 : (2 : Nat) ^ k ≤ 2 ^ 62 := Nat.pow_le_pow_right (by omega) h
  have h2 : 0 < (2 : Nat) ^ k := Nat.pow_pos (by omega)
  have e : ((2 ^ k : Nat) : Int) = (2 : Int) ^ k := by simp
  have e62 : (2 : Nat) ^ 62 = 4611686018427387904 := by decide
  omega
def LogPost (n : Int) (w : World) (e : Ending) (w' : World) : Prop := ∃ r b, LogIs n r b ∧ e = .returned (.tuple #[.int .i64 r, .bool b]) ∧ w = w'
set_option maxRecDepth 100000 in
set_option maxHeartbeats 1000000 in
theorem log_any (n : Int) (w : World) : Calls Tryz.prog 54 #[.int .i64 n] w (LogPost n w) := by
  go_enter Tryz.func54, Tryz.ntmps54
  go_wp2
  go_loop [5] (fun i => ∃ k : Nat, k ≤ 63 ∧ i = .int .i64 k ∧ Hid (NoPow n k)) (fun i => 63 - (intOf i).toNat)
  case atStart => exact ⟨0, by omega, rfl, noPow_zero n⟩
  case round =>
    obtain ⟨k, hk, rfl, HN⟩ := hrel
    by_cases hlt : k < 63
    · have hpb := pow_bd k (by omega)
      by_cases he : n = 2 ^ k
      · have ht : (n == 2 ^ k) = true := beq_iff_eq.2 he
        have HE := Lib.hid he
        clear he
        go_wp2
        go_ret2
        exact ⟨_, _, Or.inl ⟨k, by omega, HE.out, rfl, rfl⟩, rfl, rfl⟩
      · have ht : (n == 2 ^ k) = false := beq_eq_false_iff_ne.2 he
        have HE := Lib.hid he
        clear he
        go_wp2
        go_round
        case rel => exact ⟨k + 1, by omega, by go_num, noPow_succ HN.out HE.out⟩
        case measure => simp [intOf]; omega
    · obtain rfl : k = 63 := by omega
      go_wp2
      go_ret2
      exact ⟨_, _, Or.inr ⟨HN.out, rfl, rfl⟩, rfl, rfl⟩
end

end Go.Proofs.YtiofipofbeodpaaGreatDoor
