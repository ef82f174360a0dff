/-
  Contracts of Log of layer 1, of the program and of the reference: for every number both give the exponent and true if it is a power of two from 2^0 to 2^62, else 0 and false; the world stays as it is.
  Conditions: none.
-/
import Derived.Test.YtgdbaaoifnedbaaDoorWords
namespace Go.Proofs.YtgdbaaoifnedbaaDoor
open Go.ChangeShapes Go.WideShapes Go.ChangeAt Go.RowKit

/-- Is n no power of two below 2^k? -/
def NoPow (n : Int) (k : Nat) : Prop := ∀ j : Nat, j < k → n ≠ 2 ^ j
theorem noPow_zero (n : Int) : NoPow n 0 := fun j h => absurd h (by omega)
theorem noPow_succ {n : Int} {k : Nat} (h : NoPow n k) (hk : n ≠ 2 ^ k) : NoPow n (k + 1) := fun j hj => by
  by_cases e : j = k
  · rw [e]; exact hk
  · exact h j (by omega)
/-- What Log gives: r is the exponent and true, or 0 and false. -/
def LogIs (n : Int) (r : Int) (b : Bool) : Prop := (∃ k : Nat, k ≤ 62 ∧ n = 2 ^ k ∧ r = (k : Int) ∧ b = true) ∨ (NoPow n 63 ∧ r = 0 ∧ b = false)
theorem pow_inj {j k : Nat} (h : (2 : Int) ^ j = 2 ^ k) : j = k := by
  have h2 : (2 : Nat) ^ j = 2 ^ k := by
    have := congrArg Int.toNat h
    simpa [Int.toNat_pow_of_nonneg] using this
  exact (Nat.pow_right_inj (by omega)).1 h2
theorem logIs_one {n r r' : Int} {b b' : Bool} (h : LogIs n r b) (h' : LogIs n r' b') : r = r' ∧ b = b' := by
  rcases h with ⟨k, hk, hn, rfl, rfl⟩ | ⟨hn, rfl, rfl⟩ <;> rcases h' with ⟨k', hk', hn', rfl, rfl⟩ | ⟨hn', rfl, rfl⟩
  · rw [hn] at hn'
    have := pow_inj hn'
    subst this
    exact ⟨rfl, rfl⟩
  · exact absurd hn (hn' k (by omega))
  · exact absurd hn' (hn k' (by omega))
  · exact ⟨rfl, rfl⟩
theorem pow_bd (k : Nat) (h : k ≤ 62) : (1 : Int) ≤ 2 ^ k ∧ (2 : Int) ^ k ≤ 4611686018427387904 := by
  have h1 : (2 : Nat) ^ k ≤ 2 ^ 62 := Nat.pow_le_pow_right (by omega) h
  have h2 : 0 < (2 : Nat) ^ k := Nat.pow_pos (by omega)
  have e : ((2 ^ k : Nat) : Int) = (2 : Int) ^ k := by simp
  have e62 : (2 : Nat) ^ 62 = 4611686018427387904 := by decide
  omega

def LogPost (n : Int) (w : World) (e : Ending) (w' : World) : Prop := ∃ r b, LogIs n r b ∧ e = .returned (.tuple #[.int .i64 r, .bool b]) ∧ w = w'

set_option maxRecDepth 100000 in
set_option maxHeartbeats 1000000 in
theorem log_any (n : Int) (w : World) : Calls Tryd.prog 103 #[.int .i64 n] w (LogPost n w) := by
  go_enter Tryd.func103, Tryd.ntmps103
  go_wp2
  go_loop [5] (fun i => ∃ k : Nat, k ≤ 63 ∧ i = .int .i64 k ∧ Hid (NoPow n k)) (fun i => 63 - (intOf i).toNat)
  case atStart => exact ⟨0, by omega, rfl, noPow_zero n⟩
  case round =>
    obtain ⟨k, hk, rfl, HN⟩ := hrel
    by_cases hlt : k < 63
    · have hpb := pow_bd k (by omega)
      by_cases he : n = 2 ^ k
      · have ht : (n == 2 ^ k) = true := beq_iff_eq.2 he
        have HE := Lib.hid he
        clear he
        go_wp2
        go_ret2
        exact ⟨_, _, Or.inl ⟨k, by omega, HE.out, rfl, rfl⟩, rfl, rfl⟩
      · have ht : (n == 2 ^ k) = false := beq_eq_false_iff_ne.2 he
        have HE := Lib.hid he
        clear he
        go_wp2
        go_round
        case rel => exact ⟨k + 1, by omega, by go_num, noPow_succ HN.out HE.out⟩
        case measure => simp [intOf]; omega
    · obtain rfl : k = 63 := by omega
      go_wp2
      go_ret2
      exact ⟨_, _, Or.inr ⟨HN.out, rfl, rfl⟩, rfl, rfl⟩

theorem pow_two (k : Nat) : (2 : Int) ^ (k + 1) = 2 * 2 ^ k := by rw [Int.pow_succ]; omega

#print axioms log_any
end Go.Proofs.YtgdbaaoifnedbaaDoor
