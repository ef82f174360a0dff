/-
  Texts merged, with what one theorem needs of them.
  Conditions: those that each theorem states.
-/
import Derived.Test.YtiofipofbeodpaaGreatDoorRows
import Derived.Test.YtiofipofbeodpaaGreatDoorZ1
import Derived.Test.YtiofipofbeodpaaGreatDoorZ2
import Derived.Test.YtiofipofbeodpaaGreatDoorZ3
import Derived.Below
import Derived.BigQuiet
import Derived.Deep.AppendLies
import Derived.Deep.Draws
import Derived.Deep.OwnRows
import Derived.Deep.QuietTactic
import Derived.Handy
import Derived.IntWalk
import Derived.Laws.BitsLemmas
import Derived.Laws.CopyOwn
import Derived.Laws.OwnMore
import Derived.Laws.Rows
import Derived.Lib.Hide
import Derived.Maps.AppendAt
import Derived.OpenShut
import Derived.ProofKit
import Derived.WalkKit
namespace Go.Proofs.YtiofipofbeodpaaGreatDoor

section
open Go.ChangeShapes Go.WideShapes Go.ChangeAt Go.RowKit
/-- A ring of so many slots is possible. -/
def okRing (r : Int) : Prop := r = 2 ∨ r = 4 ∨ r = 8 ∨ r = 16 ∨ r = 32 ∨ r = 64
/-- A configuration is valid. -/
def okConf (c r b : Int) : Prop := 2 ≤ c ∧ c ≤ 8 ∧ okRing r ∧ 1 ≤ b ∧ b ≤ 16
instance (r : Int) : Decidable (okRing r) := by unfold okRing; infer_instance
instance (c r b : Int) : Decidable (okConf c r b) := by unfold okConf; infer_instance
theorem okRing.bd {r : Int} (h : okRing r) : 2 ≤ r ∧ r ≤ 64 := by unfold okRing at h; omega
/-- The number of words of a channel. -/
def sizeP (r : Int) : Int := if okRing r then 4 + 11 * r else 0
/-- There is a channel from f to t. -/
def okPair (c f t : Int) : Prop := 0 ≤ f ∧ f < c ∧ 0 ≤ t ∧ t < c ∧ f ≠ t
instance (c f t : Int) : Decidable (okPair c f t) := by unfold okPair; infer_instance
set_option maxRecDepth 100000 in
set_option maxHeartbeats 400000 in
theorem below13_any (n c : Int) (w : World) :
    Calls Tryz.prog 89 #[.int .i64 n, .int .i64 c] w fun e w' => e = .returned (.bool (decide (0 ≤ n ∧ n < c))) ∧ w = w' := by
  by_cases h0 : 0 ≤ n
  · by_cases h1 : n < c
    · have t0 : decide (0 ≤ n) = true := by simpa using h0
      have t1 : decide (n < c) = true := by simpa using h1
      rw [decide_eq_true (⟨h0, h1⟩ : 0 ≤ n ∧ n < c)]
      go_enter Tryz.func89, Tryz.ntmps89
      go_wp2
      go_ret
      exact ⟨rfl, rfl⟩
    · have t0 : decide (0 ≤ n) = true := by simpa using h0
      have t1 : decide (n < c) = false := by simpa using h1
      rw [decide_eq_false (show ¬ (0 ≤ n ∧ n < c) from fun h => h1 h.2)]
      go_enter Tryz.func89, Tryz.ntmps89
      go_wp2
      go_ret
      exact ⟨rfl, rfl⟩
  · have t0 : decide (0 ≤ n) = false := by simpa using h0
    rw [decide_eq_false (show ¬ (0 ≤ n ∧ n < c) from fun h => h0 h.1)]
    go_enter Tryz.func89, Tryz.ntmps89
    go_wp2
    go_ret
    exact ⟨rfl, rfl⟩
set_option maxRecDepth 100000 in
set_option maxHeartbeats 400000 in
theorem within13_any (n l m : Int) (w : World) :
    Calls Tryz.prog 55 #[.int .i64 n, .int .i64 l, .int .i64 m] w fun e w' => e = .returned (.bool (decide (l ≤ n ∧ n ≤ m))) ∧ w = w' := by
  by_cases h0 : l ≤ n
  · by_cases h1 : n ≤ m
    · have t0 : decide (l ≤ n) = true := by simpa using h0
      have t1 : decide (n ≤ m) = true := by simpa using h1
      rw [decide_eq_true (⟨h0, h1⟩ : l ≤ n ∧ n ≤ m)]
      go_enter Tryz.func55, Tryz.ntmps55
      go_wp2
      go_ret
      exact ⟨rfl, rfl⟩
    · have t0 : decide (l ≤ n) = true := by simpa using h0
      have t1 : decide (n ≤ m) = false := by simpa using h1
      rw [decide_eq_false (show ¬ (l ≤ n ∧ n ≤ m) from fun h => h1 h.2)]
      go_enter Tryz.func55, Tryz.ntmps55
      go_wp2
      go_ret
      exact ⟨rfl, rfl⟩
  · have t0 : decide (l ≤ n) = false := by simpa using h0
    rw [decide_eq_false (show ¬ (l ≤ n ∧ n ≤ m) from fun h => h0 h.1)]
    go_enter Tryz.func55, Tryz.ntmps55
    go_wp2
    go_ret
    exact ⟨rfl, rfl⟩
theorem okRing_of_log {n r : Int} {b : Bool} (h : LogIs n r b) : (b = true ∧ 2 ≤ n ∧ n ≤ 64) ↔ okRing n := by
  constructor
  · rintro ⟨rfl, h2, h3⟩
    rcases h with ⟨k, hk, hn, -, -⟩ | ⟨-, -, hb⟩
    · have hk6 : k ≤ 6 := by
        refine Nat.le_of_not_lt fun hlt => ?_
        have h7 : (2 : Nat) ^ 7 ≤ 2 ^ k := Nat.pow_le_pow_right (by omega) hlt
        have e : ((2 ^ k : Nat) : Int) = (2 : Int) ^ k := by simp
        have e7 : (2 : Nat) ^ 7 = 128 := by decide
        omega
      unfold okRing
      have : k = 0 ∨ k = 1 ∨ k = 2 ∨ k = 3 ∨ k = 4 ∨ k = 5 ∨ k = 6 := by omega
      rcases this with rfl | rfl | rfl | rfl | rfl | rfl | rfl <;> (simp at hn; omega)
    · cases hb
  · intro ho
    have hbd := ho.bd
    refine ⟨?_, hbd.1, hbd.2⟩
    rcases h with ⟨-, -, -, -, hb⟩ | ⟨hn, -, -⟩
    · exact hb
    · exfalso
      unfold okRing at ho
      rcases ho with rfl | rfl | rfl | rfl | rfl | rfl
      · exact hn 1 (by omega) (by decide)
      · exact hn 2 (by omega) (by decide)
      · exact hn 3 (by omega) (by decide)
      · exact hn 4 (by omega) (by decide)
      · exact hn 5 (by omega) (by decide)
      · exact hn 6 (by omega) (by decide)
set_option maxRecDepth 100000 in
set_option maxHeartbeats 400000 in
theorem rightRing13_any (n : Int) (w : World) :
    Calls Tryz.prog 30 #[.int .i64 n] w fun e w' => e = .returned (.bool (decide (okRing n))) ∧ w = w' := by
  have HL := Lib.hid (fun (r : Int) (b : Bool) (h : LogIs n r b) => okRing_of_log h)
  obtain ⟨o, ho⟩ : ∃ o, decide (okRing n) = o := ⟨_, rfl⟩
  have HO := Lib.hid ho
  rw [ho]
  clear ho
  go_enter Tryz.func30, Tryz.ntmps30
  go_wp2_with fail
  refine (log_any n _).mono ?_
  rintro e w' ⟨r, b, hl, rfl, rfl⟩
  have H := Lib.hid (HL.out _ _ hl)
  clear hl HL
  cases b
  · obtain rfl : o = false := by
      rw [← HO.out]
      exact decide_eq_false fun h => by have := H.out.2 h; exact absurd this.1 (by decide)
    go_wp2
    go_ret
    exact ⟨rfl, rfl⟩
  · have HD : decide (2 ≤ n ∧ n ≤ 64) = o := by
      rw [← HO.out]
      by_cases h : okRing n
      · rw [decide_eq_true h, decide_eq_true (H.out.2 h).2]
      · rw [decide_eq_false h, decide_eq_false fun hh => h (H.out.1 ⟨rfl, hh⟩)]
    have HD2 := Lib.hid HD
    clear HD
    go_wp2_with fail
    refine (within13_any _ _ _ _).mono ?_
    rintro e w' ⟨rfl, rfl⟩
    rw [HD2.out]
    go_wp2
    go_ret
    exact ⟨rfl, rfl⟩
set_option maxRecDepth 100000 in
set_option maxHeartbeats 400000 in
theorem size13_any (r : Int) (w : World) :
    Calls Tryz.prog 10 #[.int .i64 r] w fun e w' => e = .returned (.int .i64 (sizeP r)) ∧ w = w' := by
  by_cases h : okRing r
  · have W0 := Lib.hid (decide_eq_true h)
    have hbd := h.bd
    have e0 : sizeP r = 4 + 11 * r := if_pos h
    rw [e0]
    clear h e0
    go_enter Tryz.func10, Tryz.ntmps10
    go_wp2_with fail
    refine (rightRing13_any _ _).mono ?_
    rintro e w' ⟨rfl, rfl⟩
    rw [W0.out]
    go_wp2
    go_ret
    exact ⟨rfl, rfl⟩
  · have W0 := Lib.hid (decide_eq_false h)
    have e0 : sizeP r = 0 := if_neg h
    rw [e0]
    clear h e0
    go_enter Tryz.func10, Tryz.ntmps10
    go_wp2_with fail
    refine (rightRing13_any _ _).mono ?_
    rintro e w' ⟨rfl, rfl⟩
    rw [W0.out]
    go_wp2
    go_ret
    exact ⟨rfl, rfl⟩
end

end Go.Proofs.YtiofipofbeodpaaGreatDoor
