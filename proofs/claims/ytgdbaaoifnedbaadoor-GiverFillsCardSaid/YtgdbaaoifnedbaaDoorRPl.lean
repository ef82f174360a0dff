/-
  Layer 13 (plot): the reference's Ring, Right, Size, Words, Base.
  Conditions: those that each theorem states.
-/
import Derived.Test.YtgdbaaoifnedbaaDoorPl5
namespace Go.Proofs.YtgdbaaoifnedbaaDoor
open Go.ChangeShapes Go.WideShapes Go.ChangeAt Go.RowKit

set_option maxRecDepth 100000 in
set_option maxHeartbeats 400000 in
theorem rring13_any (n : Int) (w : World) :
    Calls Tryd.prog 31 #[.int .i64 n] w fun e w' => e = .returned (.bool (decide (okRing n))) ∧ w = w' := by
  obtain ⟨o, ho⟩ : ∃ o, decide (okRing n) = o := ⟨_, rfl⟩
  have HO := Lib.hid ho
  rw [ho]
  clear ho
  go_enter Tryd.func31, Tryd.ntmps31
  go_wp2
  go_loop [3] (fun p => ∃ x : Int, p = .int .i64 x ∧ 2 ≤ x ∧ x ≤ 128 ∧ Hid ((okRing x ∨ x = 128) ∧ ∀ y, okRing y → y < x → n ≠ y)) (fun p => 128 - (intOf p).toNat)
  case atStart => exact ⟨2, rfl, by omega, by omega, Lib.hid ⟨Or.inl (Or.inl rfl), fun y hy hlt => by have := hy.bd; omega⟩⟩
  case round =>
    obtain ⟨x, rfl, hx1, hx2, HX⟩ := hrel
    by_cases hx : x ≤ 64
    · have t0 : decide (x ≤ 64) = true := by simpa using hx
      have hxr : okRing x := by
        rcases HX.out.1 with h | h
        · exact h
        · omega
      by_cases he : x = n
      · have t1 : (x == n) = true := beq_iff_eq.2 he
        obtain rfl : o = true := by rw [← HO.out]; exact decide_eq_true (he ▸ hxr)
        clear he hxr
        go_wp2
        go_ret
        exact ⟨rfl, rfl⟩
      · have t1 : (x == n) = false := beq_eq_false_iff_ne.2 he
        have HX2 := Lib.hid (show (okRing (2 * x) ∨ 2 * x = 128) ∧ ∀ y, okRing y → y < 2 * x → n ≠ y from by
          have hx2 := HX.out.2
          unfold okRing at hxr ⊢
          refine ⟨by omega, fun y hy hlt e => ?_⟩
          subst e
          by_cases hnx : n < x
          · exact hx2 n hy hnx rfl
          · omega)
        clear he hxr
        go_wp2
        go_round
        case rel => exact ⟨2 * x, by go_num, by omega, by omega, HX2⟩
        case measure => simp [intOf]; omega
    · have t0 : decide (x ≤ 64) = false := by simpa using hx
      obtain rfl : o = false := by
        rw [← HO.out]
        refine decide_eq_false fun h => ?_
        rcases HX.out.1 with h2 | h2
        · have := h2.bd; omega
        · exact HX.out.2 n h (by have := h.bd; omega) rfl
      go_wp2
      go_ret
      exact ⟨rfl, rfl⟩

theorem rank_step {c : Int} {a b : Nat} : rankP c a ((b + 1 : Nat) : Int) = if a = b then rankP c a b else rankP c a b + 1 := by
  unfold rankP
  by_cases h : a = b
  · subst h
    rw [if_pos rfl, if_pos (by omega), if_neg (by omega)]
    omega
  · rw [if_neg h]
    by_cases k : a < b
    · rw [if_pos (by omega), if_pos (by omega)]; omega
    · rw [if_neg (by omega), if_neg (by omega)]; omega

theorem rank_turn {c : Int} {a : Nat} {b : Nat} (hb : (b : Int) = c) (ha : (a : Int) < c) : rankP c a b = rankP c ((a + 1 : Nat) : Int) 0 := by
  unfold rankP
  rw [if_pos (by omega), if_neg (by omega), hb]
  have : (((a + 1 : Nat) : Int)) * (c - 1) = (a : Int) * (c - 1) + (c - 1) := by
    rw [show (((a + 1 : Nat)) : Int) = (a : Int) + 1 from by omega, Int.add_mul, Int.one_mul]
  omega

theorem rank_le {c : Int} {a b : Nat} (hc : 2 ≤ c ∧ c ≤ 8) (ha : (a : Int) < c) (hb : (b : Int) ≤ c) : 0 ≤ rankP c a b ∧ rankP c a b ≤ 56 := by
  unfold rankP
  rcases cores_of hc with rfl | rfl | rfl | rfl | rfl | rfl | rfl <;> split <;> omega

#print axioms rring13_any
end Go.Proofs.YtgdbaaoifnedbaaDoor
