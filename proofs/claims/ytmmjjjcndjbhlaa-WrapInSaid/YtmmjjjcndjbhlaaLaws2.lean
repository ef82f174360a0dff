/-
  The walks of the laws WrapBack and WrapIn of layer 1: they return true for every input, and nothing that was there before the call changes.
  Conditions: none.
-/
import Derived.Test.YtmmjjjcndjbhlaaLaws
namespace Go.Proofs.Ytmmjjjcndjbhlaa
open Go.ChangeShapes Go.WideShapes Go.ChangeAt Go.RowKit

set_option maxHeartbeats 4000000 in
set_option maxRecDepth 100000 in
theorem back_any (a b : Int) (s : ByteArray) (w : World) :
    Calls Try.prog 6 #[.int .i64 a, .int .i64 b, .string s] w fun e w' => e = .returned (.bool true) ∧ Below w.heap.size w w' := by
  by_cases hl : s.size > 200
  · have hg : decide ((200 : Int) < (s.size : Int)) = true := by simp; omega
    go_enter Try.func6, Try.ntmps6
    go_wp2_with (go_at_call 16; refine (alive_any _).mono ?_; rintro e w1 ⟨rfl, hb⟩)
    go_ret
    exact ⟨rfl, hb⟩
  · have hg : decide ((200 : Int) < (s.size : Int)) = false := by simp; omega
    clear hl
    obtain ⟨m, hm0, hm1, hm⟩ : ∃ m : Int, 0 ≤ m ∧ m ≤ 65535 ∧ a % 65536 = m := ⟨_, by omega, by omega, rfl⟩
    obtain ⟨m', hm0', hm1', hm'⟩ : ∃ m : Int, 0 ≤ m ∧ m ≤ 65535 ∧ b % 65536 = m := ⟨_, by omega, by omega, rfl⟩
    have HM := Lib.hid hm; clear hm
    have HM' := Lib.hid hm'; clear hm'
    have HA := Lib.hid (show readS ⟨(hexL m).toArray⟩ = (m, true) from read_hex m hm0 hm1)
    have had := aheadW_bd a b
    obtain ⟨d, hd⟩ : ∃ d, aheadW a b = d := ⟨_, rfl⟩
    rw [hd] at had
    have HD := Lib.hid hd; clear hd
    have hne : ∀ x : Int, (x != x) = false := fun x => by simp
    go_enter Try.func6, Try.ntmps6
    go_wp2_with fail
    refine (word_any _ _).mono ?_
    rintro e w1 ⟨rfl, rfl⟩
    rw [HM.out]
    go_wp2_with fail
    refine (add_any _ _ _).mono ?_
    rintro e w1 ⟨rfl, rfl⟩
    go_wp2_with fail
    refine (sub_any _ _ _).mono ?_
    rintro e w1 ⟨rfl, rfl⟩
    rw [sub_add, HM.out]
    go_wp2_with fail
    refine (sub_any _ _ _).mono ?_
    rintro e w1 ⟨rfl, rfl⟩
    go_wp2_with fail
    refine (add_any _ _ _).mono ?_
    rintro e w1 ⟨rfl, rfl⟩
    rw [add_sub, HM.out]
    go_wp2_with fail
    refine (ahead_any _ _ _).mono ?_
    rintro e w1 ⟨rfl, rfl⟩
    go_wp2_with fail
    refine (add_any _ _ _).mono ?_
    rintro e w1 ⟨rfl, rfl⟩
    rw [add_ahead, HM'.out]
    go_wp2_with fail
    refine (word_any _ _).mono ?_
    rintro e w1 ⟨rfl, rfl⟩
    rw [HM'.out]
    go_wp2_with fail
    refine (ahead_any _ _ _).mono ?_
    rintro e w1 ⟨rfl, rfl⟩
    rw [HD.out]
    go_wp2_with fail
    refine (hex_any _ _).mono ?_
    rintro e w1 ⟨rfl, hb1⟩
    rw [HM.out]
    go_wp2_with fail
    refine (read_any _ _).mono ?_
    rintro e w2 ⟨rfl, hb2⟩
    rw [HA.out]
    go_wp2_with fail
    refine (read_any _ _).mono ?_
    rintro e w3 ⟨rfl, hb3⟩
    by_cases hr : (readS s).2 = true
    · have HX := Lib.hid (hex_read s hr)
      rw [hr]
      obtain ⟨v, hv⟩ : ∃ v, (readS s).1 = v := ⟨_, rfl⟩
      rw [hv]
      rw [hv] at HX
      clear hv hr
      go_wp2_with fail
      refine (hex_any _ _).mono ?_
      rintro e w4 ⟨rfl, hb4⟩
      rw [HX.out]
      have hss : (s.toList == s.toList) = true := by simp
      go_wp2_with fail
      refine (alive_any _).mono ?_
      rintro e w5 ⟨rfl, hb5⟩
      go_wp2
      go_ret
      exact ⟨rfl, below_tr (below_tr (below_tr (below_tr hb1 hb2) hb3) hb4) hb5⟩
    · rw [Bool.eq_false_iff.2 hr]
      clear hr
      go_wp2_with fail
      refine (alive_any _).mono ?_
      rintro e w5 ⟨rfl, hb5⟩
      go_wp2
      go_ret
      exact ⟨rfl, below_tr (below_tr (below_tr hb1 hb2) hb3) hb5⟩

def inB (f x k : Int) : Bool := decide (subW x f < k)
theorem inB_zero (f x : Int) (k : Int) (h : k ≤ 0) : inB f x k = false := by have := subW_bd x f; unfold inB; simp; omega
theorem inB_succ (f x k : Int) (h0 : 0 ≤ k) (h1 : k ≤ 300) (h : inB f x k = false) : (addW f k == x % 65536) = inB f x (k + 1) := by
  have hb := subW_bd x f
  have h' : k ≤ subW x f := by simpa [inB] using h
  unfold inB
  rw [Bool.eq_iff_iff]
  simp only [beq_iff_eq, decide_eq_true_eq]
  unfold addW
  unfold subW at *
  omega
theorem inB_up (f x k : Int) (h : inB f x k = true) : inB f x (k + 1) = true := by
  have h' : subW x f < k := by simpa [inB] using h
  unfold inB
  simp
  omega

set_option maxHeartbeats 1000000 in
theorem in_law_any (f n x : Int) (w : World) :
    Calls Try.prog 7 #[.int .i64 f, .int .i64 n, .int .i64 x] w fun e w' => e = .returned (.bool true) ∧ Below w.heap.size w w' := by
  by_cases hl : 300 < n
  · have hg : decide ((300 : Int) < n) = true := by simp; omega
    go_enter Try.func7, Try.ntmps7
    go_wp2_with (go_at_call 16; refine (alive_any _).mono ?_; rintro e w1 ⟨rfl, hb⟩)
    go_ret
    exact ⟨rfl, hb⟩
  · have hg : decide ((300 : Int) < n) = false := by simp; omega
    go_enter Try.func7, Try.ntmps7
    go_wp2
    go_loop [7, 8] (fun b i => ∃ k : Nat, (k = 0 ∨ (k : Int) ≤ n) ∧ k ≤ 300 ∧ i = .int .i64 k ∧ b = .bool (inB f x k)) (fun _ i => 300 - (intOf i).toNat)
    case atStart => exact ⟨0, Or.inl rfl, by omega, rfl, by rw [inB_zero f x _ (by omega)]⟩
    case round =>
      obtain ⟨k, hk0, hk, rfl, rfl⟩ := hrel
      by_cases hlt : (k : Int) < n
      · by_cases hin : inB f x k = true
        · have HU := Lib.hid (inB_up f x k hin)
          rw [hin]
          clear hin
          go_wp2
          go_round
          case rel => exact ⟨k + 1, Or.inr (by omega), by omega, by go_num, by have := HU.out; rw [show ((k + 1 : Nat) : Int) = (k : Int) + 1 by omega, this]⟩
          case measure => simp [intOf]; omega
        · have HU := Lib.hid (inB_succ f x k (by omega) (by omega) (Bool.eq_false_iff.2 hin))
          rw [Bool.eq_false_iff.2 hin]
          clear hin
          go_wp2_with (first
            | (go_at_call 10; refine (add_any _ _ _).mono ?_; rintro e w' ⟨rfl, rfl⟩)
            | (go_at_call 8; refine (word_any _ _).mono ?_; rintro e w' ⟨rfl, rfl⟩))
          go_round
          case rel => exact ⟨k + 1, Or.inr (by omega), by omega, by go_num, by have := HU.out; rw [show ((k + 1 : Nat) : Int) = (k : Int) + 1 by omega, this]⟩
          case measure => simp [intOf]; omega
      · have hfin : inB f x k = inB f x n := by
          rcases hk0 with rfl | h
          · rw [inB_zero f x _ (by omega), inB_zero f x n (by omega)]
          · rw [show (k : Int) = n by omega]
        rw [hfin]
        clear hfin
        have hdec : ∀ b : Bool, (b == b) = true := fun b => by simp
        go_wp2_with (first
          | (go_at_call 19; refine (in_any _ _ _ _).mono ?_; rintro e w' ⟨rfl, rfl⟩; rw [show decide (subW x f < n) = inB f x n from rfl])
          | (go_at_call 16; refine (alive_any _).mono ?_; rintro e w1 ⟨rfl, hb⟩))
        go_ret
        exact ⟨rfl, hb⟩

#print axioms back_any
#print axioms in_law_any
end Go.Proofs.Ytmmjjjcndjbhlaa
