/-
  Layer 6 (bus): BusOrder at whatever arguments.
  Conditions: those that each theorem states.
-/
import Derived.Test.YtgoogclcpnfmkaaBus22
namespace Go.Proofs.Ytgoogclcpnfmkaa
open Go.ChangeShapes Go.WideShapes Go.ChangeAt Go.RowKit

set_option maxRecDepth 100000 in
set_option maxHeartbeats 1000000 in
theorem busOrder_any (c n b : Int) (v : Value) (R : List (List Int)) (w : World) (hR : Recs w 4 v R) :
    Calls Try.prog 5 #[.int .i64 c, .int .i64 n, .int .i64 b, v] w fun e w' => e = .returned (.bool true) ∧ Below w.heap.size w w' := by
  by_cases h : 1 ≤ c ∧ c ≤ 8 ∧ 1 ≤ n ∧ n ≤ 65536 ∧ 1 ≤ b ∧ b ≤ 16
  · obtain ⟨h1, h2, h3, h4, h5, h6⟩ := h
    obtain ⟨C, rfl⟩ := Int.eq_ofNat_of_zero_le (show 0 ≤ c by omega)
    obtain ⟨m, rfl⟩ := Int.eq_ofNat_of_zero_le (show 0 ≤ n by omega)
    obtain ⟨N, rfl⟩ := Int.eq_ofNat_of_zero_le (show 0 ≤ b by omega)
    by_cases hf : R.length ≤ 80 ∧ m ≤ 200
    · exact busOrder_main C m N v R w (by omega) (by omega) (by omega) hf.2 (by omega) (by omega) hR hf.1
    · obtain ⟨A, cc, rfl, hA⟩ := hR
      clear hA
      have NW := Lib.hid (fun W => new6_yes C m N W (by omega) (by omega) (by omega) (by omega) (by omega) (by omega))
      have fw := few6_any (m : Int) A R.length cc
      have hfew : (decide ((R.length : Int) ≤ 80) && decide ((m : Int) ≤ 200)) = false := by
        rw [Bool.and_eq_false_iff]
        simp only [decide_eq_false_iff_not]
        omega
      rw [hfew] at fw
      have FW := Lib.hid fw
      clear fw hfew
      unfold ptr at NW
      go_enter Try.func5, Try.ntmps5
      go_wp2_with fail
      refine (NW.out _).mono ?_
      rintro e w1 ⟨L, rfl, hr1, hn1', hb1⟩
      go_wp2_with fail
      refine (FW.out w1).mono ?_
      rintro e w' ⟨rfl, rfl⟩
      go_wp2_with fail
      refine (alive6 _).mono ?_
      rintro e w6 ⟨rfl, hb6⟩
      go_wp2
      go_ret
      exact ⟨rfl, below_on hb1 hb6⟩
  · have NW := Lib.hid (fun W => new6_no c n b W h)
    clear h
    go_enter Try.func5, Try.ntmps5
    go_wp2_with fail
    refine (NW.out _).mono ?_
    rintro e w1 ⟨rfl, hb1⟩
    go_wp2_with fail
    refine (alive6 _).mono ?_
    rintro e w6 ⟨rfl, hb6⟩
    go_wp2
    go_ret
    exact ⟨rfl, below_on hb1 hb6⟩

#print axioms busOrder_any
end Go.Proofs.Ytgoogclcpnfmkaa
