/-
  LocksOne for every input: where there is no bank, too many calls, or no such lock, alive answers.
  Conditions: none.
-/
import Derived.Test.YtdpoigeeechchaaLk7
namespace Go.Proofs.Ytdpoigeeechchaa
open Go.ChangeShapes Go.WideShapes Go.ChangeAt Go.RowKit

set_option maxRecDepth 100000 in
set_option maxHeartbeats 2000000 in
theorem locksOne_any (c n : Int) (v : Value) (R : List (List Int)) (i : Int) (w : World) (hR : Recs w 3 v R) (hm : R.length ≤ maxLen) :
    Calls Try.prog 4 #[.int .i64 c, .int .i64 n, v, .int .i64 i] w fun e w' => e = .returned (.bool true) ∧ Below w.heap.size w w' := by
  unfold maxLen at hm
  have al := Lib.hid (fun W => alive10 W)
  by_cases h1 : c < 1 ∨ 8 < c ∨ n < 1 ∨ 16 < n
  · obtain ⟨A, cc, rfl, hA⟩ := hR
    clear hA
    have nw := Lib.hid (fun W => new10_no c n W h1)
    clear h1
    go_enter Try.func4, Try.ntmps4
    go_wp2_with fail
    refine (nw.out _).mono ?_
    rintro e w' ⟨rfl, rfl⟩
    go_wp2_with fail
    refine (al.out _).mono ?_
    rintro e w3 ⟨rfl, hb3⟩
    go_wp2
    go_ret
    exact ⟨rfl, hb3⟩
  · obtain ⟨C, rfl⟩ := Int.eq_ofNat_of_zero_le (show 0 ≤ c by omega)
    obtain ⟨N, rfl⟩ := Int.eq_ofNat_of_zero_le (show 0 ≤ n by omega)
    by_cases h2 : R.length ≤ 100 ∧ 0 ≤ i ∧ i < N
    · obtain ⟨I, rfl⟩ := Int.eq_ofNat_of_zero_le h2.2.1
      exact locksOne_main C N v R I w (by omega) (by omega) (by omega) (by omega) (by omega) hR h2.1
    · have nw := Lib.hid (new10_yes C N w (by omega) (by omega) (by omega) (by omega))
      obtain ⟨A, cc, rfl, hA⟩ := hR
      clear hA
      by_cases h3 : 100 < R.length
      · have h3' : (100 : Int) < (R.length : Int) := by omega
        clear h1 h2
        go_enter Try.func4, Try.ntmps4
        go_wp2_with fail
        refine nw.out.mono ?_
        rintro e w1 ⟨g, rfl, r1, hg1, hb1⟩
        unfold ptr
        go_wp2_with fail
        refine (al.out _).mono ?_
        rintro e w3 ⟨rfl, hb3⟩
        go_wp2
        go_ret
        exact ⟨rfl, below_on hb1 hb3⟩
      · have h3' : ¬ (100 : Int) < (R.length : Int) := by omega
        by_cases h4 : i < 0
        · clear h1 h2
          go_enter Try.func4, Try.ntmps4
          go_wp2_with fail
          refine nw.out.mono ?_
          rintro e w1 ⟨g, rfl, r1, hg1, hb1⟩
          unfold ptr
          go_wp2_with fail
          refine (al.out _).mono ?_
          rintro e w3 ⟨rfl, hb3⟩
          go_wp2
          go_ret
          exact ⟨rfl, below_on hb1 hb3⟩
        · have h5 : (N : Int) ≤ i := by omega
          clear h1 h2
          go_enter Try.func4, Try.ntmps4
          go_wp2_with fail
          refine nw.out.mono ?_
          rintro e w1 ⟨g, rfl, r1, hg1, hb1⟩
          have ln := Lib.hid (len10_any g C _ w1 r1)
          rw [List.length_replicate] at ln
          clear r1
          unfold ptr at ln ⊢
          go_wp2_with fail
          refine ln.out.mono ?_
          rintro e w' ⟨rfl, rfl⟩
          go_wp2_with fail
          refine (al.out _).mono ?_
          rintro e w3 ⟨rfl, hb3⟩
          go_wp2
          go_ret
          exact ⟨rfl, below_on hb1 hb3⟩

#print axioms locksOne_any
end Go.Proofs.Ytdpoigeeechchaa
