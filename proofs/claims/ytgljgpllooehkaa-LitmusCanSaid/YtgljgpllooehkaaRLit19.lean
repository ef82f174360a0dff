/-
  The walk of the law LitmusAll: it returns true for every input, and nothing that was there before the call changes.
  Conditions: the programs' lists are no longer than what a slice may hold.
-/
import Derived.Test.YtgljgpllooehkaaRLit18
import Derived.Test.YtgljgpllooehkaaRLit14
import Derived.Test.YtgljgpllooehkaaRLit15
import Derived.Test.YtgljgpllooehkaaLit32
import Derived.Test.YtgljgpllooehkaaLit34
import Derived.Test.YtgljgpllooehkaaLit21
namespace Go.Proofs.Ytgljgpllooehkaa
open Go.ChangeShapes Go.WideShapes Go.ChangeAt Go.RowKit

set_option maxRecDepth 100000 in
set_option maxHeartbeats 2000000 in
theorem all_yes (N : Nat) (v : Value) (p : List (List Opn)) (w : World) (hp : Prg w v p) (hs : ∀ l ∈ p, l.length ≤ 4398046511104) (hR : RightS p (N : Int)) (h5 : lenS p ≤ 5) :
    Calls Try.prog 3 #[v, .int .i64 (N : Int)] w fun e w' => e = .returned (.bool true) ∧ Below w.heap.size w w' := by
  have hm3 := hR.hi
  have each : ∀ l ∈ p, l.length ≤ 100 := fun l hl => by have := len_lenS hl; omega
  have CT := Lib.hid (fun W (hb : Below w.heap.size w W) => count_sized v p W (hp.below hb) (by omega) hs)
  have PL0 := Lib.hid (plain_any v p w hp (by omega) each)
  have OU := Lib.hid (fun W (hb : Below w.heap.size w W) => outcomes_yes N v p W (hp.below hb) hR)
  have RI := Lib.hid (fun W (hb : Below w.heap.size w W) => right_any (N : Int) v p W (hp.below hb) (by omega))
  have RR := Lib.hid (fun (u : Value) W (hq : Prg W u p) => rright7_any (N : Int) u p W hq (by omega) each)
  have RO := Lib.hid (fun (u : Value) W (hq : Prg W u p) => routcomes_any N u p W hq hR)
  have hB : rightB p (N : Int) = true := (rightB_iff p N).2 hR
  rw [hB] at RI RR
  have HR := Lib.hid hR
  have H5 := Lib.hid h5
  obtain ⟨A, cc, rfl, hA⟩ := hp
  clear hA hs hR hB each h5
  obtain ⟨m, hme⟩ : ∃ m, p.length = m := ⟨_, rfl⟩
  rw [hme] at hm3 CT PL0 OU RI ⊢
  have HM := Lib.hid hme
  clear hme
  have g1 : ¬ ((50 : Int) < (m : Int)) := by omega
  have t1 : decide (50 < m) = false := by simp; omega
  go_enter Try.func3, Try.ntmps3
  go_wp2_with fail
  refine (CT.out _ (Below.refl _ _)).mono ?_
  rintro e w' ⟨z, rfl, rfl, hz1, hz2⟩
  have hz : z ≤ 5 := by
    have := H5.out
    rcases Nat.lt_or_ge 100 z with h | h
    · have := hz2 h; omega
    · have := hz1 h; omega
  have t2 : decide (100 < z) = false := by simp; omega
  have t2' : decide ((100 : Int) < (z : Int)) = false := by simp; omega
  clear hz1 hz2
  go_wp2_with fail
  refine PL0.out.mono ?_
  rintro e w1 ⟨q, rfl, hq, hb1⟩
  have Q1 := Lib.hid hq
  have B1 := Lib.hid hb1
  clear hq hb1 PL0
  go_wp2_with fail
  refine (RR.out q w1 Q1.out).mono ?_
  rintro e w2 ⟨rfl, hb2⟩
  have Q2 := Lib.hid (Q1.out.below hb2)
  have B2 := Lib.hid (below_on B1.out hb2)
  clear hb2
  go_wp2_with fail
  refine (CT.out _ B2.out).mono ?_
  rintro e w' ⟨z', rfl, rfl, hz1, hz2⟩
  have hz' : z' ≤ 5 := by
    have := H5.out
    rcases Nat.lt_or_ge 100 z' with h | h
    · have := hz2 h; omega
    · have := hz1 h; omega
  have t3 : decide (5 < z') = false := by simp; omega
  have t3' : decide ((5 : Int) < (z' : Int)) = false := by simp; omega
  clear hz1 hz2
  go_wp2_with fail
  refine (OU.out _ B2.out).mono ?_
  rintro e w3 ⟨v3, vs3, L3, rfl, hl3, ho3, hb3, hn3⟩
  have L3h := Lib.hid hl3
  have O3 := Lib.hid ho3
  have N3 := Lib.hid hn3
  have B3 := Lib.hid (below_on B2.out hb3)
  have Q3 := Lib.hid (Q2.out.below hb3)
  clear hl3 ho3 hb3 hn3
  go_wp2_with fail
  refine (RI.out _ B3.out).mono ?_
  rintro e w4 ⟨rfl, hb4⟩
  have B4 := Lib.hid (below_on B3.out hb4)
  have Q4 := Lib.hid (Q3.out.below hb4)
  have L4 := Lib.hid (L3h.out.below hb4)
  clear hb4
  go_wp2_with fail
  refine (RO.out q w4 Q4.out).mono ?_
  rintro e w5 ⟨ov, vs5, L5, rfl, hl5, ho5, hb5, hn5⟩
  have hEq : L5 = L3 := ho5.eq O3.out
  subst hEq
  have B5 := Lib.hid (below_on B4.out hb5)
  have SM := Lib.hid (same_yes _ _ v3 ov vs3 vs5 L5 w5 (L4.out.below hb5) hl5 (fun l hl => by have := ho5.small HR.out l hl; rw [HM.out] at this; omega) (by have := hn5; have := most_lt; omega))
  clear hl5 ho5 hb5 hn5
  go_wp2_with fail
  refine SM.out.mono ?_
  rintro e w6 ⟨rfl, hb6⟩
  have B6 := Lib.hid (below_on B5.out hb6)
  clear hb6
  go_wp2_with fail
  refine (alive_any _).mono ?_
  rintro e w7 ⟨rfl, hb7⟩
  have B7 := Lib.hid (below_on B6.out hb7)
  clear hb7
  go_wp2
  go_ret
  exact ⟨rfl, B7.out⟩

set_option maxRecDepth 100000 in
set_option maxHeartbeats 2000000 in
theorem all_six (buf : Int) (v : Value) (p : List (List Opn)) (w : World) (hp : Prg w v p) (hs : ∀ l ∈ p, l.length ≤ 4398046511104) (hR : RightS p buf) (h5 : 5 < lenS p) :
    Calls Try.prog 3 #[v, .int .i64 buf] w fun e w' => e = .returned (.bool true) ∧ Below w.heap.size w w' := by
  have hm3 := hR.hi
  have h6 : lenS p ≤ 6 := hR.all
  have each : ∀ l ∈ p, l.length ≤ 100 := fun l hl => by have := len_lenS hl; omega
  have CT := Lib.hid (fun W (hb : Below w.heap.size w W) => count_sized v p W (hp.below hb) (by omega) hs)
  have PL0 := Lib.hid (plain_any v p w hp (by omega) each)
  have RR := Lib.hid (fun (u : Value) W (hq : Prg W u p) => rright7_any buf u p W hq (by omega) each)
  rw [(rightB_iff p buf).2 hR] at RR
  have H5 := Lib.hid h5
  have H6 := Lib.hid h6
  obtain ⟨A, cc, rfl, hA⟩ := hp
  clear hA hs hR each h5 h6
  obtain ⟨m, hme⟩ : ∃ m, p.length = m := ⟨_, rfl⟩
  rw [hme] at hm3 CT PL0 ⊢
  clear hme
  have g1 : ¬ ((50 : Int) < (m : Int)) := by omega
  have t1 : decide (50 < m) = false := by simp; omega
  go_enter Try.func3, Try.ntmps3
  go_wp2_with fail
  refine (CT.out _ (Below.refl _ _)).mono ?_
  rintro e w' ⟨z, rfl, rfl, hz1, hz2⟩
  have hz : z ≤ 6 := by
    have := H6.out
    rcases Nat.lt_or_ge 100 z with h | h
    · have := hz2 h; omega
    · have := hz1 h; omega
  have t2 : decide (100 < z) = false := by simp; omega
  have t2' : decide ((100 : Int) < (z : Int)) = false := by simp; omega
  clear hz1 hz2
  go_wp2_with fail
  refine PL0.out.mono ?_
  rintro e w1 ⟨q, rfl, hq, hb1⟩
  have Q1 := Lib.hid hq
  have B1 := Lib.hid hb1
  clear hq hb1 PL0
  go_wp2_with fail
  refine (RR.out q w1 Q1.out).mono ?_
  rintro e w2 ⟨rfl, hb2⟩
  have B2 := Lib.hid (below_on B1.out hb2)
  clear hb2
  go_wp2_with fail
  refine (CT.out _ B2.out).mono ?_
  rintro e w' ⟨z', rfl, rfl, hz1, hz2⟩
  have hz' : 5 < z' := by
    have := H5.out
    rcases Nat.lt_or_ge 100 z' with h | h
    · omega
    · have := hz1 h; omega
  have t3 : decide (5 < z') = true := by simp; omega
  have t3' : decide ((5 : Int) < (z' : Int)) = true := by simp; omega
  clear hz1 hz2
  go_wp2_with fail
  refine (alive_any _).mono ?_
  rintro e w7 ⟨rfl, hb7⟩
  have B7 := Lib.hid (below_on B2.out hb7)
  clear hb7
  go_wp2
  go_ret
  exact ⟨rfl, B7.out⟩

set_option maxRecDepth 100000 in
set_option maxHeartbeats 2000000 in
theorem all_wrong (buf : Int) (v : Value) (p : List (List Opn)) (w : World) (hp : Prg w v p) (hs : ∀ l ∈ p, l.length ≤ 4398046511104) (hm : p.length ≤ 50) (h100 : lenS p ≤ 100) (hR : ¬ RightS p buf) :
    Calls Try.prog 3 #[v, .int .i64 buf] w fun e w' => e = .returned (.bool true) ∧ Below w.heap.size w w' := by
  have each : ∀ l ∈ p, l.length ≤ 100 := fun l hl => by have := len_lenS hl; omega
  have CT := Lib.hid (fun W (hb : Below w.heap.size w W) => count_sized v p W (hp.below hb) (by omega) hs)
  have PL0 := Lib.hid (plain_any v p w hp (by omega) each)
  have OU := Lib.hid (fun W (hb : Below w.heap.size w W) => outcomes_no buf v p W (hp.below hb) (by omega) hR)
  have RI := Lib.hid (fun W (hb : Below w.heap.size w W) => right_any buf v p W (hp.below hb) (by omega))
  have RR := Lib.hid (fun (u : Value) W (hq : Prg W u p) => rright7_any buf u p W hq (by omega) each)
  rw [right_false hR] at RI RR
  have H100 := Lib.hid h100
  obtain ⟨A, cc, rfl, hA⟩ := hp
  clear hA hs hR each h100
  obtain ⟨m, hme⟩ : ∃ m, p.length = m := ⟨_, rfl⟩
  rw [hme] at hm CT PL0 OU RI ⊢
  clear hme
  have g1 : ¬ ((50 : Int) < (m : Int)) := by omega
  have t1 : decide (50 < m) = false := by simp; omega
  go_enter Try.func3, Try.ntmps3
  go_wp2_with fail
  refine (CT.out _ (Below.refl _ _)).mono ?_
  rintro e w' ⟨z, rfl, rfl, hz1, hz2⟩
  have hz : z ≤ 100 := by
    have := H100.out
    rcases Nat.lt_or_ge 100 z with h | h
    · have := hz2 h; omega
    · omega
  have t2 : decide (100 < z) = false := by simp; omega
  have t2' : decide ((100 : Int) < (z : Int)) = false := by simp; omega
  clear hz1 hz2
  go_wp2_with fail
  refine PL0.out.mono ?_
  rintro e w1 ⟨q, rfl, hq, hb1⟩
  have Q1 := Lib.hid hq
  have B1 := Lib.hid hb1
  clear hq hb1 PL0
  go_wp2_with fail
  refine (RR.out q w1 Q1.out).mono ?_
  rintro e w2 ⟨rfl, hb2⟩
  have B2 := Lib.hid (below_on B1.out hb2)
  clear hb2
  go_wp2_with fail
  refine (OU.out _ B2.out).mono ?_
  rintro e w3 ⟨rfl, hb3⟩
  have B3 := Lib.hid (below_on B2.out hb3)
  clear hb3
  go_wp2_with fail
  refine (RI.out _ B3.out).mono ?_
  rintro e w4 ⟨rfl, hb4⟩
  have B4 := Lib.hid (below_on B3.out hb4)
  clear hb4
  go_wp2_with fail
  refine (alive_any _).mono ?_
  rintro e w7 ⟨rfl, hb7⟩
  have B7 := Lib.hid (below_on B4.out hb7)
  clear hb7
  go_wp2
  go_ret
  exact ⟨rfl, B7.out⟩

set_option maxRecDepth 100000 in
set_option maxHeartbeats 1000000 in
theorem all_any (buf : Int) (v : Value) (p : List (List Opn)) (w : World) (hp : Prg w v p) (hs : ∀ l ∈ p, l.length ≤ 4398046511104) :
    Calls Try.prog 3 #[v, .int .i64 buf] w fun e w' => e = .returned (.bool true) ∧ Below w.heap.size w w' := by
  by_cases hm : p.length ≤ 50
  · by_cases h3 : lenS p ≤ 100
    · by_cases hR : RightS p buf
      · by_cases h5 : lenS p ≤ 5
        · obtain ⟨N, rfl⟩ := Int.eq_ofNat_of_zero_le hR.b0
          exact all_yes N v p w hp hs hR h5
        · exact all_six buf v p w hp hs hR (by omega)
      · exact all_wrong buf v p w hp hs hm h3 hR
    · have CT := Lib.hid (count_sized v p w hp (by omega) hs)
      obtain ⟨A, cc, rfl, hA⟩ := hp
      clear hA hs
      obtain ⟨m, hme⟩ : ∃ m, p.length = m := ⟨_, rfl⟩
      rw [hme] at hm CT ⊢
      clear hme
      have g1 : ¬ ((50 : Int) < (m : Int)) := by omega
      have t1 : decide (50 < m) = false := by simp; omega
      go_enter Try.func3, Try.ntmps3
      go_wp2_with fail
      refine CT.out.mono ?_
      rintro e w' ⟨z, rfl, rfl, hz1, hz2⟩
      have hz3 : 100 < z := by
        rcases Nat.lt_or_ge 100 z with h | h
        · omega
        · have := hz1 h; omega
      have t2 : decide (100 < z) = true := by simp; omega
      have t2' : decide ((100 : Int) < (z : Int)) = true := by simp; omega
      clear hz1 hz2 h3 CT
      go_wp2_with (go_at_call 10; refine (alive_any _).mono ?_; rintro e w6 ⟨rfl, hb6⟩)
      go_ret
      exact ⟨rfl, hb6⟩
  · obtain ⟨A, cc, rfl, hA⟩ := hp
    clear hA hs
    obtain ⟨m, hme⟩ : ∃ m, p.length = m := ⟨_, rfl⟩
    rw [hme] at hm ⊢
    clear hme
    have t1 : decide (50 < m) = true := by simp; omega
    go_enter Try.func3, Try.ntmps3
    go_wp2_with (go_at_call 10; refine (alive_any _).mono ?_; rintro e w6 ⟨rfl, hb6⟩)
    go_ret
    exact ⟨rfl, hb6⟩

#print axioms all_any
end Go.Proofs.Ytgljgpllooehkaa
