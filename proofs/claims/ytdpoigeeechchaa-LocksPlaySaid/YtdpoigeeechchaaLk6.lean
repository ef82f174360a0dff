/-
  Layer 10 (locks): the law's do; alive (the chapter's example); LocksNobody.
  Conditions: those that each theorem states.
-/
import Derived.Test.YtdpoigeeechchaaLk4
namespace Go.Proofs.Ytdpoigeeechchaa
open Go.ChangeShapes Go.WideShapes Go.ChangeAt Go.RowKit

def opV10 (K c i : Int) : Value := .agg #[.int .i64 K, .int .i64 c, .int .i64 i]

/-- What a call makes of the owners, what it tells, and the error. -/
def dL (C : Nat) (l : List Int) (K c i : Int) : List Int := if K = 0 then tryL C l c i else if K = 1 then freeL C l c i else if K = 3 then relL C l c else l
def dX (C : Nat) (l : List Int) (K c i : Int) : Int := if K = 0 then (if tryB C l c i = true then 1 else 0) else if K = 1 then 0 else if K = 3 then ((heldA C l c).length : Int) else ownV l i
def dE (C : Nat) (l : List Int) (K c i : Int) : Int := if K = 0 then ck C l.length c i else if K = 1 then freeE C l c i else if K = 3 then ckC C c else ckL l.length i

theorem tryL_len (C : Nat) (l : List Int) (c i : Int) : (tryL C l c i).length = l.length := by unfold tryL; split <;> simp
theorem freeL_len (C : Nat) (l : List Int) (c i : Int) : (freeL C l c i).length = l.length := by unfold freeL; split <;> simp
theorem relL_len (C : Nat) (l : List Int) (c : Int) : (relL C l c).length = l.length := by unfold relL; split; exact freeAll_len _ _; rfl
theorem dL_len (C : Nat) (l : List Int) (K c i : Int) : (dL C l K c i).length = l.length := by
  unfold dL; split; exact tryL_len _ _ _ _; split; exact freeL_len _ _ _ _; split; exact relL_len _ _ _; rfl

set_option maxRecDepth 100000 in
set_option maxHeartbeats 1000000 in
theorem do10_0 (g C : Nat) (l : List Int) (c i : Int) (w : World) (r : BankAt w g C l) :
    Calls Try.prog 11 #[ptr g, opV10 0 c i] w (BankP g C (tryL C l c i) (.tuple #[.int .i64 (if tryB C l c i = true then 1 else 0), .int .i64 (ck C l.length c i)]) w) := by
  have k1 := Lib.hid (try10_any g C l c i _ (r.below (below_al w (.cells #[.int .i64 0, .int .i64 c, .int .i64 i] 24))))
  have HB := Lib.hid (below_al w (.cells #[.int .i64 0, .int .i64 c, .int .i64 i] 24))
  obtain ⟨E, hE⟩ : ∃ E, ck C l.length c i = E := ⟨_, rfl⟩
  rw [hE] at k1 ⊢
  clear r hE
  unfold ptr opV10 at *
  cases hb : tryB C l c i
  · rw [hb] at k1
    clear hb
    go_enter Try.func11, Try.ntmps11
    go_wp2_with fail
    refine k1.out.mono ?_
    rintro e w1 ⟨rfl, hr1, ho1⟩
    have R1 := Lib.hid hr1
    have O1 := Lib.hid ho1
    clear hr1 ho1
    go_wp2
    go_ret2
    exact ⟨rfl, R1.out, (Only.of_below HB.out _).trans O1.out⟩
  · rw [hb] at k1
    clear hb
    go_enter Try.func11, Try.ntmps11
    go_wp2_with fail
    refine k1.out.mono ?_
    rintro e w1 ⟨rfl, hr1, ho1⟩
    have R1 := Lib.hid hr1
    have O1 := Lib.hid ho1
    clear hr1 ho1
    go_wp2
    go_ret2
    exact ⟨rfl, R1.out, (Only.of_below HB.out _).trans O1.out⟩

set_option maxRecDepth 100000 in
set_option maxHeartbeats 1000000 in
theorem do10_1 (g C : Nat) (l : List Int) (c i : Int) (w : World) (r : BankAt w g C l) :
    Calls Try.prog 11 #[ptr g, opV10 1 c i] w (BankP g C (freeL C l c i) (.tuple #[.int .i64 0, .int .i64 (freeE C l c i)]) w) := by
  have k1 := Lib.hid (free10_any g C l c i _ (r.below (below_al w (.cells #[.int .i64 1, .int .i64 c, .int .i64 i] 24))))
  have HB := Lib.hid (below_al w (.cells #[.int .i64 1, .int .i64 c, .int .i64 i] 24))
  obtain ⟨E, hE⟩ : ∃ E, freeE C l c i = E := ⟨_, rfl⟩
  rw [hE] at k1 ⊢
  clear r hE
  unfold ptr opV10 at *
  go_enter Try.func11, Try.ntmps11
  go_wp2_with fail
  refine k1.out.mono ?_
  rintro e w1 ⟨rfl, hr1, ho1⟩
  have R1 := Lib.hid hr1
  have O1 := Lib.hid ho1
  clear hr1 ho1
  go_wp2
  go_ret2
  exact ⟨rfl, R1.out, (Only.of_below HB.out _).trans O1.out⟩

set_option maxRecDepth 100000 in
set_option maxHeartbeats 1000000 in
theorem do10_3 (g C : Nat) (l : List Int) (c i : Int) (w : World) (r : BankAt w g C l) :
    Calls Try.prog 11 #[ptr g, opV10 3 c i] w (BankP g C (relL C l c) (.tuple #[.int .i64 ((heldA C l c).length : Int), .int .i64 (ckC C c)]) w) := by
  have k1 := Lib.hid (release10_any g C l c _ (r.below (below_al w (.cells #[.int .i64 3, .int .i64 c, .int .i64 i] 24))))
  have HB := Lib.hid (below_al w (.cells #[.int .i64 3, .int .i64 c, .int .i64 i] 24))
  obtain ⟨E, hE⟩ : ∃ E, ckC C c = E := ⟨_, rfl⟩
  obtain ⟨X, hX⟩ : ∃ X, (heldA C l c).length = X := ⟨_, rfl⟩
  rw [hE, hX] at k1 ⊢
  clear r hE hX
  unfold ptr opV10 at *
  go_enter Try.func11, Try.ntmps11
  go_wp2_with fail
  refine k1.out.mono ?_
  rintro e w1 ⟨rfl, hr1, ho1⟩
  have R1 := Lib.hid hr1
  have O1 := Lib.hid ho1
  clear hr1 ho1
  go_wp2
  go_ret2
  exact ⟨rfl, R1.out, (Only.of_below HB.out _).trans O1.out⟩

set_option maxRecDepth 100000 in
set_option maxHeartbeats 1000000 in
theorem do10_2 (g C : Nat) (l : List Int) (K c i : Int) (w : World) (r : BankAt w g C l) (h0 : (K == 0) = false) (h1 : (K == 1) = false) (h3 : (K == 3) = false) :
    Calls Try.prog 11 #[ptr g, opV10 K c i] w (BankP g C l (.tuple #[.int .i64 (ownV l i), .int .i64 (ckL l.length i)]) w) := by
  have k1 := Lib.hid (owner10_any g C l i _ (r.below (below_al w (.cells #[.int .i64 K, .int .i64 c, .int .i64 i] 24))))
  have HB := Lib.hid (below_al w (.cells #[.int .i64 K, .int .i64 c, .int .i64 i] 24))
  have R := Lib.hid r
  obtain ⟨E, hE⟩ : ∃ E, ckL l.length i = E := ⟨_, rfl⟩
  obtain ⟨X, hX⟩ : ∃ X, ownV l i = X := ⟨_, rfl⟩
  rw [hE, hX] at k1 ⊢
  clear r hE hX
  unfold ptr opV10 at *
  go_enter Try.func11, Try.ntmps11
  go_wp2_with fail
  refine k1.out.mono ?_
  rintro e w1 ⟨rfl, rfl⟩
  go_wp2
  go_ret2
  exact ⟨rfl, R.out.below HB.out, Only.of_below HB.out _⟩

theorem do10_any (g C : Nat) (l : List Int) (K c i : Int) (w : World) (r : BankAt w g C l) :
    Calls Try.prog 11 #[ptr g, opV10 K c i] w (BankP g C (dL C l K c i) (.tuple #[.int .i64 (dX C l K c i), .int .i64 (dE C l K c i)]) w) := by
  unfold dL dX dE
  by_cases h0 : K = 0
  · subst h0
    simp only [if_true]
    exact do10_0 g C l c i w r
  · by_cases h1 : K = 1
    · subst h1
      simp only [if_neg h0, if_true]
      exact do10_1 g C l c i w r
    · by_cases h3 : K = 3
      · subst h3
        simp only [if_neg h0, if_neg h1, if_true]
        exact do10_3 g C l c i w r
      · simp only [if_neg h0, if_neg h1, if_neg h3]
        exact do10_2 g C l K c i w r (by simpa using h0) (by simpa using h1) (by simpa using h3)

set_option maxRecDepth 100000 in
set_option maxHeartbeats 1000000 in
theorem do10_nil (K c i : Int) (w : World) :
    Calls Try.prog 11 #[.pointer none, opV10 K c i] w fun e w' => e = .returned (.tuple #[.int .i64 0, .int .i64 1]) ∧ Below w.heap.size w w' := by
  have kt := Lib.hid (fun W => try10_nil c i W)
  have kf := Lib.hid (fun W => free10_nil c i W)
  have kr := Lib.hid (fun W => release10_nil c W)
  have ko := Lib.hid (fun W => owner10_nil i W)
  unfold opV10
  by_cases h0 : K = 0
  · subst h0
    go_enter Try.func11, Try.ntmps11
    go_wp2_with fail
    refine (kt.out _).mono ?_
    rintro e w1 ⟨rfl, rfl⟩
    go_wp2
    go_ret2
    exact ⟨rfl, below_al _ _⟩
  · by_cases h1 : K = 1
    · subst h1
      go_enter Try.func11, Try.ntmps11
      go_wp2_with fail
      refine (kf.out _).mono ?_
      rintro e w1 ⟨rfl, rfl⟩
      go_wp2
      go_ret2
      exact ⟨rfl, below_al _ _⟩
    · by_cases h3 : K = 3
      · subst h3
        go_enter Try.func11, Try.ntmps11
        go_wp2_with fail
        refine (kr.out _).mono ?_
        rintro e w1 ⟨rfl, rfl⟩
        go_wp2
        go_ret2
        exact ⟨rfl, below_al _ _⟩
      · have q0 : (K == 0) = false := by simpa using h0
        have q1 : (K == 1) = false := by simpa using h1
        have q3 : (K == 3) = false := by simpa using h3
        clear h0 h1 h3
        go_enter Try.func11, Try.ntmps11
        go_wp2_with fail
        refine (ko.out _).mono ?_
        rintro e w1 ⟨rfl, rfl⟩
        go_wp2
        go_ret2
        exact ⟨rfl, below_al _ _⟩

theorem ea_try (g : Nat) (w : World) (r : BankAt w g 2 (List.replicate 3 (-1))) : Calls Try.prog 19 #[ptr g, .int .i64 0, .int .i64 2] w (BankP g 2 [-1, -1, 0] (.tuple #[.bool true, .int .i64 0]) w) := by
  have h := try10_any g 2 _ 0 2 w r
  rw [show tryL 2 (List.replicate 3 (-1)) 0 2 = [-1, -1, 0] from by decide, show tryB 2 (List.replicate 3 (-1)) 0 2 = true from by decide, show ck 2 (List.replicate 3 (-1 : Int)).length 0 2 = 0 from by decide] at h
  exact h
theorem ea_try2 (g : Nat) (w : World) (r : BankAt w g 2 [-1, -1, 0]) : Calls Try.prog 19 #[ptr g, .int .i64 1, .int .i64 2] w (BankP g 2 [-1, -1, 0] (.tuple #[.bool false, .int .i64 0]) w) := by
  have h := try10_any g 2 _ 1 2 w r
  rw [show tryL 2 [-1, -1, 0] 1 2 = [-1, -1, 0] from by decide, show tryB 2 [-1, -1, 0] 1 2 = false from by decide, show ck 2 ([-1, -1, 0] : List Int).length 1 2 = 0 from by decide] at h
  exact h
theorem ea_own (g : Nat) (w : World) (r : BankAt w g 2 [-1, -1, 0]) : Calls Try.prog 17 #[ptr g, .int .i64 2] w fun e w' => e = .returned (.tuple #[.int .i64 0, .int .i64 0]) ∧ w = w' := by
  have h := owner10_any g 2 _ 2 w r
  rw [show ownV [-1, -1, 0] 2 = 0 from by decide, show ckL ([-1, -1, 0] : List Int).length 2 = 0 from by decide] at h
  exact h
theorem ea_free (g : Nat) (w : World) (r : BankAt w g 2 [-1, -1, 0]) : Calls Try.prog 20 #[ptr g, .int .i64 1, .int .i64 2] w (BankP g 2 [-1, -1, 0] (.int .i64 12) w) := by
  have h := free10_any g 2 _ 1 2 w r
  rw [show freeL 2 [-1, -1, 0] 1 2 = [-1, -1, 0] from by decide, show freeE 2 [-1, -1, 0] 1 2 = 12 from by decide] at h
  exact h

theorem below_bank {w w1 w2 : World} {g : Nat} (hb : Below w.heap.size w w1) (hn : w.heap.size ≤ g) (ho : Only (· = g) w1 w2) : Below w.heap.size w w2 :=
  Only.below hb ho hb.size (fun b hb h => by omega)

set_option maxRecDepth 100000 in
set_option maxHeartbeats 2000000 in
theorem alive10 (w : World) :
    Calls Try.prog 6 #[] w fun e w' => e = .returned (.bool true) ∧ Below w.heap.size w w' := by
  have nw : Calls Try.prog 7 #[.int .i64 2, .int .i64 3] w (MadeK 2 (List.replicate 3 (-1)) w) := new10_yes 2 3 w (by omega) (by omega) (by omega) (by omega)
  have NW := Lib.hid nw
  clear nw
  go_enter Try.func6, Try.ntmps6
  go_wp2_with fail
  go_at_call 7
  refine NW.out.mono ?_
  rintro e w1 ⟨g, rfl, hr1, hn1, hb1⟩
  have R1 := Lib.hid hr1
  have HN1 := Lib.hid hn1
  have HB1 := Lib.hid hb1
  clear hr1 hn1 hb1
  have k1 := Lib.hid (ea_try g w1 R1.out)
  unfold ptr at k1 ⊢
  go_wp2_with fail
  go_at_call 19
  refine k1.out.mono ?_
  rintro e w2 ⟨rfl, hr2, ho2⟩
  have HB2 := Lib.hid (below_bank HB1.out HN1.out ho2)
  have R2 := Lib.hid hr2
  have k2 := Lib.hid (ea_try2 g w2 hr2)
  unfold ptr at k2
  clear hr2 ho2
  go_wp2_with fail
  go_at_call 19
  refine k2.out.mono ?_
  rintro e w3 ⟨rfl, hr3, ho3⟩
  have HB3 := Lib.hid (below_bank HB2.out HN1.out ho3)
  have k3 := Lib.hid (ea_own g w3 hr3)
  have k4 := Lib.hid (ea_free g w3 hr3)
  unfold ptr at k3 k4
  clear hr3 ho3
  go_wp2_with fail
  go_at_call 17
  refine k3.out.mono ?_
  rintro e w' ⟨rfl, rfl⟩
  go_wp2_with fail
  go_at_call 20
  refine k4.out.mono ?_
  rintro e w4 ⟨rfl, hr4, ho4⟩
  have HB4 := Lib.hid (below_bank HB3.out HN1.out ho4)
  clear hr4 ho4
  go_wp2
  go_ret
  exact ⟨rfl, HB4.out⟩

set_option maxRecDepth 100000 in
set_option maxHeartbeats 2000000 in
theorem locksNobody_any (K c i : Int) (w : World) :
    Calls Try.prog 5 #[opV10 K c i] w fun e w' => e = .returned (.bool true) ∧ Below w.heap.size w w' := by
  have NW : Hid (∀ W, Calls Try.prog 7 #[.int .i64 1, .int .i64 1] W (MadeK 1 (List.replicate 1 (-1)) W)) := Lib.hid (fun W => new10_yes 1 1 W (by omega) (by omega) (by omega) (by omega))
  have DN := Lib.hid (fun W => do10_nil K c i W)
  unfold opV10 at DN ⊢
  go_enter Try.func5, Try.ntmps5
  go_wp2_with fail
  go_at_call 7
  refine (NW.out _).mono ?_
  rintro e w1 ⟨g, rfl, hr1, hn1, hb1⟩
  have HB1 := Lib.hid (below_on (below_al _ _) hb1)
  have I1 := (Row.new w 24 #[.int .i64 K, .int .i64 c, .int .i64 i]).below hb1
  have x0 := I1.cell 0
  have x1 := I1.cell 1
  have x2 := I1.cell 2
  simp only [List.getElem?_cons_zero, List.getElem?_cons_succ] at x0 x1 x2
  have HI1 := Lib.hid I1
  clear hr1 hn1 hb1 I1
  unfold ptr
  go_wp2_with fail
  go_at_call 11
  refine (DN.out _).mono ?_
  rintro e w2 ⟨rfl, hb2⟩
  have x1 := (HI1.out.below hb2).cell 1
  simp only [List.getElem?_cons_zero, List.getElem?_cons_succ] at x1
  have HB2 := Lib.hid (below_on HB1.out hb2)
  clear hb2
  go_wp2_with fail
  go_at_call 16
  refine (len10_nil _).mono ?_
  rintro e w' ⟨rfl, rfl⟩
  go_wp2_with fail
  go_at_call 18
  refine (held10_nil _ _).mono ?_
  rintro e w' ⟨rfl, rfl⟩
  go_wp2_with fail
  go_at_call 13
  refine (clone10_nil _).mono ?_
  rintro e w' ⟨rfl, rfl⟩
  go_wp2_with fail
  go_at_call 14
  refine (same10_nil _).mono ?_
  rintro e w' ⟨rfl, rfl⟩
  go_wp2_with fail
  go_at_call 14
  refine (same10_left _ _).mono ?_
  rintro e w' ⟨rfl, rfl⟩
  go_wp2_with fail
  go_at_call 14
  refine (same10_right _ _).mono ?_
  rintro e w' ⟨rfl, rfl⟩
  go_wp2_with fail
  go_at_call 6
  refine (alive10 _).mono ?_
  rintro e w4 ⟨rfl, hb4⟩
  have HB4 := Lib.hid (below_on HB2.out hb4)
  clear hb4
  go_wp2
  go_ret
  exact ⟨rfl, HB4.out⟩

#print axioms alive10
#print axioms locksNobody_any
end Go.Proofs.Ytdpoigeeechchaa
