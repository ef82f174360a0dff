/-
  Layer 11 (gate): the law's do; alive (the chapter's example); GateNobody.
  Conditions: those that each theorem states.
-/
import Derived.Test.YtaimhaokielhgaaGt4
namespace Go.Proofs.Ytaimhaokielhgaa
open Go.ChangeShapes Go.WideShapes Go.ChangeAt Go.RowKit

def opV11 (K c : Int) : Value := .agg #[.int .i64 K, .int .i64 c]

/-- What a call makes of the cores, and the error. -/
def dG (l : List (Int × Bool)) (K c : Int) : List (Int × Bool) := if K = 0 then holdL l c else if K = 1 then startL l c else l
def dE11 (l : List (Int × Bool)) (K c : Int) : Int := if K = 0 then holdE l c else if K = 1 then startE l c else 0
theorem holdL_len (l : List (Int × Bool)) (c : Int) : (holdL l c).length = l.length := by unfold holdL; split <;> simp
theorem startL_len (l : List (Int × Bool)) (c : Int) : (startL l c).length = l.length := by unfold startL; split <;> simp
theorem dG_len (l : List (Int × Bool)) (K c : Int) : (dG l K c).length = l.length := by
  unfold dG; split; exact holdL_len _ _; split; exact startL_len _ _; rfl

set_option maxRecDepth 100000 in
set_option maxHeartbeats 1000000 in
theorem do11_0 (g : Nat) (l : List (Int × Bool)) (c : Int) (w : World) (r : GateAt w g l) :
    Calls Try.prog 10 #[ptr g, opV11 0 c] w (GateP g (holdL l c) (.int .i64 (holdE l c)) w) := by
  have k1 := Lib.hid (hold11_any g l c _ (r.below (below_al w (.cells #[.int .i64 0, .int .i64 c] 24))))
  have HB := Lib.hid (below_al w (.cells #[.int .i64 0, .int .i64 c] 24))
  obtain ⟨E, hE⟩ : ∃ E, holdE l c = E := ⟨_, rfl⟩
  rw [hE] at k1 ⊢
  clear r hE
  unfold ptr opV11 at *
  go_enter Try.func10, Try.ntmps10
  go_wp2_with fail
  refine k1.out.mono ?_
  rintro e w1 ⟨rfl, hr1, ho1⟩
  have R1 := Lib.hid hr1
  have O1 := Lib.hid ho1
  clear hr1 ho1
  go_wp2
  go_ret
  exact ⟨rfl, R1.out, (Only.of_below HB.out _).trans O1.out⟩

set_option maxRecDepth 100000 in
set_option maxHeartbeats 1000000 in
theorem do11_1 (g : Nat) (l : List (Int × Bool)) (c : Int) (w : World) (r : GateAt w g l) :
    Calls Try.prog 10 #[ptr g, opV11 1 c] w (GateP g (startL l c) (.int .i64 (startE l c)) w) := by
  have k1 := Lib.hid (start11_any g l c _ (r.below (below_al w (.cells #[.int .i64 1, .int .i64 c] 24))))
  have HB := Lib.hid (below_al w (.cells #[.int .i64 1, .int .i64 c] 24))
  obtain ⟨E, hE⟩ : ∃ E, startE l c = E := ⟨_, rfl⟩
  rw [hE] at k1 ⊢
  clear r hE
  unfold ptr opV11 at *
  go_enter Try.func10, Try.ntmps10
  go_wp2_with fail
  refine k1.out.mono ?_
  rintro e w1 ⟨rfl, hr1, ho1⟩
  have R1 := Lib.hid hr1
  have O1 := Lib.hid ho1
  clear hr1 ho1
  go_wp2
  go_ret
  exact ⟨rfl, R1.out, (Only.of_below HB.out _).trans O1.out⟩

set_option maxRecDepth 100000 in
set_option maxHeartbeats 1000000 in
theorem do11_2 (g : Nat) (l : List (Int × Bool)) (K c : Int) (w : World) (r : GateAt w g l) (h0 : (K == 0) = false) (h1 : (K == 1) = false) :
    Calls Try.prog 10 #[ptr g, opV11 K c] w (GateP g l (.int .i64 0) w) := by
  have HB := Lib.hid (below_al w (.cells #[.int .i64 K, .int .i64 c] 24))
  have R := Lib.hid r
  clear r
  unfold ptr opV11 at *
  go_enter Try.func10, Try.ntmps10
  go_wp2
  go_ret
  exact ⟨rfl, R.out.below HB.out, Only.of_below HB.out _⟩

theorem do11_any (g : Nat) (l : List (Int × Bool)) (K c : Int) (w : World) (r : GateAt w g l) :
    Calls Try.prog 10 #[ptr g, opV11 K c] w (GateP g (dG l K c) (.int .i64 (dE11 l K c)) w) := by
  unfold dG dE11
  by_cases h0 : K = 0
  · subst h0
    simp only [if_true]
    exact do11_0 g l c w r
  · by_cases h1 : K = 1
    · subst h1
      simp only [if_neg h0, if_true]
      exact do11_1 g l c w r
    · simp only [if_neg h0, if_neg h1]
      exact do11_2 g l K c w r (by simpa using h0) (by simpa using h1)

theorem ea_hold (g : Nat) (w : World) (r : GateAt w g (newG 3)) : Calls Try.prog 22 #[ptr g, .int .i64 1] w (GateP g [(0, false), (0, true), (0, false)] (.int .i64 0) w) := by
  have h := hold11_any g _ 1 w r
  rw [show holdL (newG 3) 1 = [(0, false), (0, true), (0, false)] from by decide, show holdE (newG 3) 1 = 0 from by decide] at h
  exact h
theorem ea_start (g : Nat) (w : World) (r : GateAt w g [(0, false), (0, true), (0, false)]) : Calls Try.prog 23 #[ptr g, .int .i64 1] w (GateP g [(0, false), (1, false), (0, false)] (.int .i64 0) w) := by
  have h := start11_any g _ 1 w r
  rw [show startL [(0, false), (0, true), (0, false)] 1 = [(0, false), (1, false), (0, false)] from by decide, show startE [(0, false), (0, true), (0, false)] 1 = 0 from by decide] at h
  exact h
theorem ea_epoch (g : Nat) (w : World) (r : GateAt w g [(0, false), (1, false), (0, false)]) : Calls Try.prog 14 #[ptr g, .int .i64 1] w fun e w' => e = .returned (.tuple #[.int .i64 1, .int .i64 0]) ∧ w = w' := by
  have h := epoch11_any g _ 1 w r
  rw [show epV [(0, false), (1, false), (0, false)] 1 = 1 from by decide, show ckG [(0, false), (1, false), (0, false)] 1 = 0 from by decide] at h
  exact h
theorem ea_link1 (g : Nat) (w : World) (r : GateAt w g [(0, false), (1, false), (0, false)]) : Calls Try.prog 17 #[ptr g, .int .i64 0, .int .i64 1] w fun e w' => e = .returned (.tuple #[.int .i64 1, .int .i64 0]) ∧ ∃ n, w' = w.drewN n := by
  have h := link11_any g _ 0 1 w r
  rw [show linkV [(0, false), (1, false), (0, false)] 0 1 = 1 from by decide, show linkE [(0, false), (1, false), (0, false)] 0 1 = 0 from by decide] at h
  exact h
theorem ea_link2 (g : Nat) (w : World) (r : GateAt w g [(0, false), (1, false), (0, false)]) : Calls Try.prog 17 #[ptr g, .int .i64 0, .int .i64 2] w fun e w' => e = .returned (.tuple #[.int .i64 0, .int .i64 0]) ∧ ∃ n, w' = w.drewN n := by
  have h := link11_any g _ 0 2 w r
  rw [show linkV [(0, false), (1, false), (0, false)] 0 2 = 0 from by decide, show linkE [(0, false), (1, false), (0, false)] 0 2 = 0 from by decide] at h
  exact h

theorem below_gate {w w1 w2 : World} {g : Nat} (hb : Below w.heap.size w w1) (hn : w.heap.size ≤ g) (ho : Only (· = g) w1 w2) : Below w.heap.size w w2 :=
  Only.below hb ho hb.size (fun b hb h => by omega)

set_option maxRecDepth 100000 in
set_option maxHeartbeats 2000000 in
theorem alive11 (w : World) :
    Calls Try.prog 6 #[] w fun e w' => e = .returned (.bool true) ∧ Below w.heap.size w w' := by
  have nw : Calls Try.prog 7 #[.int .i64 3] w (MadeG (newG 3) w) := new11_yes 3 w (by omega) (by omega)
  have NW := Lib.hid nw
  clear nw
  go_enter Try.func6, Try.ntmps6
  go_wp2_with fail
  go_at_call 7
  refine NW.out.mono ?_
  rintro e w1 ⟨g, rfl, hr1, hn1, hb1⟩
  have R1 := Lib.hid hr1
  have HN1 := Lib.hid hn1
  have HB1 := Lib.hid hb1
  clear hr1 hn1 hb1
  have k1 := Lib.hid (ea_hold g w1 R1.out)
  unfold ptr at k1 ⊢
  go_wp2_with fail
  go_at_call 22
  refine k1.out.mono ?_
  rintro e w2 ⟨rfl, hr2, ho2⟩
  have HB2 := Lib.hid (below_gate HB1.out HN1.out ho2)
  have k2 := Lib.hid (ea_start g w2 hr2)
  unfold ptr at k2
  clear hr2 ho2
  go_wp2_with fail
  go_at_call 23
  refine k2.out.mono ?_
  rintro e w3 ⟨rfl, hr3, ho3⟩
  have HB3 := Lib.hid (below_gate HB2.out HN1.out ho3)
  have k3 := Lib.hid (ea_epoch g w3 hr3)
  have k4 := Lib.hid (fun n => ea_link1 g (w3.drewN n) (hr3.below (below_q _ _)))
  have k5 := Lib.hid (fun n => ea_link2 g (w3.drewN n) (hr3.below (below_q _ _)))
  unfold ptr at k3 k4 k5
  clear hr3 ho3
  go_wp2_with fail
  go_at_call 14
  refine k3.out.mono ?_
  rintro e w' ⟨rfl, rfl⟩
  go_wp2_with fail
  go_at_call 17
  refine (k4.out 0).mono ?_
  rintro e w' ⟨rfl, n1, rfl⟩
  go_wp2_with fail
  go_at_call 17
  refine (k5.out _).mono ?_
  rintro e w' ⟨rfl, n2, rfl⟩
  go_wp2
  go_ret
  exact ⟨rfl, below_on HB3.out (below_q _ _)⟩

set_option maxRecDepth 100000 in
set_option maxHeartbeats 2000000 in
theorem gateNobody_any (a b : Int) (w : World) :
    Calls Try.prog 5 #[.int .i64 a, .int .i64 b] w fun e w' => e = .returned (.bool true) ∧ Below w.heap.size w w' := by
  have NW : Hid (∀ W, Calls Try.prog 7 #[.int .i64 1] W (MadeG (newG 1) W)) := Lib.hid (fun W => new11_yes 1 W (by omega) (by omega))
  go_enter Try.func5, Try.ntmps5
  go_wp2_with fail
  go_at_call 7
  refine (NW.out _).mono ?_
  rintro e w1 ⟨g, rfl, hr1, hn1, hb1⟩
  have HB1 := Lib.hid hb1
  clear hr1 hn1 hb1
  unfold ptr
  go_wp2_with fail
  go_at_call 14
  refine (epoch11_nil _ _).mono ?_
  rintro e w' ⟨rfl, rfl⟩
  go_wp2_with fail
  go_at_call 17
  refine (link11_nil _ _ _).mono ?_
  rintro e w' ⟨rfl, rfl⟩
  go_wp2_with fail
  go_at_call 22
  refine (hold11_nil _ _).mono ?_
  rintro e w' ⟨rfl, rfl⟩
  go_wp2_with fail
  go_at_call 23
  refine (start11_nil _ _).mono ?_
  rintro e w' ⟨rfl, rfl⟩
  go_wp2_with fail
  go_at_call 16
  refine (up11_nil _ _).mono ?_
  rintro e w' ⟨rfl, rfl⟩
  go_wp2_with fail
  go_at_call 12
  refine (down11_nil _).mono ?_
  rintro e w' ⟨rfl, rfl⟩
  go_wp2_with fail
  go_at_call 19
  refine (clone11_nil _).mono ?_
  rintro e w' ⟨rfl, rfl⟩
  go_wp2_with fail
  go_at_call 20
  refine (same11_nil _).mono ?_
  rintro e w' ⟨rfl, rfl⟩
  go_wp2_with fail
  go_at_call 20
  refine (same11_left _ _).mono ?_
  rintro e w' ⟨rfl, rfl⟩
  go_wp2_with fail
  go_at_call 20
  refine (same11_right _ _).mono ?_
  rintro e w' ⟨rfl, rfl⟩
  go_wp2_with fail
  go_at_call 6
  refine (alive11 _).mono ?_
  rintro e w4 ⟨rfl, hb4⟩
  have HB4 := Lib.hid (below_on HB1.out hb4)
  clear hb4
  go_wp2
  go_ret
  exact ⟨rfl, HB4.out⟩

#print axioms alive11
#print axioms gateNobody_any
end Go.Proofs.Ytaimhaokielhgaa
