/-
  Contracts of the helpers of layer 4's laws: do, the reference's Do, alive.
  Conditions: those that each theorem states.
-/
import Derived.Test.YteknnofeichmlaaRLane
namespace Go.Proofs.Yteknnofeichmlaa
open Go.ChangeShapes Go.WideShapes Go.ChangeAt Go.RowKit

/-- A call as a value: its kind and number. -/
def opV4 (K x : Int) : Value := .agg #[.int .i64 K, .int .i64 x]
/-- The queue behind a call, what is told, and the error. -/
def doQ (N : Nat) (q : List Int) (K x : Int) : List Int := if K = 0 then putQ N q x else if K = 1 then q.tail else if K = 2 then [] else q
def doX (q : List Int) (K x : Int) : Int := if K = 0 then 0 else if K = 1 then takeV q else if K = 2 then q.length else atV q x
def doF (N : Nat) (q : List Int) (K x : Int) : Int := if K = 0 then putE N q else if K = 1 then takeE q else if K = 2 then 0 else if atB q x then 1 else 0

theorem doQ_len (N : Nat) (q : List Int) (K x : Int) (h : q.length ≤ N) : (doQ N q K x).length ≤ N := by
  unfold doQ putQ
  split
  · split
    · exact h
    · simp; omega
  · split
    · simp; omega
    · split
      · simp
      · exact h

set_option maxHeartbeats 1000000 in
theorem do4_any (g h N : Nat) (q : List Int) (K x : Int) (w : World) (r : LaneQ w g h N q) :
    Calls Try.prog 11 #[ptr g, opV4 K x] w (LaneP g h N (doQ N q K x) (.tuple #[.int .i64 (doX q K x), .int .i64 (doF N q K x)]) w) := by
  have rr := Lib.hid (fun o : Obj => r.below (below_al w o))
  have hf := r.fit
  clear r
  unfold opV4
  by_cases h0 : K = 0
  · subst h0
    go_enter Try.func11, Try.ntmps11
    go_wp2_with (go_at_call 16; refine (put_any g h N q x _ (rr.out _)).mono ?_; rintro e w' ⟨rfl, hr, hg⟩)
    go_ret2
    exact ⟨rfl, hr, (Only.of_below (below_al _ _) _).trans hg⟩
  · by_cases h1 : K = 1
    · subst h1
      clear h0
      go_enter Try.func11, Try.ntmps11
      go_wp2_with (go_at_call 17; refine (take_any g h N q _ (rr.out _)).mono ?_; rintro e w' ⟨rfl, hr, hg⟩)
      go_ret2
      exact ⟨rfl, hr, (Only.of_below (below_al _ _) _).trans hg⟩
    · by_cases h2 : K = 2
      · subst h2
        clear h0 h1
        go_enter Try.func11, Try.ntmps11
        go_wp2_with (go_at_call 21; refine (clear_any g h N q _ (rr.out _)).mono ?_; rintro e w' ⟨rfl, hr, hg⟩)
        go_ret2
        exact ⟨rfl, hr, (Only.of_below (below_al _ _) _).trans hg⟩
      · have b0 : (K == 0) = false := by simpa using h0
        have b1 : (K == 1) = false := by simpa using h1
        have b2 : (K == 2) = false := by simpa using h2
        have e1 : doQ N q K x = q := by unfold doQ; rw [if_neg h0, if_neg h1, if_neg h2]
        have e2 : doX q K x = atV q x := by unfold doX; rw [if_neg h0, if_neg h1, if_neg h2]
        have e3 : doF N q K x = if atB q x then 1 else 0 := by unfold doF; rw [if_neg h0, if_neg h1, if_neg h2]
        have E1 := Lib.hid e1
        have E2 := Lib.hid e2
        clear e1 e2 h0 h1 h2
        cases hb : atB q x
        · have e4 : doF N q K x = 0 := by rw [e3, hb]; rfl
          have e5 : atV q x = 0 := by unfold atV; rw [hb]; rfl
          have E3 := Lib.hid e4
          have E5 := Lib.hid e5
          have HB := Lib.hid hb
          clear e3 e4 e5 hb
          go_enter Try.func11, Try.ntmps11
          go_wp2_with (go_at_call 22; refine (at_no g h N q x _ (rr.out _) HB.out).mono ?_; rintro e w' ⟨rfl, m, rfl⟩)
          go_ret2
          refine ⟨by rw [E2.out, E3.out, E5.out]; rfl, ?_, (Only.of_below (below_al _ _) _).drewN _⟩
          rw [E1.out]
          exact (rr.out _).below (below_q _ _)
        · have e4 : doF N q K x = 1 := by rw [e3, hb]; rfl
          have E3 := Lib.hid e4
          have HB := Lib.hid hb
          clear e3 e4 hb
          go_enter Try.func11, Try.ntmps11
          go_wp2_with (go_at_call 22; refine (at_yes g h N q x _ (rr.out _) HB.out).mono ?_; rintro e w' ⟨rfl, m, rfl⟩)
          go_ret2
          refine ⟨by rw [E2.out, E3.out]; rfl, ?_, (Only.of_below (below_al _ _) _).drewN _⟩
          rw [E1.out]
          exact (rr.out _).below (below_q _ _)

/-- What do of a nil queue answers. -/
def nilF (K : Int) : Int := if K = 0 then 1 else if K = 1 then 1 else 0

set_option maxHeartbeats 1000000 in
theorem do4_nil (K x : Int) (w : World) :
    Calls Try.prog 11 #[.pointer none, opV4 K x] w fun e w' => e = .returned (.tuple #[.int .i64 0, .int .i64 (nilF K)]) ∧ Below w.heap.size w w' := by
  unfold opV4
  by_cases h0 : K = 0
  · subst h0
    go_enter Try.func11, Try.ntmps11
    go_wp2_with (go_at_call 16; refine (put_nil x _).mono ?_; rintro e w' ⟨rfl, rfl⟩)
    go_ret2
    exact ⟨rfl, below_al _ _⟩
  · by_cases h1 : K = 1
    · subst h1
      clear h0
      go_enter Try.func11, Try.ntmps11
      go_wp2_with (go_at_call 17; refine (take_nil _).mono ?_; rintro e w' ⟨rfl, rfl⟩)
      go_ret2
      exact ⟨rfl, below_al _ _⟩
    · have e1 : nilF K = 0 := by unfold nilF; rw [if_neg h0, if_neg h1]
      have E1 := Lib.hid e1; clear e1
      have b0 : (K == 0) = false := by simpa using h0
      have b1 : (K == 1) = false := by simpa using h1
      by_cases h2 : K = 2
      · subst h2
        clear h0 h1
        go_enter Try.func11, Try.ntmps11
        go_wp2_with (go_at_call 21; refine (clear_nil _).mono ?_; rintro e w' ⟨rfl, rfl⟩)
        go_ret2
        exact ⟨rfl, below_al _ _⟩
      · have b2 : (K == 2) = false := by simpa using h2
        clear h0 h1 h2
        go_enter Try.func11, Try.ntmps11
        go_wp2_with (go_at_call 22; refine (at_nil x _).mono ?_; rintro e w' ⟨rfl, rfl⟩)
        go_ret2
        exact ⟨by rw [E1.out]; rfl, below_al _ _⟩

theorem laneNew_two (w : World) : Calls Try.prog 7 #[.int .i64 2] w (LaneNewP 2 w) := laneNew_yes 2 w (by omega) (by omega)

set_option maxHeartbeats 1000000 in
theorem lane_alive (w : World) :
    Calls Try.prog 6 #[] w fun e w' => e = .returned (.bool true) ∧ Below w.heap.size w w' := by
  go_enter Try.func6, Try.ntmps6
  go_wp2_with fail
  refine (laneNew_two w).mono ?_
  rintro e w1 ⟨g, h, rfl, r1, hg, hh, hb1⟩
  have hs1 := hb1.size
  have p1 := Lib.hid (put_room g h 2 [] 5 w1 r1 (by decide))
  unfold ptr at p1 ⊢
  go_wp2_with fail
  refine p1.out.mono ?_
  rintro e w2 ⟨rfl, r2, ho2⟩
  have hb2 := Only.below hb1 ho2 hs1 (by omega)
  have p2 := Lib.hid (put_room g h 2 [5] 7 w2 r2 (by decide))
  unfold ptr at p2
  clear p1
  go_wp2_with fail
  refine p2.out.mono ?_
  rintro e w3 ⟨rfl, r3, ho3⟩
  have hb3 := Only.below hb2 ho3 hb2.size (by omega)
  have p3 := Lib.hid (put_full g h 2 [5, 7] 9 w3 r3 rfl)
  unfold ptr at p3
  clear p2
  go_wp2_with fail
  refine p3.out.mono ?_
  rintro e w4 ⟨rfl, r4, ho4⟩
  have hb4 := Only.below hb3 ho4 hb3.size (by omega)
  have p4 := Lib.hid (take_some g h 2 5 [7] w4 r4)
  unfold ptr at p4
  clear p3
  go_wp2_with fail
  refine p4.out.mono ?_
  rintro e w5 ⟨rfl, r5, ho5⟩
  have hb5 := Only.below hb4 ho5 hb4.size (by omega)
  have p5 := Lib.hid (len_any g h 2 [7] w5 r5)
  unfold ptr at p5
  clear p4
  go_wp2_with fail
  refine p5.out.mono ?_
  rintro e w6 ⟨rfl, rfl⟩
  go_wp2
  go_ret
  exact ⟨rfl, hb5⟩

#print axioms do4_any
#print axioms do4_nil
#print axioms lane_alive
end Go.Proofs.Yteknnofeichmlaa
