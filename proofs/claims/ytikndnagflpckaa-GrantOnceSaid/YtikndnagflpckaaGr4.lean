/-
  Layer 15 (grant): the law's do; alive (the chapter's example); GrantNobody.
  Conditions: those that each theorem states.
-/
import Derived.Test.YtikndnagflpckaaGr3
namespace Go.Proofs.Ytikndnagflpckaa
open Go.ChangeShapes Go.WideShapes Go.ChangeAt Go.RowKit

def opV15 (K x : Int) : Value := .agg #[.int .i64 K, .int .i64 x]
def b01 (b : Bool) : Int := if b then 1 else 0

/-- What a call makes of the slots, what it tells, and the error. -/
def dL15 (l : List (Int × Bool)) (K x : Int) : List (Int × Bool) := if K = 0 then giveL15 l x else if K = 1 ∨ K = 3 then dropL15 l x else if K = 2 then clearL15 l else l
def dV15 (l : List (Int × Bool)) (K x : Int) : Int := if K = 0 then giveV15 l x else if K = 1 ∨ K = 3 then 0 else if K = 2 then ((onL15 l l.length).length : Int) else slotV15 l x
def dE15 (l : List (Int × Bool)) (K x : Int) : Int := if K = 0 then b01 (giveB15 l x) else if K = 1 ∨ K = 3 then dropE15 l x else if K = 2 then 0 else b01 (slotB15 l x)

theorem giveL15_len (l : List (Int × Bool)) (x : Int) : (giveL15 l x).length = l.length := by unfold giveL15; split <;> simp
theorem dropL15_len (l : List (Int × Bool)) (x : Int) : (dropL15 l x).length = l.length := by
  unfold dropL15
  split
  · unfold offL15; split <;> simp
  · rfl
theorem dL15_len (l : List (Int × Bool)) (K x : Int) : (dL15 l K x).length = l.length := by
  unfold dL15; split; exact giveL15_len _ _; split; exact dropL15_len _ _; split; exact clearL15_len _; rfl

section
variable (g : Nat) (l : List (Int × Bool)) (K x : Int) (w : World)

set_option maxRecDepth 100000 in
set_option maxHeartbeats 1000000 in
theorem do15_0 (r : GrAt w g l) :
    Calls Try.prog 12 #[ptr g, opV15 0 x] w (GrP g (giveL15 l x) (.tuple #[.int .i64 (giveV15 l x), .int .i64 (b01 (giveB15 l x))]) w) := by
  have k1 := Lib.hid (give15_any g l x _ (r.below (below_al w (.cells #[.int .i64 0, .int .i64 x] 24))))
  have HB := Lib.hid (below_al w (.cells #[.int .i64 0, .int .i64 x] 24))
  obtain ⟨V, hV⟩ : ∃ V, giveV15 l x = V := ⟨_, rfl⟩
  cases hE : giveB15 l x
  all_goals
    rw [hV, hE] at k1
    rw [hV]
    clear r hE hV
    unfold b01
    unfold ptr opV15 at *
    go_enter Try.func12, Try.ntmps12
    go_wp2_with fail
    refine k1.out.mono ?_
    rintro e w1 ⟨rfl, hr1, ho1⟩
    have R1 := Lib.hid hr1
    have O1 := Lib.hid ho1
    clear hr1 ho1
    go_wp2
    go_ret2
    exact ⟨rfl, R1.out, (Only.of_below HB.out _).trans O1.out⟩

set_option maxRecDepth 100000 in
set_option maxHeartbeats 1000000 in
theorem do15_1 (hK : K = 1 ∨ K = 3) (r : GrAt w g l) :
    Calls Try.prog 12 #[ptr g, opV15 K x] w (GrP g (dropL15 l x) (.tuple #[.int .i64 0, .int .i64 (dropE15 l x)]) w) := by
  obtain ⟨E, hE⟩ : ∃ E, dropE15 l x = E := ⟨_, rfl⟩
  rcases hK with rfl | rfl
  · have k1 := Lib.hid (drop15_any g l x _ (r.below (below_al w (.cells #[.int .i64 1, .int .i64 x] 24))))
    have HB := Lib.hid (below_al w (.cells #[.int .i64 1, .int .i64 x] 24))
    rw [hE] at k1 ⊢
    clear r hE
    unfold ptr opV15 at *
    go_enter Try.func12, Try.ntmps12
    go_wp2_with fail
    refine k1.out.mono ?_
    rintro e w1 ⟨rfl, hr1, ho1⟩
    have R1 := Lib.hid hr1
    have O1 := Lib.hid ho1
    clear hr1 ho1
    go_wp2
    go_ret2
    exact ⟨rfl, R1.out, (Only.of_below HB.out _).trans O1.out⟩
  · have k1 := Lib.hid (drop15_any g l x _ (r.below (below_al w (.cells #[.int .i64 3, .int .i64 x] 24))))
    have HB := Lib.hid (below_al w (.cells #[.int .i64 3, .int .i64 x] 24))
    rw [hE] at k1 ⊢
    clear r hE
    unfold ptr opV15 at *
    go_enter Try.func12, Try.ntmps12
    go_wp2_with fail
    refine k1.out.mono ?_
    rintro e w1 ⟨rfl, hr1, ho1⟩
    have R1 := Lib.hid hr1
    have O1 := Lib.hid ho1
    clear hr1 ho1
    go_wp2
    go_ret2
    exact ⟨rfl, R1.out, (Only.of_below HB.out _).trans O1.out⟩

set_option maxRecDepth 100000 in
set_option maxHeartbeats 1000000 in
theorem do15_2 (r : GrAt w g l) :
    Calls Try.prog 12 #[ptr g, opV15 2 x] w (GrP g (clearL15 l) (.tuple #[.int .i64 ((onL15 l l.length).length : Int), .int .i64 0]) w) := by
  have k1 := Lib.hid (clear15_any g l _ (r.below (below_al w (.cells #[.int .i64 2, .int .i64 x] 24))))
  have HB := Lib.hid (below_al w (.cells #[.int .i64 2, .int .i64 x] 24))
  obtain ⟨N, hN⟩ : ∃ N, (onL15 l l.length).length = N := ⟨_, rfl⟩
  rw [hN] at k1 ⊢
  clear r hN
  unfold ptr opV15 at *
  go_enter Try.func12, Try.ntmps12
  go_wp2_with fail
  refine k1.out.mono ?_
  rintro e w1 ⟨rfl, hr1, ho1⟩
  have R1 := Lib.hid hr1
  have O1 := Lib.hid ho1
  clear hr1 ho1
  go_wp2
  go_ret2
  exact ⟨rfl, R1.out, (Only.of_below HB.out _).trans O1.out⟩

set_option maxRecDepth 100000 in
set_option maxHeartbeats 1000000 in
theorem do15_4 (r : GrAt w g l) (h0 : (K == 0) = false) (h1 : (K == 1) = false) (h2 : (K == 2) = false) (h3 : (K == 3) = false) :
    Calls Try.prog 12 #[ptr g, opV15 K x] w (GrP g l (.tuple #[.int .i64 (slotV15 l x), .int .i64 (b01 (slotB15 l x))]) w) := by
  have k1 := Lib.hid (slot15_any g l x _ (r.below (below_al w (.cells #[.int .i64 K, .int .i64 x] 24))))
  have HB := Lib.hid (below_al w (.cells #[.int .i64 K, .int .i64 x] 24))
  have R := Lib.hid r
  obtain ⟨V, hV⟩ : ∃ V, slotV15 l x = V := ⟨_, rfl⟩
  cases hE : slotB15 l x
  all_goals
    rw [hV, hE] at k1
    rw [hV]
    clear r hE hV
    unfold b01
    unfold ptr opV15 at *
    go_enter Try.func12, Try.ntmps12
    go_wp2_with fail
    refine k1.out.mono ?_
    rintro e w' ⟨rfl, rfl⟩
    go_wp2
    go_ret2
    exact ⟨rfl, R.out.below HB.out, Only.of_below HB.out _⟩

theorem do15_any (r : GrAt w g l) :
    Calls Try.prog 12 #[ptr g, opV15 K x] w (GrP g (dL15 l K x) (.tuple #[.int .i64 (dV15 l K x), .int .i64 (dE15 l K x)]) w) := by
  unfold dL15 dV15 dE15
  by_cases h0 : K = 0
  · subst h0
    simp only [if_true]
    exact do15_0 g l x w r
  · by_cases h1 : K = 1 ∨ K = 3
    · simp only [if_neg h0, if_pos h1]
      exact do15_1 g l K x w h1 r
    · by_cases h2 : K = 2
      · subst h2
        simp only [if_neg h0, if_neg h1, if_true]
        exact do15_2 g l x w r
      · simp only [if_neg h0, if_neg h1, if_neg h2]
        exact do15_4 g l K x w r (by simpa using h0) (by simp; omega) (by simpa using h2) (by simp; omega)
end

/-- The error of a call of a nil table. -/
def nE15 (K : Int) : Int := if K = 1 ∨ K = 3 then 1 else 0
theorem nE15_1 : nE15 1 = 1 := rfl
theorem nE15_3 : nE15 3 = 1 := rfl
theorem nE15_0 : nE15 0 = 0 := rfl
theorem nE15_no {K : Int} (h1 : K ≠ 1) (h3 : K ≠ 3) : nE15 K = 0 := if_neg (by omega)

set_option maxRecDepth 100000 in
set_option maxHeartbeats 1000000 in
theorem do15_nil (K x : Int) (w : World) :
    Calls Try.prog 12 #[.pointer none, opV15 K x] w fun e w' => e = .returned (.tuple #[.int .i64 0, .int .i64 (nE15 K)]) ∧ Below w.heap.size w w' := by
  have HB := Lib.hid (below_al w (.cells #[.int .i64 K, .int .i64 x] 24))
  have kg := Lib.hid (fun W => give15_nil x W)
  have kd := Lib.hid (fun W => drop15_nil x W)
  have kc := Lib.hid (fun W => clear15_nil W)
  have ks := Lib.hid (fun W => slot15_nil x W)
  unfold opV15
  by_cases h0 : K = 0
  · subst h0
    simp only [nE15_0]
    go_enter Try.func12, Try.ntmps12
    go_wp2_with fail
    refine (kg.out _).mono ?_
    rintro e w' ⟨rfl, rfl⟩
    go_wp2
    go_ret2
    exact ⟨rfl, HB.out⟩
  · by_cases h1 : K = 1
    · subst h1
      simp only [nE15_1]
      go_enter Try.func12, Try.ntmps12
      go_wp2_with fail
      refine (kd.out _).mono ?_
      rintro e w' ⟨rfl, rfl⟩
      go_wp2
      go_ret2
      exact ⟨rfl, HB.out⟩
    · by_cases h3 : K = 3
      · subst h3
        simp only [nE15_3]
        go_enter Try.func12, Try.ntmps12
        go_wp2_with fail
        refine (kd.out _).mono ?_
        rintro e w' ⟨rfl, rfl⟩
        go_wp2
        go_ret2
        exact ⟨rfl, HB.out⟩
      · simp only [nE15_no h1 h3]
        have q0 : (K == 0) = false := by simpa using h0
        have q1 : (K == 1) = false := by simpa using h1
        have q3 : (K == 3) = false := by simpa using h3
        by_cases h2 : K = 2
        · subst h2
          clear q0 q1 q3 h0 h1 h3
          go_enter Try.func12, Try.ntmps12
          go_wp2_with fail
          refine (kc.out _).mono ?_
          rintro e w' ⟨rfl, rfl⟩
          go_wp2
          go_ret2
          exact ⟨rfl, HB.out⟩
        · have q2 : (K == 2) = false := by simpa using h2
          clear h0 h1 h3 h2
          go_enter Try.func12, Try.ntmps12
          go_wp2_with fail
          refine (ks.out _).mono ?_
          rintro e w' ⟨rfl, rfl⟩
          go_wp2
          go_ret2
          exact ⟨rfl, HB.out⟩

/-! ### The chapter's example -/
def ea15 : List (Int × Bool) := [(0, false), (0, false), (1, true), (0, false)]
def eb15 : List (Int × Bool) := [(0, false), (0, false), (1, false), (0, false)]
def ec15 : List (Int × Bool) := [(0, false), (0, false), (2, true), (0, false)]
theorem ea15_give (g : Nat) (w : World) (r : GrAt w g (new15 4)) : Calls Try.prog 17 #[ptr g, .int .i64 2] w (GrP g ea15 (.tuple #[.int .i64 66, .bool true]) w) := by
  have h := give15_any g _ 2 w r
  rw [show giveL15 (new15 4) 2 = ea15 from by decide, show giveV15 (new15 4) 2 = 66 from by decide, show giveB15 (new15 4) 2 = true from by decide] at h
  exact h
theorem ea15_drop (g : Nat) (w : World) (r : GrAt w g ea15) : Calls Try.prog 20 #[ptr g, .int .i64 66] w (GrP g eb15 (.int .i64 0) w) := by
  have h := drop15_any g _ 66 w r
  rw [show dropL15 ea15 66 = eb15 from by decide, show dropE15 ea15 66 = 0 from by decide] at h
  exact h
theorem eb15_drop (g : Nat) (w : World) (r : GrAt w g eb15) : Calls Try.prog 20 #[ptr g, .int .i64 66] w (GrP g eb15 (.int .i64 7) w) := by
  have h := drop15_any g _ 66 w r
  rw [show dropL15 eb15 66 = eb15 from by decide, show dropE15 eb15 66 = 7 from by decide] at h
  exact h
theorem eb15_give (g : Nat) (w : World) (r : GrAt w g eb15) : Calls Try.prog 17 #[ptr g, .int .i64 2] w (GrP g ec15 (.tuple #[.int .i64 130, .bool true]) w) := by
  have h := give15_any g _ 2 w r
  rw [show giveL15 eb15 2 = ec15 from by decide, show giveV15 eb15 2 = 130 from by decide, show giveB15 eb15 2 = true from by decide] at h
  exact h

theorem below_tab15 {w w1 w2 : World} {g : Nat} (hb : Below w.heap.size w w1) (hn : w.heap.size ≤ g) (ho : Only (· = g) w1 w2) : Below w.heap.size w w2 :=
  Only.below hb ho hb.size (fun b hb h => by omega)

set_option maxRecDepth 100000 in
set_option maxHeartbeats 2000000 in
theorem alive15 (w : World) :
    Calls Try.prog 6 #[] w fun e w' => e = .returned (.bool true) ∧ Below w.heap.size w w' := by
  have nw : Calls Try.prog 7 #[.int .i64 4] w (Made15 (new15 4) w) := new15_yes 4 w (by omega) (by omega)
  have NW := Lib.hid nw
  clear nw
  go_enter Try.func6, Try.ntmps6
  go_wp2_with fail
  refine NW.out.mono ?_
  rintro e w1 ⟨g, rfl, hr1, hn1, hb1⟩
  have HN1 := Lib.hid hn1
  have HB1 := Lib.hid hb1
  have k1 := Lib.hid (ea15_give g w1 hr1)
  clear hr1 hn1 hb1
  unfold ptr at k1 ⊢
  go_wp2_with fail
  refine k1.out.mono ?_
  rintro e w2 ⟨rfl, hr2, ho2⟩
  have HB2 := Lib.hid (below_tab15 HB1.out HN1.out ho2)
  have k2 := Lib.hid (ea15_drop g w2 hr2)
  unfold ptr at k2
  clear hr2 ho2
  go_wp2_with fail
  refine k2.out.mono ?_
  rintro e w3 ⟨rfl, hr3, ho3⟩
  have HB3 := Lib.hid (below_tab15 HB2.out HN1.out ho3)
  have k3 := Lib.hid (eb15_drop g w3 hr3)
  unfold ptr at k3
  clear hr3 ho3
  go_wp2_with fail
  refine k3.out.mono ?_
  rintro e w4 ⟨rfl, hr4, ho4⟩
  have HB4 := Lib.hid (below_tab15 HB3.out HN1.out ho4)
  have k4 := Lib.hid (eb15_give g w4 hr4)
  unfold ptr at k4
  clear hr4 ho4
  go_wp2_with fail
  refine k4.out.mono ?_
  rintro e w5 ⟨rfl, hr5, ho5⟩
  have HB5 := Lib.hid (below_tab15 HB4.out HN1.out ho5)
  clear hr5 ho5
  go_wp2
  go_ret
  exact ⟨rfl, HB5.out⟩

set_option maxRecDepth 100000 in
set_option maxHeartbeats 4000000 in
theorem grantNobody_any (K x : Int) (w : World) :
    Calls Try.prog 5 #[opV15 K x] w fun e w' => e = .returned (.bool true) ∧ Below w.heap.size w w' := by
  have HB := Lib.hid (below_al w (.cells #[.int .i64 K, .int .i64 x] 24))
  have IR := Lib.hid (Row.new w 24 #[.int .i64 K, .int .i64 x])
  obtain ⟨W0, hW0⟩ : ∃ W0, w.alloc (.cells #[.int .i64 K, .int .i64 x] 24) = W0 := ⟨_, rfl⟩
  have DN := Lib.hid (fun W => do15_nil K x W)
  have al := Lib.hid (fun W => alive15 W)
  unfold opV15 at DN ⊢
  by_cases h1 : K = 1
  · subst h1
    simp only [nE15_1] at DN
    clear hW0
    go_enter Try.func5, Try.ntmps5
    go_wp2_with fail
    refine (DN.out _).mono ?_
    rintro e w1 ⟨rfl, hb1⟩
    have I1 := IR.out.below hb1
    have x0 := I1.cell 0
    simp only [List.getElem?_cons_zero] at x0
    have HB1 := Lib.hid (below_on HB.out hb1)
    clear I1 hb1
    go_wp2_with fail
    refine (len15_nil _).mono ?_
    rintro e w' ⟨rfl, rfl⟩
    go_wp2_with fail
    refine (held15_nil _).mono ?_
    rintro e w' ⟨rfl, rfl⟩
    go_wp2_with fail
    refine (clone15_nil _).mono ?_
    rintro e w' ⟨rfl, rfl⟩
    go_wp2_with fail
    refine (al.out _).mono ?_
    rintro e w4 ⟨rfl, hb4⟩
    have HB4 := Lib.hid (below_on HB1.out hb4)
    clear hb4
    go_wp2
    go_ret
    exact ⟨rfl, HB4.out⟩
  · by_cases h3 : K = 3
    · subst h3
      simp only [nE15_3] at DN
      clear hW0
      go_enter Try.func5, Try.ntmps5
      go_wp2_with fail
      refine (DN.out _).mono ?_
      rintro e w1 ⟨rfl, hb1⟩
      have I1 := IR.out.below hb1
      have x0 := I1.cell 0
      simp only [List.getElem?_cons_zero] at x0
      have HB1 := Lib.hid (below_on HB.out hb1)
      clear I1 hb1
      go_wp2_with fail
      refine (len15_nil _).mono ?_
      rintro e w' ⟨rfl, rfl⟩
      go_wp2_with fail
      refine (held15_nil _).mono ?_
      rintro e w' ⟨rfl, rfl⟩
      go_wp2_with fail
      refine (clone15_nil _).mono ?_
      rintro e w' ⟨rfl, rfl⟩
      go_wp2_with fail
      refine (al.out _).mono ?_
      rintro e w4 ⟨rfl, hb4⟩
      have HB4 := Lib.hid (below_on HB1.out hb4)
      clear hb4
      go_wp2
      go_ret
      exact ⟨rfl, HB4.out⟩
    · simp only [nE15_no h1 h3] at DN
      have q1 : (K == 1) = false := by simpa using h1
      have q3 : (K == 3) = false := by simpa using h3
      clear hW0 h1 h3
      go_enter Try.func5, Try.ntmps5
      go_wp2_with fail
      refine (DN.out _).mono ?_
      rintro e w1 ⟨rfl, hb1⟩
      have I1 := IR.out.below hb1
      have x0 := I1.cell 0
      simp only [List.getElem?_cons_zero] at x0
      have HB1 := Lib.hid (below_on HB.out hb1)
      clear I1 hb1
      go_wp2_with fail
      refine (len15_nil _).mono ?_
      rintro e w' ⟨rfl, rfl⟩
      go_wp2_with fail
      refine (held15_nil _).mono ?_
      rintro e w' ⟨rfl, rfl⟩
      go_wp2_with fail
      refine (clone15_nil _).mono ?_
      rintro e w' ⟨rfl, rfl⟩
      go_wp2_with fail
      refine (al.out _).mono ?_
      rintro e w4 ⟨rfl, hb4⟩
      have HB4 := Lib.hid (below_on HB1.out hb4)
      clear hb4
      go_wp2
      go_ret
      exact ⟨rfl, HB4.out⟩

#print axioms do15_any
#print axioms alive15
#print axioms grantNobody_any
end Go.Proofs.Ytikndnagflpckaa
