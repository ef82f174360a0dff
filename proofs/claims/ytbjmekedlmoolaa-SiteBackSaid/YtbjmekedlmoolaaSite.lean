/-
  Layer 8 (site): the address map in numbers; contracts of within, Right (program and reference), plan, has, partOf, spot.
  Conditions: those that each theorem states.
-/
import Derived.Test.YtbjmekedlmoolaaOnly
namespace Go.Proofs.Ytbjmekedlmoolaa
open Go.ChangeShapes Go.WideShapes Go.ChangeAt Go.RowKit

/-- A plan is valid. -/
def okPlan (c n l : Int) : Prop := 1 ≤ c ∧ c ≤ 8 ∧ 1 ≤ n ∧ n ≤ 65536 ∧ 1 ≤ l ∧ l ≤ 16

/-- The spot (k, i, r) lies at the address a. -/
def IsSpot (c n l a k i r : Int) : Prop :=
  (k = 1 ∧ i = 0 ∧ r = a ∧ 0 ≤ a ∧ a < n) ∨ (k = 2 ∧ 0 ≤ i ∧ i < c ∧ 0 ≤ r ∧ r < 3 ∧ a = 65536 + 16 * i + r) ∨
  (k = 3 ∧ 0 ≤ i ∧ i < l ∧ r = 0 ∧ a = 65792 + i) ∨ (k = 4 ∧ 0 ≤ i ∧ i < c ∧ r = 0 ∧ a = 66048 + i)

/-- What Decode answers. -/
def Dec (c n l a k i r : Int) (b : Bool) : Prop :=
  (b = true ∧ okPlan c n l ∧ IsSpot c n l a k i r) ∨ (b = false ∧ k = 0 ∧ i = 0 ∧ r = 0 ∧ (okPlan c n l → ∀ k i r, ¬ IsSpot c n l a k i r))

theorem Dec.eq {c n l a k i r k' i' r' : Int} {b b' : Bool} (h : Dec c n l a k i r b) (h' : Dec c n l a k' i' r' b') : k = k' ∧ i = i' ∧ r = r' ∧ b = b' := by
  rcases h with ⟨rfl, ho, hs⟩ | ⟨rfl, rfl, rfl, rfl, hn⟩ <;> rcases h' with ⟨rfl, ho', hs'⟩ | ⟨rfl, rfl, rfl, rfl, hn'⟩
  · unfold okPlan at ho; unfold IsSpot at hs hs'; refine ⟨?_, ?_, ?_, rfl⟩ <;> omega
  · exact absurd hs (hn' ho _ _ _)
  · exact absurd hs' (hn ho' _ _ _)
  · exact ⟨rfl, rfl, rfl, rfl⟩

/-- What Encode answers. -/
def Enc (c n l k i r a : Int) (b : Bool) : Prop :=
  (b = true ∧ okPlan c n l ∧ IsSpot c n l a k i r) ∨ (b = false ∧ a = 0 ∧ (okPlan c n l → ∀ a, ¬ IsSpot c n l a k i r))

theorem Enc.eq {c n l a k i r a' : Int} {b b' : Bool} (h : Enc c n l k i r a b) (h' : Enc c n l k i r a' b') : a = a' ∧ b = b' := by
  rcases h with ⟨rfl, ho, hs⟩ | ⟨rfl, rfl, hn⟩ <;> rcases h' with ⟨rfl, ho', hs'⟩ | ⟨rfl, rfl, hn'⟩
  · unfold IsSpot at hs hs'; refine ⟨?_, rfl⟩; omega
  · exact absurd hs (hn' ho _)
  · exact absurd hs' (hn ho' _)
  · exact ⟨rfl, rfl⟩

def v3 (a b c : Int) : Value := .agg #[.int .i64 a, .int .i64 b, .int .i64 c]
def v4 (a b c d : Int) : Value := .agg #[.int .i64 a, .int .i64 b, .int .i64 c, .int .i64 d]

instance (c n l : Int) : Decidable (okPlan c n l) := by unfold okPlan; infer_instance

set_option maxRecDepth 100000 in
set_option maxHeartbeats 400000 in
theorem within_any (n m : Int) (w : World) :
    Calls Try.prog 18 #[.int .i64 n, .int .i64 m] w fun e w' => e = .returned (.bool (decide (1 ≤ n ∧ n ≤ m))) ∧ w = w' := by
  by_cases h0 : 1 ≤ n
  · by_cases h1 : n ≤ m
    · have t0 : decide (1 ≤ n) = true := by simpa using h0
      have t1 : decide (n ≤ m) = true := by simpa using h1
      rw [decide_eq_true (⟨h0, h1⟩ : 1 ≤ n ∧ n ≤ m)]
      go_enter Try.func18, Try.ntmps18
      go_wp2
      go_ret
      exact ⟨rfl, rfl⟩
    · have t0 : decide (1 ≤ n) = true := by simpa using h0
      have t1 : decide (n ≤ m) = false := by simpa using h1
      rw [decide_eq_false (show ¬ (1 ≤ n ∧ n ≤ m) from fun h => h1 h.2)]
      go_enter Try.func18, Try.ntmps18
      go_wp2
      go_ret
      exact ⟨rfl, rfl⟩
  · have t0 : decide (1 ≤ n) = false := by simpa using h0
    rw [decide_eq_false (show ¬ (1 ≤ n ∧ n ≤ m) from fun h => h0 h.1)]
    go_enter Try.func18, Try.ntmps18
    go_wp2
    go_ret
    exact ⟨rfl, rfl⟩

set_option maxRecDepth 100000 in
set_option maxHeartbeats 400000 in
theorem right8_any (c n l : Int) (w : World) :
    Calls Try.prog 9 #[v3 c n l] w fun e w' => e = .returned (.bool (decide (okPlan c n l))) ∧ Below w.heap.size w w' := by
  unfold v3
  by_cases h0 : 1 ≤ c ∧ c ≤ 8
  · have W0 := Lib.hid (decide_eq_true h0)
    by_cases h1 : 1 ≤ n ∧ n ≤ 65536
    · have W1 := Lib.hid (decide_eq_true h1)
      by_cases h2 : 1 ≤ l ∧ l ≤ 16
      · have W2 := Lib.hid (decide_eq_true h2)
        rw [decide_eq_true (show okPlan c n l from ⟨h0.1, h0.2, h1.1, h1.2, h2⟩)]
        clear h0 h1 h2
        go_enter Try.func9, Try.ntmps9
        go_wp2_with fail
        refine (within_any _ _ _).mono ?_
        rintro e w' ⟨rfl, rfl⟩
        rw [W0.out]
        go_wp2_with fail
        refine (within_any _ _ _).mono ?_
        rintro e w' ⟨rfl, rfl⟩
        rw [W1.out]
        go_wp2_with fail
        refine (within_any _ _ _).mono ?_
        rintro e w' ⟨rfl, rfl⟩
        rw [W2.out]
        go_wp2
        go_ret
        exact ⟨rfl, by go_grown⟩
      · have W2 := Lib.hid (decide_eq_false h2)
        rw [decide_eq_false (show ¬ okPlan c n l from fun h => h2 h.2.2.2.2)]
        clear h0 h1 h2
        go_enter Try.func9, Try.ntmps9
        go_wp2_with fail
        refine (within_any _ _ _).mono ?_
        rintro e w' ⟨rfl, rfl⟩
        rw [W0.out]
        go_wp2_with fail
        refine (within_any _ _ _).mono ?_
        rintro e w' ⟨rfl, rfl⟩
        rw [W1.out]
        go_wp2_with fail
        refine (within_any _ _ _).mono ?_
        rintro e w' ⟨rfl, rfl⟩
        rw [W2.out]
        go_wp2
        go_ret
        exact ⟨rfl, by go_grown⟩
    · have W1 := Lib.hid (decide_eq_false h1)
      rw [decide_eq_false (show ¬ okPlan c n l from fun h => h1 ⟨h.2.2.1, h.2.2.2.1⟩)]
      clear h0 h1
      go_enter Try.func9, Try.ntmps9
      go_wp2_with fail
      refine (within_any _ _ _).mono ?_
      rintro e w' ⟨rfl, rfl⟩
      rw [W0.out]
      go_wp2_with fail
      refine (within_any _ _ _).mono ?_
      rintro e w' ⟨rfl, rfl⟩
      rw [W1.out]
      go_wp2
      go_ret
      exact ⟨rfl, by go_grown⟩
  · have W0 := Lib.hid (decide_eq_false h0)
    rw [decide_eq_false (show ¬ okPlan c n l from fun h => h0 ⟨h.1, h.2.1⟩)]
    clear h0
    go_enter Try.func9, Try.ntmps9
    go_wp2_with fail
    refine (within_any _ _ _).mono ?_
    rintro e w' ⟨rfl, rfl⟩
    rw [W0.out]
    go_wp2
    go_ret
    exact ⟨rfl, by go_grown⟩

set_option maxRecDepth 100000 in
set_option maxHeartbeats 400000 in
theorem rright8_any (c n l : Int) (w : World) :
    Calls Try.prog 10 #[v3 c n l] w fun e w' => e = .returned (.bool (decide (okPlan c n l))) ∧ Below w.heap.size w w' := by
  unfold v3
  by_cases h : okPlan c n l
  · rw [decide_eq_true h]
    obtain ⟨h0, h1, h2, h3, h4, h5⟩ := h
    have t0 := decide_eq_true h0
    have t1 := decide_eq_true h1
    have t2 := decide_eq_true h2
    have t3 := decide_eq_true h3
    have t4 := decide_eq_true h4
    have t5 := decide_eq_true h5
    go_enter Try.func10, Try.ntmps10
    go_wp2
    go_ret
    exact ⟨rfl, by go_grown⟩
  · rw [decide_eq_false h]
    unfold okPlan at h
    have hc : ¬ 1 ≤ c ∨ 1 ≤ c ∧ ¬ c ≤ 8 ∨ 1 ≤ c ∧ c ≤ 8 ∧ ¬ 1 ≤ n ∨ 1 ≤ c ∧ c ≤ 8 ∧ 1 ≤ n ∧ ¬ n ≤ 65536 ∨ 1 ≤ c ∧ c ≤ 8 ∧ 1 ≤ n ∧ n ≤ 65536 ∧ ¬ 1 ≤ l ∨ 1 ≤ c ∧ c ≤ 8 ∧ 1 ≤ n ∧ n ≤ 65536 ∧ 1 ≤ l ∧ ¬ l ≤ 16 := by omega
    clear h
    rcases hc with h0 | ⟨h0, h1⟩ | ⟨h0, h1, h2⟩ | ⟨h0, h1, h2, h3⟩ | ⟨h0, h1, h2, h3, h4⟩ | ⟨h0, h1, h2, h3, h4, h5⟩
    all_goals
      try (have t0 := decide_eq_true h0)
      try (have t0 := decide_eq_false h0)
      try (have t1 := decide_eq_true h1)
      try (have t1 := decide_eq_false h1)
      try (have t2 := decide_eq_true h2)
      try (have t2 := decide_eq_false h2)
      try (have t3 := decide_eq_true h3)
      try (have t3 := decide_eq_false h3)
      try (have t4 := decide_eq_true h4)
      try (have t4 := decide_eq_false h4)
      try (have t5 := decide_eq_false h5)
      go_enter Try.func10, Try.ntmps10
      go_wp2
      go_ret
      exact ⟨rfl, by go_grown⟩

set_option maxRecDepth 100000 in
set_option maxHeartbeats 400000 in
theorem plan_any (c n l : Int) (w : World) :
    Calls Try.prog 8 #[v3 c n l] w fun e w' => e = .returned (v3 c n l) ∧ Below w.heap.size w w' := by
  unfold v3
  go_enter Try.func8, Try.ntmps8
  go_wp2
  exact bodyPost_ret (v := .agg #[.int .i64 c, .int .i64 n, .int .i64 l]) (by simp [results, Try.results8, go_sem]) rfl ⟨rfl, by go_grown⟩

def hasP (I R i r : Int) : Prop := 0 ≤ i ∧ i < I ∧ 0 ≤ r ∧ r < R
instance (I R i r : Int) : Decidable (hasP I R i r) := by unfold hasP; infer_instance

set_option maxRecDepth 100000 in
set_option maxHeartbeats 400000 in
theorem has8_any (B I S R i r : Int) (w : World) :
    Calls Try.prog 19 #[v4 B I S R, .int .i64 i, .int .i64 r] w fun e w' => e = .returned (.bool (decide (hasP I R i r))) ∧ Below w.heap.size w w' := by
  unfold v4
  by_cases h : hasP I R i r
  · rw [decide_eq_true h]
    obtain ⟨h0, h1, h2, h3⟩ := h
    have t0 := decide_eq_true h0
    have t1 := decide_eq_true h1
    have t2 := decide_eq_true h2
    have t3 := decide_eq_true h3
    go_enter Try.func19, Try.ntmps19
    go_wp2
    go_ret
    exact ⟨rfl, by go_grown⟩
  · rw [decide_eq_false h]
    unfold hasP at h
    have hc : ¬ 0 ≤ i ∨ 0 ≤ i ∧ ¬ i < I ∨ 0 ≤ i ∧ i < I ∧ ¬ 0 ≤ r ∨ 0 ≤ i ∧ i < I ∧ 0 ≤ r ∧ ¬ r < R := by omega
    clear h
    rcases hc with h0 | ⟨h0, h1⟩ | ⟨h0, h1, h2⟩ | ⟨h0, h1, h2, h3⟩
    all_goals
      try (have t0 := decide_eq_true h0)
      try (have t0 := decide_eq_false h0)
      try (have t1 := decide_eq_true h1)
      try (have t1 := decide_eq_false h1)
      try (have t2 := decide_eq_true h2)
      try (have t2 := decide_eq_false h2)
      try (have t3 := decide_eq_false h3)
      go_enter Try.func19, Try.ntmps19
      go_wp2
      go_ret
      exact ⟨rfl, by go_grown⟩

#print axioms has8_any
end Go.Proofs.Ytbjmekedlmoolaa
