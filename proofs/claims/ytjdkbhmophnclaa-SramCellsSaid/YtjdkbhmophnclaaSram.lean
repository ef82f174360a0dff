/-
  Contracts of the helpers of layer 3's laws: do, Words, alive.
  Conditions: those that each theorem states.
-/
import Derived.Test.YtjdkbhmophnclaaRam5
namespace Go.Proofs.Ytjdkbhmophnclaa
open Go.ChangeShapes Go.WideShapes Go.ChangeAt Go.RowKit

/-- A call as a value: its kind, address, number and word. -/
def opV (K a n x : Int) : Value := .agg #[.int .i64 K, .int .i64 a, .int .i64 n, .int .i64 x]
/-- The words behind a call, what is told, and the error. -/
def doL (l : List Int) (K a n x : Int) : List Int := if K = 0 then fillL l a 1 x else if K = 3 then fillL l a n x else l
def doT (l : List Int) (K a n : Int) : List Int := if K = 0 then [] else if K = 2 then spanL l a n else if K = 3 then [] else [loadV l a]
def doE (N K a n x : Int) : Int := if K = 0 then fillE N a 1 x else if K = 2 then runE N a n else if K = 3 then fillE N a n x else runE N a 1
theorem doL_len (l : List Int) (K a n x : Int) : (doL l K a n x).length = l.length := by
  unfold doL; split
  · exact fillL_len _ _ _ _
  · split
    · exact fillL_len _ _ _ _
    · rfl
theorem spanL_len (l : List Int) (a n : Int) : (spanL l a n).length ≤ l.length := by
  unfold spanL; split
  · simp; omega
  · simp
theorem doT_len (l : List Int) (K a n : Int) (h : l.length ≤ 65536) : (doT l K a n).length ≤ 65536 := by
  have := spanL_len l a n
  unfold doT; split
  · simp
  · split
    · omega
    · split <;> simp

/-- What a call leaves. -/
def DoP (g h : Nat) (l : List Int) (K a n x : Int) (w : World) (e : Ending) (w' : World) : Prop :=
  ∃ v, e = .returned (.tuple #[v, .int .i64 (doE l.length K a n x)]) ∧ Lies w' (w.heap.size ≤ ·) v (ints (doT l K a n)) ∧ RamAt w' g h (doL l K a n x) ∧ w.grownBy w' (some h)

set_option maxHeartbeats 1000000 in
theorem do_any (g h : Nat) (l : List Int) (K a n x : Int) (w : World) (r : RamAt w g h l) (hn : n ≤ 9223372036854775807) :
    Calls Try.prog 12 #[ptr g, opV K a n x] w (DoP g h l K a n x w) := by
  have rr := Lib.hid (fun o : Obj => r.below ((Below.refl _ _).alloc (Nat.le_refl _) o))
  have hsz := r.low.lt
  clear r
  unfold opV
  by_cases h0 : K = 0
  · subst h0
    go_enter Try.func12, Try.ntmps12
    go_wp2_with (go_at_call 20; refine (store_any g h l a x _ (rr.out _)).mono ?_; rintro e w' ⟨rfl, hr, hg⟩)
    go_ret2
    exact ⟨_, rfl, Lies.nil_ _ _, hr, gr_trans (gr_alloc (gr_refl _ _) _) hg⟩
  · by_cases h2 : K = 2
    · subst h2
      clear h0
      go_enter Try.func12, Try.ntmps12
      go_wp2_with (go_at_call 21; refine (span_any g h l a n _ (rr.out _) hn).mono ?_; rintro e w' ⟨v, rfl, hv, hb⟩)
      go_ret2
      exact ⟨_, rfl, hv.weak (fun q _ hq => by simp at hq; omega), (rr.out _).below hb, gr_below (below_on ((Below.refl _ _).alloc (Nat.le_refl _) _) hb) _⟩
    · by_cases h3 : K = 3
      · subst h3
        clear h0 h2
        go_enter Try.func12, Try.ntmps12
        go_wp2_with (go_at_call 26; refine (fill_any g h l a n x _ (rr.out _) hn).mono ?_; rintro e w' ⟨rfl, hr, hg⟩)
        go_ret2
        exact ⟨_, rfl, Lies.nil_ _ _, hr, gr_trans (gr_alloc (gr_refl _ _) _) hg⟩
      · have b0 : (K == 0) = false := by simpa using h0
        have b2 : (K == 2) = false := by simpa using h2
        have b3 : (K == 3) = false := by simpa using h3
        have e1 : doL l K a n x = l := by unfold doL; rw [if_neg h0, if_neg h3]
        have e2 : doT l K a n = [loadV l a] := by unfold doT; rw [if_neg h0, if_neg h2, if_neg h3]
        have e3 : doE l.length K a n x = runE l.length a 1 := by unfold doE; rw [if_neg h0, if_neg h2, if_neg h3]
        have E1 := Lib.hid e1; clear e1
        have E2 := Lib.hid e2; clear e2
        have E3 := Lib.hid e3; clear e3 h0 h2 h3
        go_enter Try.func12, Try.ntmps12
        go_wp2_with (go_at_call 19; refine (load_any g h l a _ (rr.out _)).mono ?_; rintro e w' ⟨rfl, rfl⟩)
        go_ret2
        refine ⟨_, by rw [E3.out]; rfl, ?_, ?_, gr_alloc (gr_alloc (gr_refl _ _) _) _⟩
        · rw [E2.out]
          exact Lies.fresh _ (w.heap.size ≤ ·) 3 [.int .i64 (loadV l a)] (w.heap.size + 1) (by simp) (by omega) 1
        · rw [E1.out]
          exact (rr.out _).below ((Below.refl _ _).alloc (Nat.le_refl _) _)

/-- What a call of a nil memory leaves. -/
def DoNil (w : World) (e : Ending) (w' : World) : Prop :=
  ∃ v xs, e = .returned (.tuple #[v, .int .i64 1]) ∧ Lies w' (w.heap.size ≤ ·) v (ints xs) ∧ (∀ x ∈ xs, x = 0) ∧ xs.length ≤ 1 ∧ Below w.heap.size w w'

set_option maxHeartbeats 1000000 in
theorem do_nil (K a n x : Int) (w : World) :
    Calls Try.prog 12 #[.pointer none, opV K a n x] w (DoNil w) := by
  unfold opV
  by_cases h0 : K = 0
  · subst h0
    go_enter Try.func12, Try.ntmps12
    go_wp2_with (go_at_call 20; refine (store_nil a x _).mono ?_; rintro e w' ⟨rfl, rfl⟩)
    go_ret2
    exact ⟨_, [], rfl, Lies.nil_ _ _, by simp, by simp, by go_grown⟩
  · by_cases h2 : K = 2
    · subst h2
      clear h0
      go_enter Try.func12, Try.ntmps12
      go_wp2_with (go_at_call 21; refine (span_nil a n _).mono ?_; rintro e w' ⟨rfl, rfl⟩)
      go_ret2
      exact ⟨_, [], rfl, Lies.nil_ _ _, by simp, by simp, by go_grown⟩
    · by_cases h3 : K = 3
      · subst h3
        clear h0 h2
        go_enter Try.func12, Try.ntmps12
        go_wp2_with (go_at_call 26; refine (fill_nil a n x _).mono ?_; rintro e w' ⟨rfl, rfl⟩)
        go_ret2
        exact ⟨_, [], rfl, Lies.nil_ _ _, by simp, by simp, by go_grown⟩
      · have b0 : (K == 0) = false := by simpa using h0
        have b2 : (K == 2) = false := by simpa using h2
        have b3 : (K == 3) = false := by simpa using h3
        clear h0 h2 h3
        go_enter Try.func12, Try.ntmps12
        go_wp2_with (go_at_call 19; refine (load_nil a _).mono ?_; rintro e w' ⟨rfl, rfl⟩)
        go_ret2
        refine ⟨_, [0], rfl, ?_, by simp, by simp, by go_grown⟩
        exact Lies.fresh _ (w.heap.size ≤ ·) 3 [.int .i64 0] (w.heap.size + 1) (by simp) (by omega) 1

theorem spanL_all (l : List Int) : spanL l 0 l.length = l := by
  have : runE l.length 0 l.length = 0 := by unfold runE; rw [if_neg (by omega), if_neg (by omega)]
  unfold spanL; rw [if_pos this]; simp

set_option maxHeartbeats 400000 in
theorem words_any (g h : Nat) (l : List Int) (w : World) (r : RamAt w g h l) :
    Calls Try.prog 14 #[ptr g] w (NewP (ints l) w) := by
  have hl := r.len
  have sp := Lib.hid (span_any g h l 0 l.length w r (by omega))
  have sz := Lib.hid (size_any g h l w r)
  go_enter Try.func14, Try.ntmps14
  go_wp2_with (first
    | (go_at_call 10; refine sz.out.mono ?_; rintro e w' ⟨rfl, rfl⟩)
    | (go_at_call 21; refine sp.out.mono ?_; rintro e w' ⟨v, rfl, hv, hb⟩))
  go_ret
  rw [spanL_all] at hv
  exact ⟨_, rfl, hv, hb⟩

#print axioms do_any
#print axioms words_any
end Go.Proofs.Ytjdkbhmophnclaa
