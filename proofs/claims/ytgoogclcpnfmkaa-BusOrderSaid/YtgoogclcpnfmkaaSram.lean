/-
  Contracts of the helpers of layer 3's laws: do, Words, alive.
  Conditions: those that each theorem states.
-/
import Derived.Test.YtgoogclcpnfmkaaRam5
namespace Go.Proofs.Ytgoogclcpnfmkaa
open Go.ChangeShapes Go.WideShapes Go.ChangeAt Go.RowKit

/-- A call as a value: its kind, address, number and word. -/
def opV (K a n x : Int) : Value := .agg #[.int .i64 K, .int .i64 a, .int .i64 n, .int .i64 x]
/-- The words behind a call, what is told, and the error. -/
def doL (l : List Int) (K a n x : Int) : List Int := if K = 0 then fillL l a 1 x else if K = 3 then fillL l a n x else l
def doT (l : List Int) (K a n : Int) : List Int := if K = 0 then [] else if K = 2 then spanL l a n else if K = 3 then [] else [loadV l a]
def doE (N K a n x : Int) : Int := if K = 0 then fillE N a 1 x else if K = 2 then runE N a n else if K = 3 then fillE N a n x else runE N a 1
theorem doL_len (l : List Int) (K a n x : Int) : (doL l K a n x).length = l.length := by
  unfold doL; split
  · exact fillL_len _ _ _ _
  · split
    · exact fillL_len _ _ _ _
    · rfl
theorem spanL_len (l : List Int) (a n : Int) : (spanL l a n).length ≤ l.length := by
  unfold spanL; split
  · simp; omega
  · simp
theorem doT_len (l : List Int) (K a n : Int) (h : l.length ≤ 65536) : (doT l K a n).length ≤ 65536 := by
  have := spanL_len l a n
  unfold doT; split
  · simp
  · split
    · omega
    · split <;> simp

/-- What a call leaves. -/
def DoP (g h : Nat) (l : List Int) (K a n x : Int) (w : World) (e : Ending) (w' : World) : Prop :=
  ∃ v, e = .returned (.tuple #[v, .int .i64 (doE l.length K a n x)]) ∧ Lies w' (w.heap.size ≤ ·) v (ints (doT l K a n)) ∧ RamAt w' g h (doL l K a n x) ∧ w.grownBy w' (some h)

/-- What a call of a nil memory leaves. -/
def DoNil (w : World) (e : Ending) (w' : World) : Prop :=
  ∃ v xs, e = .returned (.tuple #[v, .int .i64 1]) ∧ Lies w' (w.heap.size ≤ ·) v (ints xs) ∧ (∀ x ∈ xs, x = 0) ∧ xs.length ≤ 1 ∧ Below w.heap.size w w'

theorem spanL_all (l : List Int) : spanL l 0 l.length = l := by
  have : runE l.length 0 l.length = 0 := by unfold runE; rw [if_neg (by omega), if_neg (by omega)]
  unfold spanL; rw [if_pos this]; simp

set_option maxRecDepth 100000 in
set_option maxHeartbeats 400000 in
theorem words_any (g h : Nat) (l : List Int) (w : World) (r : RamAt w g h l) :
    Calls Try.prog 22 #[ptr g] w (NewP (ints l) w) := by
  have hl := r.len
  have sp := Lib.hid (span_any g h l 0 l.length w r (by omega))
  have sz := Lib.hid (size_any g h l w r)
  go_enter Try.func22, Try.ntmps22
  go_wp2_with (first
    | (go_at_call 62; refine sz.out.mono ?_; rintro e w' ⟨rfl, rfl⟩)
    | (go_at_call 61; refine sp.out.mono ?_; rintro e w' ⟨v, rfl, hv, hb⟩))
  go_ret
  rw [spanL_all] at hv
  exact ⟨_, rfl, hv, hb⟩

#print axioms words_any
end Go.Proofs.Ytgoogclcpnfmkaa
