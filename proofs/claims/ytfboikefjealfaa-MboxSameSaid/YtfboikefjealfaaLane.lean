/-
  Contracts of layer 4 (lane): New, Cap, Len, place, Put, Take, At, Clear, for a queue that is known whole, and for a nil queue.
  Conditions: those that each theorem states.
-/
import Derived.Test.YtfboikefjealfaaOnly
namespace Go.Proofs.Ytfboikefjealfaa
open Go.ChangeShapes Go.WideShapes Go.ChangeAt Go.RowKit

/-- A queue: its struct is block g, its ring is block h; its elements are q. -/
structure LaneAt (w : World) (g h N f : Nat) (ring q : List Int) : Prop where
  top : Row w g 86 [.slice (some ⟨h, 0, none⟩) N N, .int .i64 f, .int .i64 q.length]
  low : Row w h 3 (ints ring)
  len : ring.length = N
  pos : 1 ≤ N
  most : N ≤ 64
  fst : f < N
  fit : q.length ≤ N
  at_ : ∀ i, i < q.length → ring[(f + i) % N]? = q[i]?

def LaneQ (w : World) (g h N : Nat) (q : List Int) : Prop := ∃ f ring, LaneAt w g h N f ring q

theorem LaneAt.ne {w : World} {g h N f : Nat} {ring q : List Int} (r : LaneAt w g h N f ring q) : g ≠ h := r.top.ne r.low (by decide)
theorem LaneAt.only {S : Nat → Prop} {w w' : World} {g h N f : Nat} {ring q : List Int} (r : LaneAt w g h N f ring q) (ho : Only S w w') (h1 : ¬ S g) (h2 : ¬ S h) : LaneAt w' g h N f ring q :=
  ⟨r.top.only ho h1, r.low.only ho h2, r.len, r.pos, r.most, r.fst, r.fit, r.at_⟩
theorem LaneAt.below {w w' : World} {g h N f : Nat} {ring q : List Int} (r : LaneAt w g h N f ring q) (hb : Below w.heap.size w w') : LaneAt w' g h N f ring q :=
  r.only (Only.of_below hb (fun _ => False)) (fun h => h) (fun h => h)
theorem LaneQ.below {w w' : World} {g h N : Nat} {q : List Int} (r : LaneQ w g h N q) (hb : Below w.heap.size w w') : LaneQ w' g h N q := by
  obtain ⟨f, ring, r⟩ := r
  exact ⟨f, ring, r.below hb⟩
theorem LaneQ.only {S : Nat → Prop} {w w' : World} {g h N : Nat} {q : List Int} (r : LaneQ w g h N q) (ho : Only S w w') (h1 : ¬ S g) (h2 : ¬ S h) : LaneQ w' g h N q := by
  obtain ⟨f, ring, r⟩ := r
  exact ⟨f, ring, r.only ho h1 h2⟩
theorem LaneQ.fit {w : World} {g h N : Nat} {q : List Int} (r : LaneQ w g h N q) : q.length ≤ N ∧ 1 ≤ N ∧ N ≤ 64 ∧ g < w.heap.size ∧ h < w.heap.size := by
  obtain ⟨f, ring, r⟩ := r
  exact ⟨r.fit, r.pos, r.most, r.top.lt, r.low.lt⟩

set_option maxRecDepth 100000 in
set_option maxHeartbeats 400000 in
theorem laneNew_no (n : Int) (w : World) (h : n < 1 ∨ 64 < n) :
    Calls Try.prog 21 #[.int .i64 n] w fun e w' => e = .returned (.pointer none) ∧ w = w' := by
  rcases h with h | h
  · go_enter Try.func21, Try.ntmps21
    go_wp2
    go_ret
    exact ⟨rfl, rfl⟩
  · have h' : ¬ n < 1 := by omega
    go_enter Try.func21, Try.ntmps21
    go_wp2
    go_ret
    exact ⟨rfl, rfl⟩

/-- What New leaves. -/
def LaneNewP (N : Nat) (w : World) (e : Ending) (w' : World) : Prop :=
  ∃ g h, e = .returned (ptr g) ∧ LaneQ w' g h N [] ∧ w.heap.size ≤ g ∧ w.heap.size ≤ h ∧ Below w.heap.size w w'

set_option maxRecDepth 100000 in
set_option maxHeartbeats 400000 in
theorem laneNew_yes (n : Nat) (w : World) (h0 : 1 ≤ n) (h1 : n ≤ 64) :
    Calls Try.prog 21 #[.int .i64 (n : Int)] w (LaneNewP n w) := by
  have hmk := fun W => run_make_row' (P := Try.prog) 84 3 (.int .i64 0) 8 Try.underlying84 int_info rfl .i64 .i64 n (by omega) (by omega) W
  have g1 : ¬ ((n : Int) < 1) := by omega
  have g2 : ¬ (64 < (n : Int)) := by omega
  go_enter Try.func21, Try.ntmps21
  go_wp2
  go_ret
  refine ⟨w.heap.size + 1, w.heap.size, rfl, ⟨0, List.replicate n 0, ⟨?_, ?_, by simp, h0, h1, by omega, by simp, by simp⟩⟩, by omega, Nat.le_refl _, ?_⟩
  · have := Row.new (w.alloc (.cells (madeCells #[Value.int .i64 0] n) 3)) 86 #[.slice (some ⟨w.heap.size, 0, none⟩) n n, .int .i64 0, .int .i64 0]
    simpa using this
  · have h1 := Row.new w 3 (madeCells #[Value.int .i64 0] n)
    rw [ints_zeros] at h1
    exact h1.of_grown (gr_alloc (gr_refl _ none) _) (by simp)
  · exact ((Below.refl _ _).alloc (Nat.le_refl _) _).alloc (by simp) _

set_option maxRecDepth 100000 in
set_option maxHeartbeats 400000 in
theorem len_nil (w : World) :
    Calls Try.prog 30 #[.pointer none] w fun e w' => e = .returned (.int .i64 0) ∧ w = w' := by
  go_enter Try.func30, Try.ntmps30
  go_wp2
  go_ret
  exact ⟨rfl, rfl⟩

set_option maxRecDepth 100000 in
set_option maxHeartbeats 400000 in
theorem len_any (g h N : Nat) (q : List Int) (w : World) (r : LaneQ w g h N q) :
    Calls Try.prog 30 #[ptr g] w fun e w' => e = .returned (.int .i64 q.length) ∧ w = w' := by
  obtain ⟨f, ring, r⟩ := r
  have hc : w.cell? ⟨g, 2, none⟩ = some (.int .i64 q.length) := r.top.cell 2
  unfold ptr
  go_enter Try.func30, Try.ntmps30
  go_wp2
  go_ret
  exact ⟨rfl, rfl⟩

set_option maxRecDepth 100000 in
set_option maxHeartbeats 400000 in
theorem place_cells (g h N f : Nat) (i : Nat) (w : World) (hc : w.cell? ⟨g, 0, none⟩ = some (.slice (some ⟨h, 0, none⟩) N N)) (hc1 : w.cell? ⟨g, 1, none⟩ = some (.int .i64 f)) (hp : 1 ≤ N) (hm : N ≤ 64) (hf : f < N) (hi : i ≤ 64) :
    Calls Try.prog 47 #[.pointer (some ⟨g, 0, none⟩), .int .i64 (i : Int)] w fun e w' => e = .returned (.int .i64 (((f + i) % N : Nat) : Int)) ∧ ∃ m, w' = w.drewN m := by
  have e1 : IntKind.i64.wrap ((f : Int) + (i : Int)) = (f : Int) + (i : Int) := IntWalk.i64_in _ (by omega)
  have e2 : ((f : Int) + (i : Int)).tmod (N : Int) = (((f + i) % N : Nat) : Int) := by
    rw [Int.tmod_eq_emod_of_nonneg (by omega)]; simp
  go_enter Try.func47, Try.ntmps47
  go_wp2
  go_quiet (fail)
  go_wp2
  go_ret
  exact ⟨by simp, _, rfl⟩

#print axioms laneNew_yes
#print axioms place_cells
end Go.Proofs.Ytfboikefjealfaa
