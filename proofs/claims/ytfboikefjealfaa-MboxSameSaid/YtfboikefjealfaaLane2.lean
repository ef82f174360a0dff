/-
  Contracts of layer 4 (lane), second part: Put, Take, At, Clear.
  Conditions: those that each theorem states.
-/
import Derived.Test.YtfboikefjealfaaLane
import Derived.Deep.RegionHeld3
namespace Go.Proofs.Ytfboikefjealfaa
open Go.ChangeShapes Go.WideShapes Go.ChangeAt Go.RowKit

def putE (N : Nat) (q : List Int) : Int := if q.length = N then 5 else 0
def putQ (N : Nat) (q : List Int) (x : Int) : List Int := if q.length = N then q else q ++ [x]

theorem mod_one_way {f i c N : Nat} (hf : f < N) (hi : i < N) (hc : c < N) (h : (f + i) % N = (f + c) % N) : i = c := by
  have e : ∀ a, a < N → (f + a) % N = if f + a < N then f + a else f + a - N := by
    intro a ha
    split
    · exact Nat.mod_eq_of_lt (by omega)
    · rw [Nat.mod_eq_sub_mod (by omega), Nat.mod_eq_of_lt (by omega)]
  rw [e i hi, e c hc] at h
  split at h <;> split at h <;> omega

theorem ring_put (ring q : List Int) (f N : Nat) (x : Int) (hl : ring.length = N) (hq : q.length < N) (hf : f < N) (h : ∀ i, i < q.length → ring[(f + i) % N]? = q[i]?) :
    ∀ i, i < (q ++ [x]).length → (ring.set ((f + q.length) % N) x)[(f + i) % N]? = (q ++ [x])[i]? := by
  intro i hi
  rw [List.length_append, List.length_singleton] at hi
  have hp : (f + q.length) % N < ring.length := by rw [hl]; exact Nat.mod_lt _ (by omega)
  by_cases e : i = q.length
  · subst e
    rw [List.getElem?_set_self hp]
    simp
  · have hne : (f + q.length) % N ≠ (f + i) % N := fun h => e (mod_one_way hf hq (by omega) h).symm
    rw [List.getElem?_set_ne hne, List.getElem?_append_left (by omega)]
    exact h i (by omega)

set_option maxRecDepth 100000 in
set_option maxHeartbeats 400000 in
theorem put_nil (x : Int) (w : World) :
    Calls Try.prog 37 #[.pointer none, .int .i64 x] w fun e w' => e = .returned (.int .i64 1) ∧ w = w' := by
  go_enter Try.func37, Try.ntmps37
  go_wp2
  go_ret
  exact ⟨rfl, rfl⟩

/-- What a call that may write the queue leaves: its answer, and the queue. -/
def LaneP (g h N : Nat) (q : List Int) (a : Value) (w : World) (e : Ending) (w' : World) : Prop :=
  e = .returned a ∧ LaneQ w' g h N q ∧ Only (fun b => b = g ∨ b = h) w w'

set_option maxRecDepth 100000 in
set_option maxHeartbeats 800000 in
theorem put_full (g h N : Nat) (q : List Int) (x : Int) (w : World) (r : LaneQ w g h N q) (hfull : q.length = N) :
    Calls Try.prog 37 #[ptr g, .int .i64 x] w (LaneP g h N q (.int .i64 5) w) := by
  have R := Lib.hid r
  obtain ⟨f, ring, r⟩ := r
  have hc : w.cell? ⟨g, 0, none⟩ = some (.slice (some ⟨h, 0, none⟩) N N) := r.top.cell 0
  have hc2 : w.cell? ⟨g, 2, none⟩ = some (.int .i64 N) := by have := r.top.cell 2; rw [hfull] at this; exact this
  clear hfull
  unfold ptr
  go_enter Try.func37, Try.ntmps37
  go_wp2
  go_quiet (fail)
  go_wp2
  go_ret
  exact ⟨rfl, R.out.below (below_q w _), Only.of_below (below_q w _) _⟩

set_option maxRecDepth 100000 in
set_option maxHeartbeats 800000 in
theorem put_room (g h N : Nat) (q : List Int) (x : Int) (w : World) (r : LaneQ w g h N q) (hroom : q.length < N) :
    Calls Try.prog 37 #[ptr g, .int .i64 x] w (LaneP g h N (q ++ [x]) (.int .i64 0) w) := by
  obtain ⟨f, ring, r⟩ := r
  obtain ⟨c, hq⟩ : ∃ c, q.length = c := ⟨_, rfl⟩
  have hc : w.cell? ⟨g, 0, none⟩ = some (.slice (some ⟨h, 0, none⟩) N N) := r.top.cell 0
  have hc1 : w.cell? ⟨g, 1, none⟩ = some (.int .i64 f) := r.top.cell 1
  have hc2 : w.cell? ⟨g, 2, none⟩ = some (.int .i64 c) := by rw [← hq]; exact r.top.cell 2
  have hp := r.pos
  have hm := r.most
  have hf := r.fst
  have hne := r.ne
  rw [hq] at hroom
  have hlt : (f + c) % N < N := Nat.mod_lt _ (by omega)
  obtain ⟨p, hpp⟩ : ∃ p, (f + c) % N = p := ⟨_, rfl⟩
  rw [hpp] at hlt
  have hpl : w.cell? ⟨h, p, none⟩ = some (.int .i64 (ring.getD p 0)) := by rw [r.low.cell p]; exact ints_at ring p (by rw [r.len]; exact hlt)
  have hfz := r.low.soft p
  have hfz2 := r.top.soft 2
  have pl := fun (W : World) a b => Lib.hid (place_cells g h N f c W a b hp hm hf (by omega))
  rw [hpp] at pl
  have HQ := Lib.hid hq; clear hq
  have HP := Lib.hid hpp; clear hpp
  have i1 : (0 : Int) ≤ (p : Int) := by omega
  have i2 : (p : Int) < (N : Int) := by omega
  have b1 : ((c : Int) == (N : Int)) = false := by simp; omega
  unfold ptr
  go_enter Try.func37, Try.ntmps37
  go_wp2
  go_quiet (fail)
  go_wp2
  go_region_held3 (fun w' => w'.cell? ⟨g, 0, none⟩ = some (.slice (some ⟨h, 0, none⟩) N N) ∧ w'.cell? ⟨g, 1, none⟩ = some (.int .i64 f) ∧ w'.cell? ⟨g, 2, none⟩ = some (.int .i64 c))
    (first | go_keep | exact ⟨(cell_far hne _).trans (by simp [*]), (cell_far hne _).trans (by simp [*]), (cell_far hne _).trans (by simp [*])⟩)
    (first | (go_at_call 47; refine (pl _ ?_ ?_).out.mono ?_; (simp [*]); (simp [*]); rintro e w' ⟨rfl, m, rfl⟩))
  go_wp2
  go_ret
  obtain ⟨W, hW⟩ : ∃ W, W = w.drewN (nq + 1 + m) := ⟨_, rfl⟩
  have hq := HQ.out
  have hO : Only (fun b => b = g ∨ b = h) w ((((w.drewN (nq + 1 + m)).setCell ⟨h, p, none⟩ (.int .i64 x)).setCell ⟨g, 2, none⟩ (.int .i64 ((c : Int) + 1)))) :=
    (((Only.refl _ w).drewN _).setCell (.inl (.inr rfl)) _).setCell (.inl (.inl rfl)) _
  refine ⟨rfl, ⟨f, ring.set p x, ?_, ?_, by rw [List.length_set]; exact r.len, hp, hm, hf, by simp; omega, ?_⟩, hO⟩
  · have h1 := (((r.top.drewN (nq + 1 + m)).far (p := ⟨h, p, none⟩) hne (.int .i64 x)).put 2 (.int .i64 ((c : Int) + 1)))
    simp only [List.set_cons_succ, List.set_cons_zero] at h1
    simpa [hq] using h1
  · have h1 := (((r.low.drewN (nq + 1 + m)).put p (.int .i64 x)).far (p := ⟨g, 2, none⟩) (Ne.symm hne) (.int .i64 ((c : Int) + 1)))
    rw [ints_set]
    exact h1
  · rw [← HP.out, ← hq]
    exact ring_put ring q f N x r.len (by omega) hf r.at_

theorem put_any (g h N : Nat) (q : List Int) (x : Int) (w : World) (r : LaneQ w g h N q) :
    Calls Try.prog 37 #[ptr g, .int .i64 x] w (LaneP g h N (putQ N q x) (.int .i64 (putE N q)) w) := by
  by_cases hf : q.length = N
  · have h1 : putQ N q x = q := by unfold putQ; rw [if_pos hf]
    have h2 : putE N q = 5 := by unfold putE; rw [if_pos hf]
    rw [h1, h2]
    exact put_full g h N q x w r hf
  · have h1 : putQ N q x = q ++ [x] := by unfold putQ; rw [if_neg hf]
    have h2 : putE N q = 0 := by unfold putE; rw [if_neg hf]
    rw [h1, h2]
    exact put_room g h N q x w r (by have := r.fit.1; omega)

def takeE (q : List Int) : Int := if q = [] then 6 else 0

set_option maxRecDepth 100000 in
set_option maxHeartbeats 400000 in
theorem take_nil (w : World) :
    Calls Try.prog 40 #[.pointer none] w fun e w' => e = .returned (.tuple #[.int .i64 0, .int .i64 1]) ∧ w = w' := by
  go_enter Try.func40, Try.ntmps40
  go_wp2
  go_ret2
  exact ⟨rfl, rfl⟩

set_option maxRecDepth 100000 in
set_option maxHeartbeats 400000 in
theorem take_empty (g h N : Nat) (w : World) (r : LaneQ w g h N []) :
    Calls Try.prog 40 #[ptr g] w (LaneP g h N [] (.tuple #[.int .i64 0, .int .i64 6]) w) := by
  have R := Lib.hid r
  obtain ⟨f, ring, r⟩ := r
  have hc2 : w.cell? ⟨g, 2, none⟩ = some (.int .i64 0) := r.top.cell 2
  unfold ptr
  go_enter Try.func40, Try.ntmps40
  go_wp2
  go_ret2
  exact ⟨rfl, R.out, Only.refl _ _⟩

set_option maxRecDepth 100000 in
set_option maxHeartbeats 800000 in
theorem take_some (g h N : Nat) (x : Int) (t : List Int) (w : World) (r : LaneQ w g h N (x :: t)) :
    Calls Try.prog 40 #[ptr g] w (LaneP g h N t (.tuple #[.int .i64 x, .int .i64 0]) w) := by
  obtain ⟨f, ring, r⟩ := r
  obtain ⟨c, hq⟩ : ∃ c, t.length = c := ⟨_, rfl⟩
  have hc : w.cell? ⟨g, 0, none⟩ = some (.slice (some ⟨h, 0, none⟩) N N) := r.top.cell 0
  have hc1 : w.cell? ⟨g, 1, none⟩ = some (.int .i64 f) := r.top.cell 1
  have hc2 : w.cell? ⟨g, 2, none⟩ = some (.int .i64 ((c : Int) + 1)) := by
    have := r.top.cell 2
    simp only [List.length_cons, hq] at this
    exact this
  have hp := r.pos
  have hm := r.most
  have hf := r.fst
  have hne := r.ne
  have hfit := r.fit
  rw [List.length_cons, hq] at hfit
  have hx : ring[f]? = some x := by
    have := r.at_ 0 (by simp)
    rwa [Nat.add_zero, Nat.mod_eq_of_lt hf] at this
  have hpl : w.cell? ⟨h, f, none⟩ = some (.int .i64 x) := by rw [r.low.cell f]; exact ints_some hx
  have hfz1 := r.top.soft 1
  have hfz2 := r.top.soft 2
  obtain ⟨p, hpp⟩ : ∃ p, (f + 1) % N = p := ⟨_, rfl⟩
  have pl := fun (W : World) a b => Lib.hid (place_cells g h N f 1 W a b hp hm hf (by omega))
  rw [hpp] at pl
  have HQ := Lib.hid hq; clear hq
  have HP := Lib.hid hpp; clear hpp
  clear hx
  have i1 : (0 : Int) ≤ (f : Int) := by omega
  have i2 : (f : Int) < (N : Int) := by omega
  have b1 : ((c : Int) + 1 == 0) = false := by simp; omega
  unfold ptr
  go_enter Try.func40, Try.ntmps40
  go_wp2
  go_quiet (fail)
  go_wp2_with (go_at_call 47; refine (pl _ ?_ ?_).out.mono ?_; (simp [*]); (simp [*]); rintro e w' ⟨rfl, m, rfl⟩)
  go_ret2
  have hq := HQ.out
  refine ⟨rfl, ⟨p, ring, ?_, ?_, r.len, hp, hm, by rw [← HP.out]; exact Nat.mod_lt _ (by omega), by omega, ?_⟩, (((Only.refl _ w).drewN _).setCell (.inl (.inl rfl)) _).setCell (.inl (.inl rfl)) _⟩
  · have h1 := (((r.top.drewN (nq + m)).put 1 (.int .i64 (p : Int))).put 2 (.int .i64 (c : Int)))
    simp only [List.set_cons_succ, List.set_cons_zero] at h1
    rw [hq]
    exact h1
  · exact ((r.low.drewN (nq + m)).far (p := ⟨g, 1, none⟩) (Ne.symm hne) _).far (p := ⟨g, 2, none⟩) (Ne.symm hne) _
  · intro i hi
    have := r.at_ (i + 1) (by simp; omega)
    rw [← HP.out, Nat.mod_add_mod, Nat.add_assoc, Nat.add_comm 1 i, this]
    rfl

/-- The queue behind a Take, and what it answers. -/
def takeV (q : List Int) : Int := q.headD 0
theorem take_any (g h N : Nat) (q : List Int) (w : World) (r : LaneQ w g h N q) :
    Calls Try.prog 40 #[ptr g] w (LaneP g h N q.tail (.tuple #[.int .i64 (takeV q), .int .i64 (takeE q)]) w) := by
  cases q with
  | nil => exact take_empty g h N w r
  | cons x t => exact take_some g h N x t w r

def atB (q : List Int) (i : Int) : Bool := decide (0 ≤ i ∧ i < q.length)
def atV (q : List Int) (i : Int) : Int := if atB q i then q.getD i.toNat 0 else 0

set_option maxRecDepth 100000 in
set_option maxHeartbeats 400000 in
theorem clear_nil (w : World) :
    Calls Try.prog 44 #[.pointer none] w fun e w' => e = .returned (.int .i64 0) ∧ w = w' := by
  go_enter Try.func44, Try.ntmps44
  go_wp2
  go_ret
  exact ⟨rfl, rfl⟩

set_option maxRecDepth 100000 in
set_option maxHeartbeats 400000 in
theorem clear_any (g h N : Nat) (q : List Int) (w : World) (r : LaneQ w g h N q) :
    Calls Try.prog 44 #[ptr g] w (LaneP g h N [] (.int .i64 q.length) w) := by
  obtain ⟨f, ring, r⟩ := r
  have hc1 : w.cell? ⟨g, 1, none⟩ = some (.int .i64 f) := r.top.cell 1
  have hc2 : w.cell? ⟨g, 2, none⟩ = some (.int .i64 q.length) := r.top.cell 2
  have hfz1 := r.top.soft 1
  have hfz2 := r.top.soft 2
  have hne := r.ne
  have hp := r.pos
  unfold ptr
  go_enter Try.func44, Try.ntmps44
  go_wp2
  go_ret
  refine ⟨rfl, ⟨0, ring, ?_, ?_, r.len, hp, r.most, by omega, by simp, by simp⟩, ((Only.refl _ w).setCell (.inl (.inl rfl)) _).setCell (.inl (.inl rfl)) _⟩
  · have h1 := ((r.top.put 1 (.int .i64 0)).put 2 (.int .i64 0))
    simp only [List.set_cons_succ, List.set_cons_zero] at h1
    exact h1
  · exact (r.low.far (p := ⟨g, 1, none⟩) (Ne.symm hne) _).far (p := ⟨g, 2, none⟩) (Ne.symm hne) _

#print axioms put_any
#print axioms take_any
#print axioms clear_any
end Go.Proofs.Ytfboikefjealfaa
