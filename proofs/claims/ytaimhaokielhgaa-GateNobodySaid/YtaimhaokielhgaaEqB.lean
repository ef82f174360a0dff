/-
  '==' on arrays of bools; a struct's fields compared one after the other.
  Conditions: those that each theorem states.
-/
import Derived.Test.YtaimhaokielhgaaREq
namespace Go.Proofs.Ytaimhaokielhgaa
open Go.ChangeShapes Go.WideShapes Go.ChangeAt Go.RowKit

theorem part_bool {t : TypeId} (hagg : ∀ W, (isAgg t).run Try.prog W = .ok false W) {xs : List Bool} {o : Nat} {x : Bool} (h : xs[o]? = some x) (W : World) :
    (part t (xs.map Value.bool).toArray o).run Try.prog W = .ok (.bool x) W := by
  simp only [part, Sem.run_bind, hagg, Result.andThen_ok, Bool.false_eq_true, if_false]
  simp [h]

set_option maxRecDepth 100000 in
theorem eq_bools {len d : Nat} {t : TypeId} (ht : Try.prog.underlying t = some (.array len 4)) (xs ys : List Bool) (hx : xs.length = len) (hy : ys.length = len) (W : World) :
    (Op.equalIn (d + 1 + 1) t (.agg (xs.map Value.bool).toArray) (.agg (ys.map Value.bool).toArray)).run Try.prog W = .ok (decide (xs = ys)) W := by
  have hagg := fun W => Try.isAgg4 (w := W)
  have hs := fun W => Try.sizeOf4 (w := W)
  have hu := Try.underlying4
  rw [run_equalIn_array W (d + 1) t 4 len 1 _ _ ht hs]
  have key : ∀ (is : List Nat), (∀ i ∈ is, i < len) → (eqRange (d + 1) 4 1 (xs.map Value.bool).toArray (ys.map Value.bool).toArray is).run Try.prog W = .ok (decide (∀ i ∈ is, xs[i]? = ys[i]?)) W := by
    intro is
    induction is with
    | nil => intro _; simp [eqRange]
    | cons i is ih =>
      intro hi
      have hil := hi i (by simp)
      obtain ⟨x, hxi⟩ : ∃ x, xs[i]? = some x := ⟨_, List.getElem?_eq_getElem (by omega)⟩
      obtain ⟨y, hyi⟩ : ∃ x, ys[i]? = some x := ⟨_, List.getElem?_eq_getElem (by omega)⟩
      simp only [eqRange, Sem.run_bind, Nat.mul_one, part_bool hagg hxi, part_bool hagg hyi, Result.andThen_ok, run_equalIn_bool W d 4 x y hu]
      by_cases h : x = y
      · subst h
        simp only [beq_self_eq_true, Bool.not_true, Bool.false_eq_true, if_false]
        rw [ih (fun j hj => hi j (List.mem_cons_of_mem _ hj))]
        exact congrArg (Result.ok · W) (by simp [hxi, hyi])
      · rw [show (x == y) = false from by simpa using h]
        simp only [Bool.not_false, if_true, Sem.run_pure]
        exact congrArg (Result.ok · W) (by simp [hxi, hyi, h])
  rw [key _ (fun i hi => by simpa using hi)]
  refine congrArg (Result.ok · W) ?_
  have e : (∀ i ∈ List.range' 0 len, xs[i]? = ys[i]?) ↔ xs = ys := by
    constructor
    · intro h
      apply List.ext_getElem?
      intro i
      by_cases hi : i < len
      · exact h i (by simpa using hi)
      · rw [List.getElem?_eq_none (by omega), List.getElem?_eq_none (by omega)]
    · rintro rfl i _; rfl
  exact decide_eq_decide.2 e

/-- One field, whatever its type. -/
theorem tri_one {P : Program} {t : TypeId} {d o : Nat} {fs : List (Bool × TypeId × Nat)} {xs ys : Array Value} (x y : Value) (b1 b : Bool) (W : World) (hx : (part t xs o).run P W = .ok x W) (hy : (part t ys o).run P W = .ok y W)
    (he : (Op.equalIn d t x y).run P W = .ok b1 W) (h : (eqTri d xs ys fs).run P W = .ok b W) : (eqTri d xs ys ((true, t, o) :: fs)).run P W = .ok (b1 && b) W := by
  simp only [eqTri, if_true, Sem.run_bind, hx, hy, he, Result.andThen_ok]
  cases b1
  · simp
  · simp [h]

/-- A part of several cells. -/
theorem part_cells {P : Program} {t : TypeId} {n : Nat} (hagg : ∀ W, (isAgg t).run P W = .ok true W) (hs : ∀ W, (sizeOf t).run P W = .ok n W) (cs : List Value) (o : Nat) (W : World) :
    (part t cs.toArray o).run P W = .ok (.agg ((cs.drop o).take n).toArray) W := by
  simp only [part, Sem.run_bind, hagg, Result.andThen_ok, if_true, hs, Sem.run_pure]
  congr 2
  simp [List.extract_toArray, List.extract_eq_take_drop]

theorem part_cell {P : Program} {t : TypeId} (hagg : ∀ W, (isAgg t).run P W = .ok false W) {cs : List Value} {o : Nat} {x : Value} (h : cs[o]? = some x) (W : World) :
    (part t cs.toArray o).run P W = .ok x W := by
  simp only [part, Sem.run_bind, hagg, Result.andThen_ok, Bool.false_eq_true, if_false]
  simp [h]

#print axioms tri_one
end Go.Proofs.Ytaimhaokielhgaa
