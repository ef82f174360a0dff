/-
  The reference of layer 9: Same.
  Conditions: those that each theorem states.
-/
import Derived.Test.YtfboikefjealfaaRMb7
import Derived.Test.YtfboikefjealfaaREq
namespace Go.Proofs.Ytfboikefjealfaa
open Go.ChangeShapes Go.WideShapes Go.ChangeAt Go.RowKit

theorem part_bool {t : TypeId} (hagg : ∀ W, (isAgg t).run Try.prog W = .ok false W) {xs : List Bool} {o : Nat} {x : Bool} (h : xs[o]? = some x) (W : World) :
    (part t (xs.map Value.bool).toArray o).run Try.prog W = .ok (.bool x) W := by
  simp only [part, Sem.run_bind, hagg, Result.andThen_ok, Bool.false_eq_true, if_false]
  simp [h]

set_option maxRecDepth 100000 in
theorem eq_bools {len d : Nat} {t : TypeId} (ht : Try.prog.underlying t = some (.array len 4)) (xs ys : List Bool) (hx : xs.length = len) (hy : ys.length = len) (W : World) :
    (Op.equalIn (d + 1 + 1) t (.agg (xs.map Value.bool).toArray) (.agg (ys.map Value.bool).toArray)).run Try.prog W = .ok (decide (xs = ys)) W := by
  have hagg := fun W => Try.isAgg4 (w := W)
  have hs := fun W => Try.sizeOf4 (w := W)
  have hu := Try.underlying4
  rw [run_equalIn_array W (d + 1) t 4 len 1 _ _ ht hs]
  have key : ∀ (is : List Nat), (∀ i ∈ is, i < len) → (eqRange (d + 1) 4 1 (xs.map Value.bool).toArray (ys.map Value.bool).toArray is).run Try.prog W = .ok (decide (∀ i ∈ is, xs[i]? = ys[i]?)) W := by
    intro is
    induction is with
    | nil => intro _; simp [eqRange]
    | cons i is ih =>
      intro hi
      have hil := hi i (by simp)
      obtain ⟨x, hxi⟩ : ∃ x, xs[i]? = some x := ⟨_, List.getElem?_eq_getElem (by omega)⟩
      obtain ⟨y, hyi⟩ : ∃ x, ys[i]? = some x := ⟨_, List.getElem?_eq_getElem (by omega)⟩
      simp only [eqRange, Sem.run_bind, Nat.mul_one, part_bool hagg hxi, part_bool hagg hyi, Result.andThen_ok, run_equalIn_bool W d 4 x y hu]
      by_cases h : x = y
      · subst h
        simp only [beq_self_eq_true, Bool.not_true, Bool.false_eq_true, if_false]
        rw [ih (fun j hj => hi j (List.mem_cons_of_mem _ hj))]
        exact congrArg (Result.ok · W) (by simp [hxi, hyi])
      · rw [show (x == y) = false from by simpa using h]
        simp only [Bool.not_false, if_true, Sem.run_pure]
        exact congrArg (Result.ok · W) (by simp [hxi, hyi, h])
  rw [key _ (fun i hi => by simpa using hi)]
  refine congrArg (Result.ok · W) ?_
  have e : (∀ i ∈ List.range' 0 len, xs[i]? = ys[i]?) ↔ xs = ys := by
    constructor
    · intro h
      apply List.ext_getElem?
      intro i
      by_cases hi : i < len
      · exact h i (by simpa using hi)
      · rw [List.getElem?_eq_none (by omega), List.getElem?_eq_none (by omega)]
    · rintro rfl i _; rfl
  exact decide_eq_decide.2 e

theorem neq_b8 (a0 a1 a2 a3 a4 a5 a6 a7 b0 b1 b2 b3 b4 b5 b6 b7 : Bool) (W : World) :
    (binOp .neq 37 (.agg #[.bool a0, .bool a1, .bool a2, .bool a3, .bool a4, .bool a5, .bool a6, .bool a7]) (.agg #[.bool b0, .bool b1, .bool b2, .bool b3, .bool b4, .bool b5, .bool b6, .bool b7])).run Try.prog W = .ok (.bool (!decide ([a0, a1, a2, a3, a4, a5, a6, a7] = [b0, b1, b2, b3, b4, b5, b6, b7]))) W := by
  have h := eq_bools (d := 9998) Try.underlying37 [a0, a1, a2, a3, a4, a5, a6, a7] [b0, b1, b2, b3, b4, b5, b6, b7] rfl rfl W
  rw [run_neq_struct]
  show ((Op.equalIn (9998 + 1 + 1) 37 (.agg ([a0, a1, a2, a3, a4, a5, a6, a7].map Value.bool).toArray) (.agg ([b0, b1, b2, b3, b4, b5, b6, b7].map Value.bool).toArray)).run Try.prog W).andThen _ = _
  rw [h]
  rfl

#print axioms neq_b8
end Go.Proofs.Ytfboikefjealfaa
