/-
  '==' on arrays of integers, and on arrays of such arrays; '==' on the reference's states of layer 7.
  Conditions: those that each theorem states.
-/
import Derived.Test.YtaimhaokielhgaaMem
import Derived.Laws.StructEq
namespace Go.Proofs.Ytaimhaokielhgaa
open Go.ChangeShapes Go.WideShapes Go.ChangeAt Go.RowKit

/-- The elements at the places of a list are compared, one after the other. -/
def eqRange (d : Nat) (elem : TypeId) (n : Nat) (xs ys : Array Value) : List Nat → Sem Bool
  | [] => pure true
  | i :: is => do
    let a ← part elem xs (i * n)
    let b ← part elem ys (i * n)
    let r ← Op.equalIn d elem a b
    if (!r) = true then pure false else eqRange d elem n xs ys is

theorem run_equalIn_array {P : Program} (w : World) (d : Nat) (t elem : TypeId) (len n : Nat) (xs ys : Array Value) (ht : P.underlying t = some (.array len elem)) (hs : ∀ W, (sizeOf elem).run P W = .ok n W) :
    (Op.equalIn (d + 1) t (.agg xs) (.agg ys)).run P w = (eqRange d elem n xs ys (List.range' 0 len)).run P w := by
  simp only [Op.equalIn, Sem.run_bind, run_underlying ht, Result.andThen_ok, hs, Std.Legacy.Range.forIn_eq_forIn_range', Std.Legacy.Range.size, Nat.sub_zero, Nat.add_sub_cancel, Nat.div_one]
  generalize List.range' 0 len = is
  induction is generalizing w with
  | nil => simp [eqRange]
  | cons f fs ih =>
    simp only [List.forIn_cons, eqRange, Sem.run_bind, Sem.run_ite]
    generalize (part elem xs (f * n)).run P w = r1
    cases r1 with
    | ok a w1 =>
      simp only [Result.andThen_ok]
      generalize (part elem ys (f * n)).run P w1 = r2
      cases r2 with
      | ok b w2 =>
        simp only [Result.andThen_ok]
        generalize (Op.equalIn d elem a b).run P w2 = r3
        cases r3 with
        | ok r w3 =>
          cases r
          · simp only [Result.andThen_ok, Bool.not_false, if_true, Sem.run_pure]
          · simp only [Result.andThen_ok, Bool.not_true, Bool.false_eq_true, if_false, Sem.run_pure]
            exact ih w3
        | halt x w3 => simp [Result.andThen]
      | halt x w2 => simp [Result.andThen]
    | halt x w1 => simp [Result.andThen]

/-- The part of a list that belongs to element i. -/
def seg {α : Type} (n : Nat) (xs : List α) (i : Nat) : List α := (xs.drop (i * n)).take n

theorem seg_eq {α : Type} {n : Nat} : ∀ {len : Nat} {xs ys : List α}, xs.length = len * n → ys.length = len * n → (xs = ys ↔ ∀ i, i < len → seg n xs i = seg n ys i)
  | 0, xs, ys, hx, hy => by
    have h1 : xs = [] := List.eq_nil_of_length_eq_zero (by omega)
    have h2 : ys = [] := List.eq_nil_of_length_eq_zero (by omega)
    subst h1 h2; simp
  | len + 1, xs, ys, hx, hy => by
    constructor
    · rintro rfl i _; rfl
    · intro h
      rw [Nat.succ_mul] at hx hy
      have h0 := h 0 (by omega)
      simp only [seg, Nat.zero_mul, List.drop_zero] at h0
      have hr : xs.drop n = ys.drop n := (seg_eq (n := n) (len := len) (by rw [List.length_drop]; omega) (by rw [List.length_drop]; omega)).2 (fun i hi => by
        have := h (i + 1) (by omega)
        simp only [seg, List.drop_drop] at this ⊢
        have e : n + i * n = (i + 1) * n := by rw [Nat.succ_mul]; omega
        rw [e]; exact this)
      rw [← List.take_append_drop n xs, ← List.take_append_drop n ys, h0, hr]

/-- '==' on type t, as n integers, at depth d. -/
def EqAgg (t : TypeId) (n d : Nat) : Prop := ∀ (xs ys : List Int), xs.length = n → ys.length = n → ∀ W, (Op.equalIn d t (.agg (ints xs).toArray) (.agg (ints ys).toArray)).run Try.prog W = .ok (decide (xs = ys)) W

theorem part_agg {t : TypeId} {n : Nat} (hagg : ∀ W, (isAgg t).run Try.prog W = .ok true W) (hs : ∀ W, (sizeOf t).run Try.prog W = .ok n W) (xs : List Int) (o : Nat) (W : World) :
    (part t (ints xs).toArray o).run Try.prog W = .ok (.agg (ints ((xs.drop o).take n)).toArray) W := by
  simp only [part, Sem.run_bind, hagg, Result.andThen_ok, if_true, hs, Sem.run_pure]
  congr 2
  simp [ints, List.extract_toArray, List.extract_eq_take_drop]

theorem part_int {t : TypeId} (hagg : ∀ W, (isAgg t).run Try.prog W = .ok false W) {xs : List Int} {o : Nat} {x : Int} (h : xs[o]? = some x) (W : World) :
    (part t (ints xs).toArray o).run Try.prog W = .ok (.int .i64 x) W := by
  have hx := ints_some h
  simp only [part, Sem.run_bind, hagg, Result.andThen_ok, Bool.false_eq_true, if_false]
  simp [hx]

set_option maxRecDepth 100000 in
theorem eq_arr {t elem : TypeId} {len n d : Nat} (ht : Try.prog.underlying t = some (.array len elem)) (hagg : ∀ W, (isAgg elem).run Try.prog W = .ok true W) (hs : ∀ W, (sizeOf elem).run Try.prog W = .ok n W) (he : EqAgg elem n d) : EqAgg t (len * n) (d + 1) := by
  intro xs ys hx hy W
  rw [run_equalIn_array W d t elem len n _ _ ht hs]
  have key : ∀ (is : List Nat), (∀ i ∈ is, i < len) → (eqRange d elem n (ints xs).toArray (ints ys).toArray is).run Try.prog W = .ok (decide (∀ i ∈ is, seg n xs i = seg n ys i)) W := by
    intro is
    induction is with
    | nil => intro _; simp [eqRange]
    | cons i is ih =>
      intro hi
      have hil : i * n + n ≤ len * n := by
        have := hi i (by simp)
        have := Nat.mul_le_mul_right n (show i + 1 ≤ len by omega)
        rw [Nat.succ_mul] at this
        exact this
      simp only [eqRange, Sem.run_bind, part_agg hagg hs, Result.andThen_ok]
      rw [he _ _ (by rw [List.length_take, List.length_drop]; omega) (by rw [List.length_take, List.length_drop]; omega)]
      simp only [Result.andThen_ok]
      by_cases h : seg n xs i = seg n ys i
      · have h' := h
        unfold seg at h'
        rw [decide_eq_true h']
        simp only [Bool.not_true, Bool.false_eq_true, if_false]
        rw [ih (fun j hj => hi j (List.mem_cons_of_mem _ hj))]
        exact congrArg (Result.ok · W) (by simp [h])
      · have h' := h
        unfold seg at h'
        rw [decide_eq_false h']
        simp only [Bool.not_false, if_true, Sem.run_pure]
        exact congrArg (Result.ok · W) (by simp [h])
  rw [key _ (fun i hi => by simpa using hi)]
  refine congrArg (Result.ok · W) ?_
  have e : (∀ i ∈ List.range' 0 len, seg n xs i = seg n ys i) ↔ xs = ys := by
    rw [seg_eq hx hy]
    simp
  exact decide_eq_decide.2 e

set_option maxRecDepth 100000 in
theorem eq_ints {t elem : TypeId} {len d : Nat} (ht : Try.prog.underlying t = some (.array len elem)) (hu : Try.prog.underlying elem = some (.int .i64)) (hagg : ∀ W, (isAgg elem).run Try.prog W = .ok false W) (hs : ∀ W, (sizeOf elem).run Try.prog W = .ok 1 W) : EqAgg t len (d + 1 + 1) := by
  intro xs ys hx hy W
  rw [run_equalIn_array W (d + 1) t elem len 1 _ _ ht hs]
  have key : ∀ (is : List Nat), (∀ i ∈ is, i < len) → (eqRange (d + 1) elem 1 (ints xs).toArray (ints ys).toArray is).run Try.prog W = .ok (decide (∀ i ∈ is, xs[i]? = ys[i]?)) W := by
    intro is
    induction is with
    | nil => intro _; simp [eqRange]
    | cons i is ih =>
      intro hi
      have hil := hi i (by simp)
      obtain ⟨x, hxi⟩ : ∃ x, xs[i]? = some x := ⟨_, List.getElem?_eq_getElem (by omega)⟩
      obtain ⟨y, hyi⟩ : ∃ x, ys[i]? = some x := ⟨_, List.getElem?_eq_getElem (by omega)⟩
      simp only [eqRange, Sem.run_bind, Nat.mul_one, part_int hagg hxi, part_int hagg hyi, Result.andThen_ok, run_equalIn_int W d elem .i64 .i64 x y hu]
      by_cases h : x = y
      · subst h
        simp only [beq_self_eq_true, Bool.not_true, Bool.false_eq_true, if_false]
        rw [ih (fun j hj => hi j (List.mem_cons_of_mem _ hj))]
        exact congrArg (Result.ok · W) (by simp [hxi, hyi])
      · rw [show (x == y) = false from by simpa using h]
        simp only [Bool.not_false, if_true, Sem.run_pure]
        exact congrArg (Result.ok · W) (by simp [hxi, hyi, h])
  rw [key _ (fun i hi => by simpa using hi)]
  refine congrArg (Result.ok · W) ?_
  have e : (∀ i ∈ List.range' 0 len, xs[i]? = ys[i]?) ↔ xs = ys := by
    constructor
    · intro h
      apply List.ext_getElem?
      intro i
      by_cases hi : i < len
      · exact h i (by simpa using hi)
      · rw [List.getElem?_eq_none (by omega), List.getElem?_eq_none (by omega)]
    · rintro rfl i _; rfl
  exact decide_eq_decide.2 e

/-- The fields are compared, one after the other. -/
def eqTri (d : Nat) (xs ys : Array Value) : List (Bool × TypeId × Nat) → Sem Bool
  | [] => pure true
  | (b, t, o) :: fs =>
    if b = true then do
      let x ← part t xs o
      let y ← part t ys o
      let r ← Op.equalIn d t x y
      if (!r) = true then pure false else eqTri d xs ys fs
    else eqTri d xs ys fs

theorem eqFields_tri (d : Nat) (xs ys : Array Value) : ∀ fs : List Field, Op.eqFields d xs ys fs = eqTri d xs ys (fs.map fun f => (decide (f.name ≠ "_"), f.type, f.offset))
  | [] => rfl
  | f :: fs => by
    have ih := eqFields_tri d xs ys fs
    simp only [Op.eqFields, List.map_cons, eqTri, ih, decide_eq_true_eq]

theorem tri_step {t : TypeId} {n d o : Nat} {fs : List (Bool × TypeId × Nat)} (hagg : ∀ W, (isAgg t).run Try.prog W = .ok true W) (hs : ∀ W, (sizeOf t).run Try.prog W = .ok n W) (he : EqAgg t n d) (xs ys : List Int) (hx : o + n ≤ xs.length) (hy : o + n ≤ ys.length) (b : Bool) (W : World)
    (h : (eqTri d (ints xs).toArray (ints ys).toArray fs).run Try.prog W = .ok b W) : (eqTri d (ints xs).toArray (ints ys).toArray ((true, t, o) :: fs)).run Try.prog W = .ok (decide ((xs.drop o).take n = (ys.drop o).take n) && b) W := by
  simp only [eqTri, if_true, Sem.run_bind, part_agg hagg hs, Result.andThen_ok]
  rw [he _ _ (by rw [List.length_take, List.length_drop]; omega) (by rw [List.length_take, List.length_drop]; omega)]
  simp only [Result.andThen_ok]
  by_cases hq : (xs.drop o).take n = (ys.drop o).take n
  · rw [decide_eq_true hq]
    simp only [Bool.not_true, Bool.false_eq_true, if_false, Bool.true_and]
    exact h
  · rw [decide_eq_false hq]
    simp only [Bool.not_false, if_true, Sem.run_pure, Bool.false_and]

theorem five_segs (xs ys : List Int) (hx : xs.length = 46) (hy : ys.length = 46) :
    (decide ((xs.drop 0).take 3 = (ys.drop 0).take 3) && (decide ((xs.drop 3).take 12 = (ys.drop 3).take 12) && (decide ((xs.drop 15).take 4 = (ys.drop 15).take 4) && (decide ((xs.drop 19).take 3 = (ys.drop 19).take 3) && (decide ((xs.drop 22).take 24 = (ys.drop 22).take 24) && true))))) = decide (xs = ys) := by
  have cut : ∀ (z : List Int), z.length = 46 → z = (z.drop 0).take 3 ++ ((z.drop 3).take 12 ++ ((z.drop 15).take 4 ++ ((z.drop 19).take 3 ++ (z.drop 22).take 24))) := by
    intro z hz
    have e1 : (z.drop 22).take 24 = z.drop 22 := List.take_of_length_le (by simp [hz])
    rw [e1]
    have e2 : (z.drop 19).take 3 ++ z.drop 22 = z.drop 19 := by rw [show z.drop 22 = (z.drop 19).drop 3 from by rw [List.drop_drop]]; exact List.take_append_drop _ _
    rw [e2]
    have e3 : (z.drop 15).take 4 ++ z.drop 19 = z.drop 15 := by rw [show z.drop 19 = (z.drop 15).drop 4 from by rw [List.drop_drop]]; exact List.take_append_drop _ _
    rw [e3]
    have e4 : (z.drop 3).take 12 ++ z.drop 15 = z.drop 3 := by rw [show z.drop 15 = (z.drop 3).drop 12 from by rw [List.drop_drop]]; exact List.take_append_drop _ _
    rw [e4, List.drop_zero]
    exact (List.take_append_drop _ _).symm
  by_cases h : xs = ys
  · subst h; simp
  · rw [decide_eq_false h]
    cases hb : (decide ((xs.drop 0).take 3 = (ys.drop 0).take 3) && (decide ((xs.drop 3).take 12 = (ys.drop 3).take 12) && (decide ((xs.drop 15).take 4 = (ys.drop 15).take 4) && (decide ((xs.drop 19).take 3 = (ys.drop 19).take 3) && (decide ((xs.drop 22).take 24 = (ys.drop 22).take 24) && true))))) with
    | false => rfl
    | true =>
      simp only [Bool.and_eq_true, decide_eq_true_eq] at hb
      obtain ⟨h1, h2, h3, h4, h5, -⟩ := hb
      exact absurd (by rw [cut xs hx, cut ys hy, h1, h2, h3, h4, h5]) h

end Go.Proofs.Ytaimhaokielhgaa
