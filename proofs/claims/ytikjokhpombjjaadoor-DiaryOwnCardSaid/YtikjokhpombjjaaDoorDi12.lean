/-
  Layer 19 (diary): the program's and the reference's answers on validity are one.
  Conditions: those that each theorem states.
-/
import Derived.Test.YtikjokhpombjjaaDoorDi9
import Derived.Test.YtikjokhpombjjaaDoorDi10
namespace Go.Proofs.YtikjokhpombjjaaDoor
open Go.ChangeShapes Go.WideShapes Go.ChangeAt Go.RowKit

theorem ok19_time {x : En} (h : ok19 x = true) : time19 x = true := by
  simp only [ok19, Bool.and_eq_true] at h
  exact h.1.1.2
theorem scan19_iff : ∀ (l : List En) (L : List Int), L.length = 8 → (∀ c, 0 ≤ L.getD c 0) → (scan19 L l = true ↔ rr19 l = true ∧ ∀ x ∈ l, L.getD x.core.toNat 0 < x.beg)
  | [], L, _, _ => by simp [scan19, rr19]
  | x :: r, L, hL, h0 => by
    simp only [scan19, rr19, Bool.and_eq_true, decide_eq_true_eq, List.mem_cons, forall_eq_or_imp]
    by_cases hok : ok19 x = true
    case neg =>
      constructor
      · rintro ⟨⟨h, _⟩, _⟩; exact absurd h hok
      · rintro ⟨⟨⟨h, _⟩, _⟩, _⟩
        simp only [one19, Bool.and_eq_true] at h
        exact absurd h.1 hok
    obtain ⟨q, hq, hq8⟩ := ok19_core hok
    have ht := ok19_time hok
    by_cases hb : L.getD x.core.toNat 0 < x.beg
    case neg =>
      constructor
      · rintro ⟨⟨_, h⟩, _⟩; exact absurd h hb
      · rintro ⟨_, h, _⟩; exact absurd h hb
    have hc := h0 x.core.toNat
    have hone : one19 x = true := by
      simp only [one19, Bool.and_eq_true, decide_eq_true_eq]
      exact ⟨hok, by omega⟩
    have hmax : 0 ≤ max x.beg x.fin := by have := Int.le_max_left x.beg x.fin; omega
    have hL' : (L.set x.core.toNat (max x.beg x.fin)).length = 8 := by rw [List.length_set, hL]
    have hget : ∀ c : Nat, (L.set x.core.toNat (max x.beg x.fin)).getD c 0 = if c = x.core.toNat then max x.beg x.fin else L.getD c 0 := by
      intro c
      rw [List.getD_eq_getElem?_getD, List.getD_eq_getElem?_getD, List.getElem?_set]
      by_cases e : x.core.toNat = c
      · have e2 : c < L.length := by rw [hL]; omega
        subst e
        simp [e2]
      · rw [if_neg e, if_neg (fun h => e h.symm)]
    have h0' : ∀ c, 0 ≤ (L.set x.core.toNat (max x.beg x.fin)).getD c 0 := by
      intro c
      rw [hget]
      split
      · exact hmax
      · exact h0 c
    rw [scan19_iff r _ hL' h0']
    have key : ∀ y, one19 y = true → ((L.set x.core.toNat (max x.beg x.fin)).getD y.core.toNat 0 < y.beg ↔ (pair19 x y = true ∧ L.getD y.core.toNat 0 < y.beg)) := by
      intro y hy
      have hyo : ok19 y = true := by
        simp only [one19, Bool.and_eq_true] at hy
        exact hy.1
      obtain ⟨p, hp, hp8⟩ := ok19_core hyo
      rw [hget]
      by_cases e : y.core = x.core
      · have e2 : y.core.toNat = x.core.toNat := by rw [e]
        rw [if_pos e2, e2]
        simp only [pair19, e, Bool.or_eq_true, Bool.not_eq_true', beq_self_eq_true, Bool.and_eq_true, decide_eq_true_eq, beq_iff_eq]
        have m1 := Int.le_max_left x.beg x.fin
        have m2 := Int.le_max_right x.beg x.fin
        constructor
        · intro h
          exact ⟨.inr ⟨by omega, .inr (by omega)⟩, by omega⟩
        · rintro ⟨h | ⟨h1, h2⟩, h3⟩
          · cases h
          · rw [Int.max_def]
            split
            · rcases h2 with h2 | h2 <;> omega
            · exact h1
      · have e2 : ¬ y.core.toNat = x.core.toNat := by omega
        rw [if_neg e2]
        have e3 : (x.core == y.core) = false := by simpa using fun h => e h.symm
        simp [pair19, e3]
    constructor
    · rintro ⟨_, h1, h2⟩
      have h3 : ∀ y ∈ r, one19 y = true := fun y hy => by
        obtain ⟨j, hj⟩ := List.mem_iff_getElem?.1 hy
        exact ((rr19_iff r).1 h1 j y hj).1
      exact ⟨⟨⟨hone, List.all_eq_true.2 fun y hy => ((key y (h3 y hy)).1 (h2 y hy)).1⟩, h1⟩, hb, fun y hy => ((key y (h3 y hy)).1 (h2 y hy)).2⟩
    · rintro ⟨⟨⟨_, h1⟩, h2⟩, _, h4⟩
      have h3 : ∀ y ∈ r, one19 y = true := fun y hy => by
        obtain ⟨j, hj⟩ := List.mem_iff_getElem?.1 hy
        exact ((rr19_iff r).1 h2 j y hj).1
      exact ⟨⟨hok, hb⟩, h2, fun y hy => (key y (h3 y hy)).2 ⟨List.all_eq_true.1 h1 y hy, h4 y hy⟩⟩

theorem zeros19 (c : Nat) : (List.replicate 8 (0 : Int)).getD c 0 = 0 := by
  rw [List.getD_eq_getElem?_getD, List.getElem?_replicate]
  split <;> rfl
theorem scan19_eq (l : List En) : scan19 (List.replicate 8 0) l = rr19 l := by
  rw [Bool.eq_iff_iff, scan19_iff l _ rfl (fun c => by rw [zeros19]; omega)]
  constructor
  · exact fun h => h.1
  · intro h
    refine ⟨h, fun x hx => ?_⟩
    rw [zeros19]
    obtain ⟨j, hj⟩ := List.mem_iff_getElem?.1 hx
    have := ((rr19_iff l).1 h j x hj).1
    simp only [one19, Bool.and_eq_true, decide_eq_true_eq] at this
    omega

/-- A part of a valid history is valid. -/
theorem rr19_filter (p : En → Bool) : ∀ {l : List En}, rr19 l = true → rr19 (l.filter p) = true
  | [], _ => rfl
  | x :: r, h => by
    simp only [rr19, Bool.and_eq_true] at h
    by_cases hp : p x = true
    · rw [List.filter_cons_of_pos hp]
      simp only [rr19, Bool.and_eq_true]
      exact ⟨⟨h.1.1, List.all_eq_true.2 fun y hy => List.all_eq_true.1 h.1.2 y ((List.mem_filter.1 hy).1)⟩, rr19_filter p h.2⟩
    · rw [List.filter_cons_of_neg hp]
      exact rr19_filter p h.2

#print axioms scan19_eq
end Go.Proofs.YtikjokhpombjjaaDoor
