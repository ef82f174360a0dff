/-
  Layer 14 (port): the law's do at a Trace that forwards to a Plain; the example.
  Conditions: those that each theorem states.
-/
import Derived.Test.YtgdbaaoifnedbaaDoorPt8
namespace Go.Proofs.YtgdbaaoifnedbaaDoor
open Go.ChangeShapes Go.WideShapes Go.ChangeAt Go.RowKit

/-- What a touch makes of the words, of the kicks, what is recorded, and what is told. -/
def dV14 (V : List Int) (κ i u : Int) : List Int := if κ = 2 then put14 V i (u % 65536) else V
def dK14 (K : List Int) (κ i : Int) : List Int := if κ = 5 then K ++ [i] else K
def dT14 (V E : List Int) (κ i u : Int) : List Tch := if κ = 1 then [(1, i, nth14 V i)] else if κ = 2 then [(2, i, u)] else if κ = 3 then [(3, 0, 0)] else if κ = 4 then [(4, i, nth14 E i)] else if κ = 5 then [(5, i, 0)] else []
def dN14 (V E : List Int) (κ i : Int) : Int := if κ = 1 then nth14 V i else if κ = 4 then nth14 E i else 0
theorem dV14_len (V : List Int) (κ i u : Int) : (dV14 V κ i u).length = V.length := by unfold dV14; split <;> simp [put14_len]
theorem dK14_len (K : List Int) (κ i : Int) : (dK14 K κ i).length ≤ K.length + 1 := by unfold dK14; split <;> simp
theorem dT14_len (V E : List Int) (κ i u : Int) : (dT14 V E κ i u).length ≤ 1 := by
  unfold dT14
  by_cases h1 : κ = 1
  · rw [if_pos h1]; simp
  · rw [if_neg h1]
    by_cases h2 : κ = 2
    · rw [if_pos h2]; simp
    · rw [if_neg h2]
      by_cases h3 : κ = 3
      · rw [if_pos h3]; simp
      · rw [if_neg h3]
        by_cases h4 : κ = 4
        · rw [if_pos h4]; simp
        · rw [if_neg h4]
          by_cases h5 : κ = 5
          · rw [if_pos h5]; simp
          · rw [if_neg h5]; simp
theorem dV14_bd {V : List Int} (h : ∀ x ∈ V, 0 ≤ x ∧ x ≤ 65535) (κ i u : Int) : ∀ y ∈ dV14 V κ i u, 0 ≤ y ∧ y ≤ 65535 := by
  unfold dV14
  split
  · exact put14_bd h i u
  · exact h

section
variable {t p a b : Nat} {k v : Value} {V E K : List Int} {T : List Tch}

theorem PtP.since {ans : Value} {w w1 w' : World} {e : Ending} {V' K' : List Int} {T' : List Tch} (hb : Below w.heap.size w w1) (h : PtP t p a b k v V' E K' T' ans w1 e w') : PtP t p a b k v V' E K' T' ans w e w' := by
  obtain ⟨k', v', he, h1, h2, h3, h4⟩ := h
  have := hb.size
  exact ⟨k', v', he, h1, (Only.of_below hb _).trans h2, h3.imp id (fun ⟨g, a1, a2⟩ => ⟨g, a1, by omega⟩), h4.imp id (fun ⟨g, a1, a2⟩ => ⟨g, a1, by omega⟩)⟩

/-- A Trace as a port. -/
def tface14 (t : Nat) : Value := .iface 56 (.pointer (some ⟨t, 0, none⟩))
def touchV (κ i u : Int) : Value := .agg #[.int .i64 κ, .int .i64 i, .int .i64 u]

end

end Go.Proofs.YtgdbaaoifnedbaaDoor
