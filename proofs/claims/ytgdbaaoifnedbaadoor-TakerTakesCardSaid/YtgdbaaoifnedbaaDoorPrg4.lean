/-
  An argument that is a slice of integers of any kind, as a list that lies in memory.
  Conditions: those that each theorem states.
-/
import Derived.Test.YtgdbaaoifnedbaaDoorArgs
import Derived.ChangeSlices
namespace Go.Proofs.YtgdbaaoifnedbaaDoor
open Go.ChangeShapes Go.WideShapes Go.ChangeAt Go.RowKit Go.Deep Go.Joins

/-- Integers of a kind as cells. -/
def kints (k : IntKind) (l : List Int) : List Value := l.map (Value.int k)
theorem kints_len (k : IntKind) (l : List Int) : (kints k l).length = l.length := by simp [kints]
theorem kints_some {k : IntKind} {l : List Int} {i : Nat} {u : Int} (h : l[i]? = some u) : (kints k l)[i]? = some (.int k u) := by simp [kints, h]

section
variable {H : Type} {enc : TypeId × Value → H} {P : Program} {w : World} {base : Nat} {spare : Nat → Bool} {held : Bool}

theorem open_kind {r : Go.Reach} {b0 : Nat} {t e : TypeId} {κ : IntKind} {v : Value} {d : DataW H} {p : List MemPlace} (ht : P.underlying t = some (.slice e)) (he : P.underlying e = some (.int κ)) (hC : P.cellsOf e = 1)
    (hv : Value.okWide P w r b0 t v) (h : DataW.Trod enc P w base spare held t v d p) : ∃ x : List Int, Lies w (fun _ => True) v (kints κ x) ∧ x.length ≤ maxLen ∧ ∀ z ∈ x, (Lit.int κ z).wf = true := by
  obtain ⟨A, len, cap, rfl⟩ := okWide_slice ht hv
  obtain ⟨fuel, hf⟩ := h
  rcases open_ints ht he hC hf with ⟨hcs, _⟩ | ⟨a, len', cap', zs, hcs, _, hl, hm, hzl, _, hat, hwf⟩
  · simp [Value.cells] at hcs
    obtain ⟨rfl, rfl, rfl⟩ := hcs
    exact ⟨[], Lies.nil_ _ _, by simp, fun z hz => by cases hz⟩
  · simp [Value.cells] at hcs
    obtain ⟨rfl, rfl, rfl⟩ := hcs
    have hlz : len ≤ zs.length := by rw [hzl]; split <;> omega
    have htl : (zs.take len).length = len := by rw [List.length_take]; omega
    refine ⟨zs.take len, ⟨some a, cap, by rw [kints_len, htl], fun hp => ?_⟩, by rw [htl]; omega, fun z hz => hwf z (List.mem_of_mem_take hz)⟩
    rw [kints_len, htl] at hp
    have h0 := hat 0 (by omega)
    have hlt := World.block_lt_of_cell? w _ h0
    obtain ⟨g, o, s⟩ := a
    have hs : s = none := by
      cases s with
      | none => rfl
      | some q =>
        exfalso
        unfold World.cell? at h0
        simp only [Addr.add] at h0
        split at h0
        · simp at h0
        · cases h0
    subst hs
    refine ⟨g, o, rfl, trivial, by simpa [Addr.add] using hlt, fun j u hu => ?_⟩
    have hj : j < len := by have := (List.getElem?_eq_some_iff.1 hu).1; rwa [kints_len, htl] at this
    have hx := hat j (by omega)
    rw [Addr.add_lit] at hx
    rw [hx]
    have : (kints κ (zs.take len))[j]? = some (.int κ (zs.getD j 0)) := by
      refine kints_some ?_
      rw [List.getElem?_take, if_pos hj, List.getElem?_eq_getElem (by omega), List.getD_eq_getElem?_getD, List.getElem?_eq_getElem (by omega)]
      rfl
    rw [this] at hu
    exact hu
end

/-- A slice of such integers, opened. -/
theorem kind_at {w : World} {P : Nat → Prop} {κ : IntKind} {A : Option Addr} {n c i : Nat} {l : List Int} {u : Int} (h : Lies w P (.slice A n c) (kints κ l)) (hu : l[i]? = some u) : ∃ g o, A = some ⟨g, o, none⟩ ∧ P g ∧ g < w.heap.size ∧ w.cell? ⟨g, o + i, none⟩ = some (.int κ u) := by
  obtain ⟨A', c', hv, hc⟩ := h
  injection hv with e1 e2 e3
  subst e1
  obtain ⟨g, o, rfl, hP, hg, hcell⟩ := hc (by rw [kints_len]; have := (List.getElem?_eq_some_iff.1 hu).1; omega)
  exact ⟨g, o, rfl, hP, hg, hcell i _ (kints_some hu)⟩

#print axioms open_kind
end Go.Proofs.YtgdbaaoifnedbaaDoor
