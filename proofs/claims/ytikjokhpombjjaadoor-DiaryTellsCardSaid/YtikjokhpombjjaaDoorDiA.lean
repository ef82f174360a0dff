/-
  Layer 19 (diary): a word of an entry's list.
  Conditions: those that the theorem states.
-/
import Derived.Test.YtikjokhpombjjaaDoorDi2
namespace Go.Proofs.YtikjokhpombjjaaDoor
open Go.ChangeShapes Go.WideShapes Go.ChangeAt Go.RowKit

theorem ld_at {w : World} {x : En} {A : Option Addr} {n c k : Nat} {y : Int} (h : Ld w x (.slice A n c)) (hk : x.load[k]? = some y) : ∃ g o, A = some ⟨g, o, none⟩ ∧ g < w.heap.size ∧ w.cell? ⟨g, o + k, none⟩ = some (.int .i64 y) := by
  obtain ⟨⟨A', c', hv, hA⟩, _⟩ := h
  injection hv with e1 e2 e3
  subst e1
  have hlt := lt_of_at hk
  obtain ⟨g, o, rfl, _, hg, hc⟩ := hA (by rw [ints_len]; omega)
  exact ⟨g, o, rfl, hg, hc k _ (ints_some hk)⟩

#print axioms ld_at
end Go.Proofs.YtikjokhpombjjaaDoor
