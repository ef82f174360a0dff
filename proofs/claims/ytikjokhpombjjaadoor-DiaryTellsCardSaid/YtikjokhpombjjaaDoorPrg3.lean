/-
  An argument that is a slice of integers, as a list that lies in memory.
  Conditions: those that each theorem states.
-/
import Derived.Test.YtikjokhpombjjaaDoorArgs
import Derived.ChangeSlices
namespace Go.Proofs.YtikjokhpombjjaaDoor
open Go.ChangeShapes Go.WideShapes Go.ChangeAt Go.RowKit Go.Deep Go.Joins

section
variable {H : Type} {enc : TypeId × Value → H} {P : Program} {w : World} {base : Nat} {spare : Nat → Bool} {held : Bool}

theorem open_list {r : Go.Reach} {b0 : Nat} {t e : TypeId} {v : Value} {d : DataW H} {p : List MemPlace} (ht : P.underlying t = some (.slice e)) (he : P.underlying e = some (.int .i64)) (hC : P.cellsOf e = 1)
    (hv : Value.okWide P w r b0 t v) (h : DataW.Trod enc P w base spare held t v d p) : ∃ x : List Int, Lies w (fun _ => True) v (ints x) ∧ x.length ≤ maxLen := by
  obtain ⟨A, len, cap, rfl⟩ := okWide_slice ht hv
  obtain ⟨fuel, hf⟩ := h
  rcases open_ints ht he hC hf with ⟨hcs, _⟩ | ⟨a, len', cap', zs, hcs, _, hl, hm, hzl, _, hat, _⟩
  · simp [Value.cells] at hcs
    obtain ⟨rfl, rfl, rfl⟩ := hcs
    exact ⟨[], Lies.nil_ _ _, by simp⟩
  · simp [Value.cells] at hcs
    obtain ⟨rfl, rfl, rfl⟩ := hcs
    have hlz : len ≤ zs.length := by rw [hzl]; split <;> omega
    have htl : (zs.take len).length = len := by rw [List.length_take]; omega
    refine ⟨zs.take len, ⟨some a, cap, by rw [ints_len, htl], fun hp => ?_⟩, by rw [htl]; omega⟩
    rw [ints_len, htl] at hp
    have h0 := hat 0 (by omega)
    have hlt := World.block_lt_of_cell? w _ h0
    obtain ⟨g, o, s⟩ := a
    have hs : s = none := by
      cases s with
      | none => rfl
      | some q =>
        exfalso
        unfold World.cell? at h0
        simp only [Addr.add] at h0
        split at h0
        · simp at h0
        · cases h0
    subst hs
    refine ⟨g, o, rfl, trivial, by simpa [Addr.add] using hlt, fun j u hu => ?_⟩
    have hj : j < len := by have := (List.getElem?_eq_some_iff.1 hu).1; rwa [ints_len, htl] at this
    have hx := hat j (by omega)
    rw [Addr.add_lit] at hx
    rw [hx]
    have : (ints (zs.take len))[j]? = some (.int .i64 (zs.getD j 0)) := by
      refine ints_some ?_
      rw [List.getElem?_take, if_pos hj, List.getElem?_eq_getElem (by omega), List.getD_eq_getElem?_getD, List.getElem?_eq_getElem (by omega)]
      rfl
    rw [this] at hu
    exact hu

/-- The same, with the size of the list. -/
theorem open_list_sized {r : Go.Reach} {b0 : Nat} {t e : TypeId} {v : Value} {d : DataW H} {p : List MemPlace} (ht : P.underlying t = some (.slice e)) (he : P.underlying e = some (.int .i64)) (hC : P.cellsOf e = 1)
    (hv : Value.okWide P w r b0 t v) (h : DataW.Trod enc P w base spare held t v d p) (hz : ∀ n ∈ d.weights P t, n ≤ reachBytes) : ∃ x : List Int, Lies w (fun _ => True) v (ints x) ∧ x.length * P.bytesOf e ≤ reachBytes := by
  obtain ⟨x, hx, _⟩ := open_list ht he hC hv h
  obtain ⟨A, len, cap, rfl⟩ := okWide_slice ht hv
  have hlen : x.length = len := by
    obtain ⟨A', c', e1, _⟩ := hx
    injection e1 with _ e2 _
    rw [e2, ints_len]
  refine ⟨x, hx, ?_⟩
  obtain ⟨fuel, hf⟩ := h
  rcases open_slice ht hf with ⟨hcs, _⟩ | ⟨a, len', cap', m, n, D, Pl, hcs, _, hl, hm, hmm, hd, hi⟩
  · simp [Value.cells] at hcs
    obtain ⟨rfl, rfl, rfl⟩ := hcs
    rw [hlen]
    simp
  · simp [Value.cells] at hcs
    obtain ⟨rfl, rfl, rfl⟩ := hcs
    have hd' : d = .slice ((List.range len).map D) ((List.range (m - len)).map fun j => D (len + j)) := congrArg Prod.fst hd
    have h1 := hz ((len + (m - len)) * P.bytesOf e) (by rw [hd']; simp [DataW.weights, ht])
    rw [hlen]
    exact Nat.le_trans (Nat.mul_le_mul_right _ (Nat.le_add_right _ _)) h1

end

#print axioms open_list
#print axioms open_list_sized
end Go.Proofs.YtikjokhpombjjaaDoor
