/-
  Layer 19 (diary): an argument that is a slice of entries.
  Conditions: those that each theorem states.
-/
import Derived.Test.YtikjokhpombjjaaDoorPrg3
import Derived.Test.YtikjokhpombjjaaDoorDi
import Derived.Deep.Slices
namespace Go.Proofs.YtikjokhpombjjaaDoor
open Go.ChangeShapes Go.WideShapes Go.ChangeAt Go.RowKit Go.Deep Go.Joins

def R64 (z : Int) : Prop := -9223372036854775808 ≤ z ∧ z ≤ 9223372036854775807
/-- An entry's fields are integers of the machine. -/
def Rng19 (x : En) : Prop := R64 x.core ∧ R64 x.peer ∧ R64 x.kind ∧ R64 x.beg ∧ R64 x.fin ∧ R64 x.err ∧ R64 x.hnd

theorem r64_of {n : Int} (h : (Lit.int .i64 n).wf = true) : R64 n := by
  simp [Lit.wf, IntKind.min, IntKind.max, IntKind.signed, IntKind.bits] at h
  exact h

section
variable {H : Type} {enc : TypeId × Value → H} {w : World} {base : Nat} {spare : Nat → Bool} {held : Bool}

/-- A slice of integers, as its reading in a struct has it. -/
theorem list19_trod {t e : TypeId} {fuel : Nat} {cs : List Value} {x : DataW H × List MemPlace} (ht : Tryd.prog.underlying t = some (.slice e)) (he : Tryd.prog.underlying e = some (.int .i64)) (hC : Tryd.prog.cellsOf e = 1)
    (hf : DataW.trod enc Tryd.prog w base spare held fuel t cs = some x) : ∃ (u : Value) (l : List Int), cs = [u] ∧ Lies w (fun _ => True) u (ints l) ∧ CapOk u := by
  rcases open_ints ht he hC hf with ⟨hcs, _⟩ | ⟨a, len, cap, zs, hcs, _, hl, hm, hzl, _, hat, _⟩
  · exact ⟨_, [], hcs, Lies.nil_ _ _, rfl⟩
  · have hlz : len ≤ zs.length := by rw [hzl]; split <;> omega
    have htl : (zs.take len).length = len := by rw [List.length_take]; omega
    refine ⟨_, zs.take len, hcs, ⟨some a, cap, by rw [ints_len, htl], fun hp => ?_⟩, hl⟩
    rw [ints_len, htl] at hp
    have h0 := hat 0 (by omega)
    have hlt := World.block_lt_of_cell? w _ h0
    obtain ⟨g, o, s⟩ := a
    have hs : s = none := by
      cases s with
      | none => rfl
      | some q =>
        exfalso
        unfold World.cell? at h0
        simp only [Addr.add] at h0
        split at h0
        · simp at h0
        · cases h0
    subst hs
    refine ⟨g, o, rfl, trivial, by simpa [Addr.add] using hlt, fun j u hu => ?_⟩
    have hj : j < len := by have := (List.getElem?_eq_some_iff.1 hu).1; rwa [ints_len, htl] at this
    have hx := hat j (by omega)
    rw [Addr.add_lit] at hx
    rw [hx]
    have : (ints (zs.take len))[j]? = some (.int .i64 (zs.getD j 0)) := by
      refine ints_some ?_
      rw [List.getElem?_take, if_pos hj, List.getElem?_eq_getElem (by omega), List.getD_eq_getElem?_getD, List.getElem?_eq_getElem (by omega)]
      rfl
    rw [this] at hu
    exact hu

set_option maxRecDepth 100000 in
set_option maxHeartbeats 1000000 in
/-- One entry, opened. -/
theorem entry_trod {fuel : Nat} {cs : List Value} {x : DataW H × List MemPlace}
    (h : DataW.trod enc Tryd.prog w base spare held fuel 38 cs = some x) : ∃ (e : En) (u : Value), cs = row19 e u ∧ Lies w (fun _ => True) u (ints e.load) ∧ CapOk u ∧ Rng19 e := by
  obtain ⟨xs, n, -, rfl, hl, hlen, hf⟩ := DataW.trod_struct Tryd.underlying38 h
  have c1 : Tryd.prog.cellsOf 3 = 1 := by kernel_rfl
  have c2 : Tryd.prog.cellsOf 36 = 1 := by kernel_rfl
  have c4 : Tryd.prog.cellsOf 35 = 1 := by kernel_rfl
  have c3 : Tryd.prog.cellsOf 38 = 8 := by kernel_rfl
  rw [c3] at hl
  match xs, hlen with
  | [y0, y1, y2, y3, y4, y5, y6, y7], _ =>
    match cs, hl with
    | [v0, v1, v2, v3, v4, v5, v6, v7], _ =>
      have f0 := hf 0 _ rfl
      have f1 := hf 1 _ rfl
      have f2 := hf 2 _ rfl
      have f3 := hf 3 _ rfl
      have f4 := hf 4 _ rfl
      have f5 := hf 5 _ rfl
      have f6 := hf 6 _ rfl
      have f7 := hf 7 _ rfl
      replace f0 : DataW.trod enc Tryd.prog w base spare held n 3 ((List.drop 0 [v0, v1, v2, v3, v4, v5, v6, v7]).take (Tryd.prog.cellsOf 3)) = _ := f0
      replace f1 : DataW.trod enc Tryd.prog w base spare held n 3 ((List.drop 1 [v0, v1, v2, v3, v4, v5, v6, v7]).take (Tryd.prog.cellsOf 3)) = _ := f1
      replace f2 : DataW.trod enc Tryd.prog w base spare held n 3 ((List.drop 2 [v0, v1, v2, v3, v4, v5, v6, v7]).take (Tryd.prog.cellsOf 3)) = _ := f2
      replace f3 : DataW.trod enc Tryd.prog w base spare held n 3 ((List.drop 3 [v0, v1, v2, v3, v4, v5, v6, v7]).take (Tryd.prog.cellsOf 3)) = _ := f3
      replace f4 : DataW.trod enc Tryd.prog w base spare held n 3 ((List.drop 4 [v0, v1, v2, v3, v4, v5, v6, v7]).take (Tryd.prog.cellsOf 3)) = _ := f4
      replace f5 : DataW.trod enc Tryd.prog w base spare held n 35 ((List.drop 5 [v0, v1, v2, v3, v4, v5, v6, v7]).take (Tryd.prog.cellsOf 35)) = _ := f5
      replace f6 : DataW.trod enc Tryd.prog w base spare held n 36 ((List.drop 6 [v0, v1, v2, v3, v4, v5, v6, v7]).take (Tryd.prog.cellsOf 36)) = _ := f6
      replace f7 : DataW.trod enc Tryd.prog w base spare held n 3 ((List.drop 7 [v0, v1, v2, v3, v4, v5, v6, v7]).take (Tryd.prog.cellsOf 3)) = _ := f7
      rw [c1] at f0 f1 f2 f3 f4 f7
      rw [c4] at f5
      rw [c2] at f6
      simp only [List.drop_zero, List.take_succ_cons, List.take_zero, List.drop_succ_cons, List.getElem?_cons_zero, List.getElem?_cons_succ] at f0 f1 f2 f3 f4 f5 f6 f7
      obtain ⟨n0, g0, -, w0⟩ := DataW.trod_int Tryd.underlying3 f0
      obtain ⟨n1, g1, -, w1⟩ := DataW.trod_int Tryd.underlying3 f1
      obtain ⟨n2, g2, -, w2⟩ := DataW.trod_int Tryd.underlying3 f2
      obtain ⟨n3, g3, -, w3⟩ := DataW.trod_int Tryd.underlying3 f3
      obtain ⟨n4, g4, -, w4⟩ := DataW.trod_int Tryd.underlying3 f4
      obtain ⟨n5, g5, -, w5⟩ := DataW.trod_int Tryd.underlying35 f5
      obtain ⟨n7, g7, -, w7⟩ := DataW.trod_int Tryd.underlying3 f7
      obtain ⟨u, l, hu, hl3, hc3⟩ := list19_trod Tryd.underlying36 Tryd.underlying3 c1 f6
      injection g0 with g0
      injection g1 with g1
      injection g2 with g2
      injection g3 with g3
      injection g4 with g4
      injection g5 with g5
      injection g7 with g7
      injection hu with hu
      exact ⟨⟨n0, n1, n2, n3, n4, n5, l, n7⟩, u, by rw [g0, g1, g2, g3, g4, g5, hu, g7]; rfl, hl3, hc3, r64_of w0, r64_of w1, r64_of w2, r64_of w3, r64_of w4, r64_of w5, r64_of w7⟩

set_option maxRecDepth 100000 in
/-- An argument of entries. -/
theorem open_ens {r : Go.Reach} {b0 : Nat} {v : Value} {d : DataW H} {p : List MemPlace} (hv : Value.okWide Tryd.prog w r b0 22 v) (h : DataW.Trod enc Tryd.prog w base spare held 22 v d p) :
    ∃ l : List En, Ens w v l ∧ l.length ≤ maxLen ∧ ∀ x ∈ l, Rng19 x := by
  obtain ⟨A, len, cap, rfl⟩ := okWide_slice Tryd.underlying22 hv
  obtain ⟨fuel, hf⟩ := h
  rcases open_slice Tryd.underlying22 hf with ⟨hcs, _⟩ | ⟨a, len', cap', m, n, D, Pl, hcs, _, hl, hm, hmm, _, hi⟩
  · simp [Value.cells] at hcs
    obtain ⟨rfl, rfl, rfl⟩ := hcs
    exact ⟨[], ⟨none, 0, rfl, fun h => absurd h (by simp)⟩, by simp, fun x hx => by cases hx⟩
  · simp [Value.cells] at hcs
    obtain ⟨rfl, rfl, rfl⟩ := hcs
    have hC : Tryd.prog.cellsOf 38 = 8 := by kernel_rfl
    have hlm : len ≤ m := by subst hmm; split <;> omega
    obtain ⟨g, o, s⟩ := a
    by_cases hlen : len = 0
    · subst hlen
      exact ⟨[], ⟨some ⟨g, o, s⟩, cap, rfl, fun h => absurd h (by simp)⟩, by simp, fun x hx => by cases hx⟩
    have hs : s = none := by
      obtain ⟨cs', hc, htr⟩ := hi 0 (by omega)
      rw [hC] at hc
      obtain ⟨x', u', rfl, _⟩ := entry_trod htr
      obtain ⟨_, hcl, hat⟩ := World.cells?_some hc
      have h0 := hat 0 (by omega)
      cases s with
      | none => rfl
      | some q =>
        exfalso
        unfold World.cell? at h0
        simp only [Addr.add] at h0
        split at h0
        · simp [row19] at h0
        · cases h0
    subst hs
    have each : ∀ i, ∃ x : En, i < len → EnAt w g (o + i * 8) x ∧ Rng19 x := by
      intro i
      by_cases hil : i < len
      · obtain ⟨cs', hc, htr⟩ := hi i (by omega)
        rw [hC] at hc
        obtain ⟨x', u', rfl, hl', hc', hr'⟩ := entry_trod htr
        obtain ⟨_, hcl, hat⟩ := World.cells?_some hc
        refine ⟨x', fun _ => ⟨⟨u', fun j v hv => ?_, hl', hc'⟩, hr'⟩⟩
        have hj : j < 8 := lt_of_at hv
        have hx := hat j (by omega)
        rw [Addr.add_lit, Addr.add_lit] at hx
        exact hx.trans hv
      · exact ⟨⟨0, 0, 0, 0, 0, 0, [], 0⟩, fun h => absurd h hil⟩
    obtain ⟨f, hf'⟩ := Classical.axiomOfChoice each
    refine ⟨(List.range len).map f, ⟨some ⟨g, o, none⟩, cap, by simp, fun hp => ⟨g, o, rfl, ?_, fun k x hk => ?_⟩⟩, by simp; omega, fun x hx => ?_⟩
    · obtain ⟨⟨u, h0, _⟩, _⟩ := hf' 0 (by omega)
      exact World.block_lt_of_cell? w _ (h0 0 _ rfl)
    · have hkl : k < len := by have := (List.getElem?_eq_some_iff.1 hk).1; simpa using this
      simp only [List.getElem?_map, List.getElem?_range hkl, Option.map_some, Option.some.injEq] at hk
      subst hk
      exact (hf' k hkl).1
    · simp only [List.mem_map, List.mem_range] at hx
      obtain ⟨k, hk, rfl⟩ := hx
      exact (hf' k hk).2
end

#print axioms open_ens
end Go.Proofs.YtikjokhpombjjaaDoor
