/-
  An argument that is a slice of slices of operations, as programs.
  An argument that is a slice of slices of operations, as programs whose lists lie in memory (the form's own reach).
  Conditions: those that each theorem states.
-/
import Derived.Test.YtgljgpllooehkaaLit8
import Derived.SizedLaws
namespace Go.Proofs.Ytgljgpllooehkaa
open Go.ChangeShapes Go.WideShapes Go.ChangeAt Go.RowKit Go.Deep Go.Joins

section
variable {H : Type} {enc : TypeId × Value → H} {P : Program} {w : World} {base : Nat} {spare : Nat → Bool} {held : Bool}

/-- A slice of structs of integers, as its reading has it. -/
theorem recs_trod {t e : TypeId} {fs : Array Field} {fuel : Nat} {cs : List Value} {x : DataW H × List MemPlace} (ht : P.underlying t = some (.slice e)) (he : P.underlying e = some (.struct fs)) (hone : oneCellFields P fs = true)
    (hint : fs.toList.all (intField P) = true) (hC : P.cellsOf e = fs.size) (hpos : 0 < fs.size) (hf : DataW.trod enc P w base spare held fuel t cs = some x) :
    ∃ (v : Value) (recs : List (List Int)), cs = [v] ∧ Recs w fs.size v recs := by
  rcases open_slice ht hf with ⟨hcs, _⟩ | ⟨a, len, cap, m, n, D, Pl, hcs, _, hl, hm, hmm, _, hi⟩
  · exact ⟨_, [], hcs, ⟨none, 0, rfl, fun h => absurd h (by simp)⟩⟩
  · have hlm : len ≤ m := by subst hmm; split <;> omega
    have each : ∀ i, ∃ zs : List Int, i < len → zs.length = fs.size ∧ (∀ z ∈ zs, -9223372036854775808 ≤ z ∧ z ≤ 9223372036854775807) ∧ ∀ j u, (ints zs)[j]? = some u → w.cell? ((a.add (i * fs.size)).add j) = some u := by
      intro i
      by_cases hil : i < len
      · obtain ⟨cs', hc, htr⟩ := hi i (by omega)
        rw [hC] at hc
        obtain ⟨zs, rfl, hzl, hzb⟩ := trod_rec he hone hint hC htr
        obtain ⟨_, hcl, hat⟩ := World.cells?_some hc
        refine ⟨zs, fun _ => ⟨hzl, hzb, fun j u hu => ?_⟩⟩
        rw [hat j (by have := (List.getElem?_eq_some_iff.1 hu).1; omega)]
        exact hu
      · exact ⟨[], fun h => absurd h hil⟩
    obtain ⟨f, hf'⟩ := Classical.axiomOfChoice each
    refine ⟨_, (List.range len).map f, hcs, ⟨some a, cap, by simp, fun hp => ⟨a, rfl, ?_, fun k zs hk => ?_⟩⟩⟩
    · simp at hp
      obtain ⟨h1, _, h3⟩ := hf' 0 hp
      have hz0 : (ints (f 0))[0]? = some ((ints (f 0))[0]'(by rw [ints_len, h1]; exact hpos)) := List.getElem?_eq_getElem _
      have := World.block_lt_of_cell? w _ (h3 0 _ hz0)
      simpa [Addr.add] using this
    · have hkl : k < len := by have := (List.getElem?_eq_some_iff.1 hk).1; simpa using this
      simp only [List.getElem?_map, List.getElem?_range hkl, Option.map_some, Option.some.injEq] at hk
      subst hk
      exact hf' k hkl

/-- Records of four as operations. -/
def opOf (l : List Int) : Opn := ⟨l.getD 0 0, l.getD 1 0, l.getD 2 0, l.getD 3 0⟩

theorem recs_ops {v : Value} {R : List (List Int)} (h : Recs w 4 v R) : Recs w 4 v ((R.map opOf).map opL) := by
  have e : (R.map opOf).map opL = R := by
    rw [List.map_map]
    conv => rhs; rw [← List.map_id R]
    apply List.map_congr_left
    intro l hl
    obtain ⟨A, c, rfl, hA⟩ := h
    obtain ⟨k, hk⟩ := List.getElem?_of_mem hl
    obtain ⟨ad, _, _, hc⟩ := hA (by have := (List.getElem?_eq_some_iff.1 hk).1; omega)
    obtain ⟨x0, x1, x2, x3, rfl⟩ := list4 (hc k l hk).1
    rfl
  rw [e]
  exact h

/-- An argument of programs. -/
theorem open_prg {r : Go.Reach} {b0 : Nat} {t e0 e : TypeId} {fs : Array Field} {v : Value} {d : DataW H} {p : List MemPlace} (ht : P.underlying t = some (.slice e0)) (he0 : P.underlying e0 = some (.slice e)) (he : P.underlying e = some (.struct fs)) (hone : oneCellFields P fs = true)
    (hint : fs.toList.all (intField P) = true) (hC : P.cellsOf e = fs.size) (hs4 : fs.size = 4) (hC0 : P.cellsOf e0 = 1) (hv : Value.okWide P w r b0 t v) (h : DataW.Trod enc P w base spare held t v d p) :
    ∃ q : List (List Opn), Prg w v q := by
  obtain ⟨A, len, cap, rfl⟩ := okWide_slice ht hv
  obtain ⟨fuel, hf⟩ := h
  rcases open_slice ht hf with ⟨hcs, _⟩ | ⟨a, len', cap', m, n, D, Pl, hcs, _, hl, hm, hmm, _, hi⟩
  · simp [Value.cells] at hcs
    obtain ⟨rfl, rfl, rfl⟩ := hcs
    exact ⟨[], none, 0, rfl, fun h => absurd h (by simp)⟩
  · simp [Value.cells] at hcs
    obtain ⟨rfl, rfl, rfl⟩ := hcs
    have hlm : len ≤ m := by subst hmm; split <;> omega
    have each : ∀ i, ∃ l : List Opn, i < len → ∃ u, w.cell? (a.add i) = some u ∧ Recs w 4 u (l.map opL) := by
      intro i
      by_cases hil : i < len
      · obtain ⟨cs', hc, htr⟩ := hi i (by omega)
        rw [hC0, Nat.mul_one] at hc
        obtain ⟨u, R, rfl, hR⟩ := recs_trod he0 he hone hint hC (by omega) htr
        rw [hs4] at hR
        obtain ⟨_, hcl, hat⟩ := World.cells?_some hc
        have := hat 0 (by omega)
        refine ⟨R.map opOf, fun _ => ⟨u, ?_, recs_ops hR⟩⟩
        have e0 : (a.add i).add 0 = a.add i := by unfold Addr.add; split <;> split <;> simp_all
        rw [e0] at this
        simpa using this
      · exact ⟨[], fun h => absurd h hil⟩
    obtain ⟨f, hf'⟩ := Classical.axiomOfChoice each
    refine ⟨(List.range len).map f, some a, cap, by simp, fun hp => ⟨a, rfl, ?_, fun k l hk => ?_⟩⟩
    · simp at hp
      obtain ⟨u, hu, _⟩ := hf' 0 hp
      have := World.block_lt_of_cell? w _ hu
      simpa [Addr.add] using this
    · have hkl : k < len := by have := (List.getElem?_eq_some_iff.1 hk).1; simpa using this
      simp only [List.getElem?_map, List.getElem?_range hkl, Option.map_some, Option.some.injEq] at hk
      subst hk
      exact hf' k hkl
end

section
variable {H : Type} {enc : TypeId × Value → H} {P : Program} {w : World} {base : Nat} {spare : Nat → Bool} {held : Bool}

theorem weights_all {P : Program} {e : TypeId} : ∀ {ds : List (DataW H)} {d : DataW H}, d ∈ ds → ∀ n ∈ d.weights P e, n ∈ DataW.weightsAll P e ds
  | x :: ds, d, hd, n, hn => by
    simp only [DataW.weightsAll, List.mem_append]
    rcases List.mem_cons.1 hd with rfl | hd
    · exact .inl hn
    · exact .inr (weights_all hd n hn)

/-- A slice of structs of integers, as its reading has it, with its size. -/
theorem recs_trod2 {t e : TypeId} {fs : Array Field} {fuel : Nat} {cs : List Value} {x : DataW H × List MemPlace} (ht : P.underlying t = some (.slice e)) (he : P.underlying e = some (.struct fs)) (hone : oneCellFields P fs = true)
    (hint : fs.toList.all (intField P) = true) (hC : P.cellsOf e = fs.size) (hpos : 0 < fs.size) (hf : DataW.trod enc P w base spare held fuel t cs = some x) (hz : ∀ n ∈ x.1.weights P t, n ≤ reachBytes) :
    ∃ (v : Value) (recs : List (List Int)), cs = [v] ∧ Recs w fs.size v recs ∧ recs.length * P.bytesOf e ≤ reachBytes := by
  rcases open_slice ht hf with ⟨hcs, _⟩ | ⟨a, len, cap, m, n, D, Pl, hcs, _, hl, hm, hmm, hx, hi⟩
  · exact ⟨_, [], hcs, ⟨none, 0, rfl, fun h => absurd h (by simp)⟩, by simp⟩
  · have hlm : len ≤ m := by subst hmm; split <;> omega
    have each : ∀ i, ∃ zs : List Int, i < len → zs.length = fs.size ∧ (∀ z ∈ zs, -9223372036854775808 ≤ z ∧ z ≤ 9223372036854775807) ∧ ∀ j u, (ints zs)[j]? = some u → w.cell? ((a.add (i * fs.size)).add j) = some u := by
      intro i
      by_cases hil : i < len
      · obtain ⟨cs', hc, htr⟩ := hi i (by omega)
        rw [hC] at hc
        obtain ⟨zs, rfl, hzl, hzb⟩ := trod_rec he hone hint hC htr
        obtain ⟨_, hcl, hat⟩ := World.cells?_some hc
        refine ⟨zs, fun _ => ⟨hzl, hzb, fun j u hu => ?_⟩⟩
        rw [hat j (by have := (List.getElem?_eq_some_iff.1 hu).1; omega)]
        exact hu
      · exact ⟨[], fun h => absurd h hil⟩
    obtain ⟨f, hf'⟩ := Classical.axiomOfChoice each
    refine ⟨_, (List.range len).map f, hcs, ⟨some a, cap, by simp, fun hp => ⟨a, rfl, ?_, fun k zs hk => ?_⟩⟩, ?_⟩
    · simp at hp
      obtain ⟨h1, _, h3⟩ := hf' 0 hp
      have hz0 : (ints (f 0))[0]? = some ((ints (f 0))[0]'(by rw [ints_len, h1]; exact hpos)) := List.getElem?_eq_getElem _
      have := World.block_lt_of_cell? w _ (h3 0 _ hz0)
      simpa [Addr.add] using this
    · have hkl : k < len := by have := (List.getElem?_eq_some_iff.1 hk).1; simpa using this
      simp only [List.getElem?_map, List.getElem?_range hkl, Option.map_some, Option.some.injEq] at hk
      subst hk
      exact hf' k hkl
    · have h1 := hz ((len + (m - len)) * P.bytesOf e) (by rw [hx]; simp [DataW.weights, ht])
      rw [List.length_map, List.length_range]
      exact Nat.le_trans (Nat.mul_le_mul_right _ (by omega)) h1

/-- An argument of programs, with the sizes of its lists. -/
theorem open_prg2 {r : Go.Reach} {b0 : Nat} {t e0 e : TypeId} {fs : Array Field} {v : Value} {d : DataW H} {p : List MemPlace} (ht : P.underlying t = some (.slice e0)) (he0 : P.underlying e0 = some (.slice e)) (he : P.underlying e = some (.struct fs)) (hone : oneCellFields P fs = true)
    (hint : fs.toList.all (intField P) = true) (hC : P.cellsOf e = fs.size) (hs4 : fs.size = 4) (hC0 : P.cellsOf e0 = 1) (hv : Value.okWide P w r b0 t v) (h : DataW.Trod enc P w base spare held t v d p) (hz : ∀ n ∈ d.weights P t, n ≤ reachBytes) :
    ∃ q : List (List Opn), Prg w v q ∧ q.length * P.bytesOf e0 ≤ reachBytes ∧ ∀ l ∈ q, l.length * P.bytesOf e ≤ reachBytes := by
  obtain ⟨A, len, cap, rfl⟩ := okWide_slice ht hv
  obtain ⟨fuel, hf⟩ := h
  rcases open_slice ht hf with ⟨hcs, _⟩ | ⟨a, len', cap', m, n, D, Pl, hcs, _, hl, hm, hmm, hx, hi⟩
  · simp [Value.cells] at hcs
    obtain ⟨rfl, rfl, rfl⟩ := hcs
    exact ⟨[], ⟨none, 0, rfl, fun h => absurd h (by simp)⟩, by simp, by simp⟩
  · simp [Value.cells] at hcs
    obtain ⟨rfl, rfl, rfl⟩ := hcs
    have hlm : len ≤ m := by subst hmm; split <;> omega
    have hd : d = .slice ((List.range len).map D) ((List.range (m - len)).map fun j => D (len + j)) := congrArg Prod.fst hx
    have each : ∀ i, ∃ l : List Opn, i < len → ∃ u, w.cell? (a.add i) = some u ∧ Recs w 4 u (l.map opL) ∧ l.length * P.bytesOf e ≤ reachBytes := by
      intro i
      by_cases hil : i < len
      · obtain ⟨cs', hc, htr⟩ := hi i (by omega)
        rw [hC0, Nat.mul_one] at hc
        obtain ⟨u, R, rfl, hR, hRl⟩ := recs_trod2 he0 he hone hint hC (by omega) htr (fun n hn => hz n (by
          rw [hd]
          simp only [DataW.weights, ht, List.mem_cons, List.mem_append]
          exact .inr (.inl (weights_all (List.mem_map.2 ⟨i, List.mem_range.2 hil, rfl⟩) n hn))))
        rw [hs4] at hR
        obtain ⟨_, hcl, hat⟩ := World.cells?_some hc
        have := hat 0 (by omega)
        refine ⟨R.map opOf, fun _ => ⟨u, ?_, recs_ops hR, by rw [List.length_map]; exact hRl⟩⟩
        have e0 : (a.add i).add 0 = a.add i := by unfold Addr.add; split <;> split <;> simp_all
        rw [e0] at this
        simpa using this
      · exact ⟨[], fun h => absurd h hil⟩
    obtain ⟨f, hf'⟩ := Classical.axiomOfChoice each
    refine ⟨(List.range len).map f, ⟨some a, cap, by simp, fun hp => ⟨a, rfl, ?_, fun k l hk => ?_⟩⟩, ?_, fun l hl' => ?_⟩
    · simp at hp
      obtain ⟨u, hu, _⟩ := hf' 0 hp
      have := World.block_lt_of_cell? w _ hu
      simpa [Addr.add] using this
    · have hkl : k < len := by have := (List.getElem?_eq_some_iff.1 hk).1; simpa using this
      simp only [List.getElem?_map, List.getElem?_range hkl, Option.map_some, Option.some.injEq] at hk
      subst hk
      obtain ⟨u, h1, h2, _⟩ := hf' k hkl
      exact ⟨u, h1, h2⟩
    · have h1 := hz ((len + (m - len)) * P.bytesOf e0) (by rw [hd]; simp [DataW.weights, ht])
      rw [List.length_map, List.length_range]
      exact Nat.le_trans (Nat.mul_le_mul_right _ (by omega)) h1
    · obtain ⟨i, hi', rfl⟩ := List.mem_map.1 hl'
      obtain ⟨_, _, _, h3⟩ := hf' i (List.mem_range.1 hi')
      exact h3
end

#print axioms open_prg
#print axioms open_prg2
end Go.Proofs.Ytgljgpllooehkaa
