/-
  Arguments as data, second part: structs whose cells are all integers, however nested, and slices of such structs.
  Conditions: those that each theorem states.
-/
import Derived.Test.YtgdbaaoifnedbaaDoorArgs
import Derived.ChangeSame
namespace Go.Proofs.YtgdbaaoifnedbaaDoor
open Go.ChangeShapes Go.WideShapes Go.ChangeAt Go.RowKit Go.Deep Go.Joins

section
variable {H : Type} {enc : TypeId × Value → H} {P : Program} {w : World} {base : Nat} {spare : Nat → Bool} {held : Bool}

/-- What is read of the type t is n integers, cell by cell. -/
def IntsOf (enc : TypeId × Value → H) (P : Program) (w : World) (base : Nat) (spare : Nat → Bool) (held : Bool) (t : TypeId) (n : Nat) : Prop :=
  ∀ (fuel : Nat) (cs : List Value) (x : DataW H × List MemPlace), DataW.trod enc P w base spare held fuel t cs = some x → ∃ zs : List Int, cs = ints zs ∧ zs.length = n ∧ ∀ z ∈ zs, -9223372036854775808 ≤ z ∧ z ≤ 9223372036854775807

theorem IntsOf.int {t : TypeId} (ht : P.underlying t = some (.int .i64)) : IntsOf enc P w base spare held t 1 := by
  intro fuel cs x h
  obtain ⟨z, hz, _, hwf⟩ := DataW.trod_int ht h
  refine ⟨[z], by rw [hz]; rfl, rfl, fun y hy => ?_⟩
  simp at hy
  subst hy
  exact bounds_i64 hwf

theorem IntsOf.rec_ {t : TypeId} {fs : Array Field} (ht : P.underlying t = some (.struct fs)) (hone : oneCellFields P fs = true) (hint : fs.toList.all (intField P) = true) (hC : P.cellsOf t = fs.size) : IntsOf enc P w base spare held t fs.size :=
  fun _ _ _ h => trod_rec ht hone hint hC h

/-- A struct of two fields, one behind the other. -/
theorem IntsOf.two {t : TypeId} {f0 f1 : Field} {n0 n1 : Nat} (ht : P.underlying t = some (.struct #[f0, f1])) (o0 : f0.offset = 0) (o1 : f1.offset = n0) (c0 : P.cellsOf f0.type = n0) (c1 : P.cellsOf f1.type = n1) (hC : P.cellsOf t = n0 + n1)
    (h0 : IntsOf enc P w base spare held f0.type n0) (h1 : IntsOf enc P w base spare held f1.type n1) : IntsOf enc P w base spare held t (n0 + n1) := by
  intro fuel cs x h
  obtain ⟨y0, y1, n, _, hl, e0, e1⟩ := trod_struct2 ht h
  rw [o0, c0, List.drop_zero] at e0
  rw [o1, c1] at e1
  rw [hC] at hl
  obtain ⟨z0, hz0, l0, b0⟩ := h0 _ _ _ e0
  obtain ⟨z1, hz1, l1, b1⟩ := h1 _ _ _ e1
  rw [List.take_of_length_le (by simp; omega)] at hz1
  refine ⟨z0 ++ z1, ?_, by rw [List.length_append, l0, l1], fun z hz => ?_⟩
  · rw [ints_append, ← hz0, ← hz1, List.take_append_drop]
  · rcases List.mem_append.1 hz with hz | hz
    · exact b0 z hz
    · exact b1 z hz

/-- An argument that is such a struct. -/
theorem open_rec2 {r : Reach} {b0 : Nat} {t : TypeId} {fs : Array Field} {n : Nat} {v : Value} {d : DataW H} {p : List MemPlace} (ht : P.underlying t = some (.struct fs)) (hI : IntsOf enc P w base spare held t n)
    (hv : Value.okWide P w r b0 t v) (h : DataW.Trod enc P w base spare held t v d p) :
    ∃ zs : List Int, v = .agg (ints zs).toArray ∧ zs.length = n ∧ ∀ z ∈ zs, -9223372036854775808 ≤ z ∧ z ≤ 9223372036854775807 := by
  obtain ⟨cs, rfl, hsz⟩ := okWide_struct ht hv
  obtain ⟨fuel, hf⟩ := h
  obtain ⟨zs, hz, hl, hb⟩ := hI _ _ _ hf
  refine ⟨zs, ?_, hl, hb⟩
  rw [← hz]
  simp [Value.cells]

/-- An argument that is a slice of such structs. -/
theorem open_recs2 {r : Reach} {b0 : Nat} {t e : TypeId} {N : Nat} {v : Value} {d : DataW H} {p : List MemPlace} (ht : P.underlying t = some (.slice e)) (hI : IntsOf enc P w base spare held e N) (hC : P.cellsOf e = N) (hpos : 0 < N)
    (hv : Value.okWide P w r b0 t v) (h : DataW.Trod enc P w base spare held t v d p) :
    ∃ recs : List (List Int), Recs w N v recs ∧ recs.length ≤ maxLen := by
  obtain ⟨A, len, cap, rfl⟩ := okWide_slice ht hv
  obtain ⟨fuel, hf⟩ := h
  rcases open_slice ht hf with ⟨hcs, _⟩ | ⟨a, len', cap', m, n, D, Pl, hcs, _, hl, hm, hmm, _, hi⟩
  · simp [Value.cells] at hcs
    obtain ⟨rfl, rfl, rfl⟩ := hcs
    exact ⟨[], ⟨none, 0, rfl, fun h => absurd h (by simp)⟩, by simp⟩
  · simp [Value.cells] at hcs
    obtain ⟨rfl, rfl, rfl⟩ := hcs
    have hlm : len ≤ m := by subst hmm; split <;> omega
    have each : ∀ i, ∃ zs : List Int, i < len → zs.length = N ∧ (∀ z ∈ zs, -9223372036854775808 ≤ z ∧ z ≤ 9223372036854775807) ∧ ∀ j u, (ints zs)[j]? = some u → w.cell? ((a.add (i * N)).add j) = some u := by
      intro i
      by_cases hil : i < len
      · obtain ⟨cs', hc, htr⟩ := hi i (by omega)
        rw [hC] at hc
        obtain ⟨zs, rfl, hzl, hzb⟩ := hI _ _ _ htr
        obtain ⟨_, hcl, hat⟩ := World.cells?_some hc
        refine ⟨zs, fun _ => ⟨hzl, hzb, fun j u hu => ?_⟩⟩
        rw [hat j (by have := (List.getElem?_eq_some_iff.1 hu).1; omega)]
        exact hu
      · exact ⟨[], fun h => absurd h hil⟩
    obtain ⟨f, hf'⟩ := Classical.axiomOfChoice each
    refine ⟨(List.range len).map f, ⟨some a, cap, by simp, fun hp => ⟨a, rfl, ?_, fun k zs hk => ?_⟩⟩, by simp; omega⟩
    · simp at hp
      obtain ⟨h1, _, h3⟩ := hf' 0 hp
      have hz0 : (ints (f 0))[0]? = some ((ints (f 0))[0]'(by rw [ints_len, h1]; exact hpos)) := List.getElem?_eq_getElem _
      have := World.block_lt_of_cell? w _ (h3 0 _ hz0)
      simpa [Addr.add] using this
    · have hkl : k < len := by have := (List.getElem?_eq_some_iff.1 hk).1; simpa using this
      simp only [List.getElem?_map, List.getElem?_range hkl, Option.map_some, Option.some.injEq] at hk
      subst hk
      exact hf' k hkl

/-- An argument that is a struct of a slice of records of integers, and of integers behind it. -/
theorem open_with {r : Reach} {b0 : Nat} {t e : TypeId} {f0 f1 : Field} {fs : Array Field} {n1 : Nat} {v : Value} {d : DataW H} {p : List MemPlace} (ht : P.underlying t = some (.struct #[f0, f1])) (o0 : f0.offset = 0) (o1 : f1.offset = 1) (c0 : P.cellsOf f0.type = 1) (c1 : P.cellsOf f1.type = n1) (hC : P.cellsOf t = 1 + n1)
    (hs : P.underlying f0.type = some (.slice e)) (he : P.underlying e = some (.struct fs)) (hone : oneCellFields P fs = true) (hint : fs.toList.all (intField P) = true) (hCe : P.cellsOf e = fs.size) (hpos : 0 < fs.size) (h1 : IntsOf enc P w base spare held f1.type n1)
    (hv : Value.okWide P w r b0 t v) (h : DataW.Trod enc P w base spare held t v d p) :
    ∃ (v0 : Value) (zs : List Int) (recs : List (List Int)), v = .agg (v0 :: ints zs).toArray ∧ zs.length = n1 ∧ Recs w fs.size v0 recs ∧ recs.length ≤ maxLen ∧ ∀ A n c, v0 = .slice A n c → n ≤ c := by
  obtain ⟨cs, rfl, hsz⟩ := okWide_struct ht hv
  obtain ⟨fuel, hf⟩ := h
  obtain ⟨y0, y1, n, _, hl, e0, e1⟩ := trod_struct2 ht hf
  rw [o0, c0, List.drop_zero] at e0
  rw [o1, c1] at e1
  rw [hC] at hl
  obtain ⟨v0, recs, hz0, hr, hm⟩ := trod_recs hs he hone hint hCe hpos e0
  obtain ⟨z1, hz1, l1, _⟩ := h1 _ _ _ e1
  rw [List.take_of_length_le (by rw [List.length_drop, hl]; omega)] at hz1
  have hcap0 : ∀ A n c, v0 = .slice A n c → n ≤ c := by
    rcases open_slice hs e0 with ⟨hcs, _⟩ | ⟨a, len, cap, m, n, D, Pl, hcs, _, hl, _⟩
    · rw [hz0] at hcs
      injection hcs with hcs
      intro A n c e
      rw [hcs] at e
      injection e with _ e1 e2
      omega
    · rw [hz0] at hcs
      injection hcs with hcs
      intro A n c e
      rw [hcs] at e
      injection e with _ e1 e2
      omega
  refine ⟨v0, z1, recs, ?_, l1, hr, hm, hcap0⟩
  have key : (Value.agg cs).cells.toList = v0 :: ints z1 := by
    have := List.take_append_drop 1 (Value.agg cs).cells.toList
    rw [hz0, hz1] at this
    exact this.symm
  simp only [Value.cells] at key
  rw [← key]

end

/-- The cells of a record of three, as a walk meets them. -/
theorem cells3 {w : World} {ad : Addr} {a b c : Int} (h : ∀ j u, (ints [a, b, c])[j]? = some u → w.cell? (ad.add j) = some u) :
    w.cell? ad = some (.int .i64 a) ∧ w.cell? ⟨ad.block, ad.off + 1, none⟩ = some (.int .i64 b) ∧ w.cell? ⟨ad.block, ad.off + 2, none⟩ = some (.int .i64 c) :=
  ⟨by simpa [Addr.add] using h 0 _ rfl, by simpa [Addr.add] using h 1 _ rfl, by simpa [Addr.add] using h 2 _ rfl⟩

/-- Record number k of a slice of records of three, in a world in which what was there has not changed. -/
theorem Recs.three {w wr : World} {v : Value} {recs : List (List Int)} {k : Nat} (h : Recs w 3 v recs) (hb : Below w.heap.size w wr) (hk : k < recs.length) :
    ∃ (ad : Addr) (c : Nat) (K x y : Int), recs[k]? = some [K, x, y] ∧ v = .slice (some ad) recs.length c ∧ (∀ z ∈ [K, x, y], -9223372036854775808 ≤ z ∧ z ≤ 9223372036854775807) ∧
      wr.cell? (ad.add (k * 3)) = some (.int .i64 K) ∧ wr.cell? ⟨(ad.add (k * 3)).block, (ad.add (k * 3)).off + 1, none⟩ = some (.int .i64 x) ∧ wr.cell? ⟨(ad.add (k * 3)).block, (ad.add (k * 3)).off + 2, none⟩ = some (.int .i64 y) ∧ ad.block < wr.heap.size := by
  obtain ⟨A, c, rfl, hA⟩ := h.below hb
  obtain ⟨ad, rfl, hlt, hc⟩ := hA (by omega)
  obtain ⟨zs, hzs⟩ : ∃ z, recs[k]? = some z := ⟨_, List.getElem?_eq_getElem hk⟩
  obtain ⟨h2, hz, hcell⟩ := hc k zs hzs
  obtain ⟨K, x, y, rfl⟩ := list3 h2
  obtain ⟨c0, c1, c2⟩ := cells3 hcell
  exact ⟨ad, c, K, x, y, hzs, rfl, hz, c0, c1, c2, hlt⟩

#print axioms open_recs2
#print axioms Recs.three
end Go.Proofs.YtgdbaaoifnedbaaDoor
