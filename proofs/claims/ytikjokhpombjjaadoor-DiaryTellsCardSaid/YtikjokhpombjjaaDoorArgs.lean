/-
  Arguments as data: structs and arrays of integers, slices of such structs; and that arguments read behind a call as before, if nothing that was there has changed.
  Conditions: those that each theorem states.
-/
import Derived.Test.YtikjokhpombjjaaDoorMem
import Derived.Test.YtikjokhpombjjaaDoorPost
import Derived.Deep.Slices
import Derived.Deep.Fields
import Derived.Lib.SmallJoins
import Derived.Carry
namespace Go.Proofs.YtikjokhpombjjaaDoor
open Go.ChangeShapes Go.WideShapes Go.ChangeAt Go.RowKit Go.Deep Go.Joins

theorem args_stay {H : Type} {enc : TypeId × Value → H} {P : Program} {W W' : World} {sp : Nat → Bool} (hl : laidOutB P = true) (hb : Below W.heap.size W W') :
    ∀ {ts : List TypeId} {vs : List Value} {ds : List (DataW H)} {ps : List MemPlace}, (∀ t ∈ ts, P.readableRec t = true ∧ t < P.types.size) → DataW.TrodAll enc P W 0 (fun _ => true) true ts vs ds ps → (∀ p ∈ ps, p.block < W.heap.size) → (∀ p ∈ ps, sp p.block = true) →
      DataW.TrodAll enc P W' 0 sp true ts vs ds ps
  | [], [], [], _, _, h, _, _ => h
  | t :: _, _ :: _, _ :: _, _, hr, ⟨p, q, h1, h2, e⟩, hlt, hs => by
    subst e
    refine ⟨p, q, ?_, args_stay hl hb (fun t ht => hr t (List.mem_cons_of_mem _ ht)) h2 (fun x hx => hlt x (List.mem_append_right _ hx)) (fun x hx => hs x (List.mem_append_right _ hx)), rfl⟩
    exact WideElems.Trod_stays hl (hr t (List.mem_cons_self ..)).1 (hr t (List.mem_cons_self ..)).2 h1 (fun x hx => hb.same (hlt x (List.mem_append_left _ hx))) (fun x hx => hs x (List.mem_append_left _ hx))

theorem list1 {l : List Int} (h : l.length = 1) : ∃ x0, l = [x0] := by
  match l, h with
  | [x0], _ => exact ⟨x0, rfl⟩
theorem list2 {l : List Int} (h : l.length = 2) : ∃ x0 x1, l = [x0, x1] := by
  match l, h with
  | [x0, x1], _ => exact ⟨x0, x1, rfl⟩
theorem list3 {l : List Int} (h : l.length = 3) : ∃ x0 x1 x2, l = [x0, x1, x2] := by
  match l, h with
  | [x0, x1, x2], _ => exact ⟨x0, x1, x2, rfl⟩
theorem list4 {l : List Int} (h : l.length = 4) : ∃ x0 x1 x2 x3, l = [x0, x1, x2, x3] := by
  match l, h with
  | [x0, x1, x2, x3], _ => exact ⟨x0, x1, x2, x3, rfl⟩
theorem list5 {l : List Int} (h : l.length = 5) : ∃ x0 x1 x2 x3 x4, l = [x0, x1, x2, x3, x4] := by
  match l, h with
  | [x0, x1, x2, x3, x4], _ => exact ⟨x0, x1, x2, x3, x4, rfl⟩
theorem list6 {l : List Int} (h : l.length = 6) : ∃ x0 x1 x2 x3 x4 x5, l = [x0, x1, x2, x3, x4, x5] := by
  match l, h with
  | [x0, x1, x2, x3, x4, x5], _ => exact ⟨x0, x1, x2, x3, x4, x5, rfl⟩
theorem list7 {l : List Int} (h : l.length = 7) : ∃ x0 x1 x2 x3 x4 x5 x6, l = [x0, x1, x2, x3, x4, x5, x6] := by
  match l, h with
  | [x0, x1, x2, x3, x4, x5, x6], _ => exact ⟨x0, x1, x2, x3, x4, x5, x6, rfl⟩
theorem list8 {l : List Int} (h : l.length = 8) : ∃ x0 x1 x2 x3 x4 x5 x6 x7, l = [x0, x1, x2, x3, x4, x5, x6, x7] := by
  match l, h with
  | [x0, x1, x2, x3, x4, x5, x6, x7], _ => exact ⟨x0, x1, x2, x3, x4, x5, x6, x7, rfl⟩

/-- The field is an integer of the kind int. -/
def intField (P : Program) (f : Field) : Bool := match P.underlying f.type with | some (.int .i64) => true | _ => false
theorem intField_of {P : Program} {fs : Array Field} {j : Nat} {f : Field} (h : fs.toList.all (intField P) = true) (hj : fs[j]? = some f) : P.underlying f.type = some (.int .i64) := by
  have hm : f ∈ fs.toList := by simpa using Array.mem_of_getElem? hj
  have := List.all_eq_true.1 h f hm
  unfold intField at this
  split at this
  · assumption
  · cases this

section
variable {H : Type} {enc : TypeId × Value → H} {P : Program} {w : World} {base : Nat} {spare : Nat → Bool} {held : Bool}

/-- A struct whose fields are all integers, as its cells. -/
theorem trod_rec {t : TypeId} {fs : Array Field} {fuel : Nat} {cs : List Value} {x : DataW H × List MemPlace} (ht : P.underlying t = some (.struct fs)) (hone : oneCellFields P fs = true)
    (hint : fs.toList.all (intField P) = true) (hC : P.cellsOf t = fs.size) (h : DataW.trod enc P w base spare held fuel t cs = some x) :
    ∃ zs : List Int, cs = ints zs ∧ zs.length = fs.size ∧ ∀ z ∈ zs, -9223372036854775808 ≤ z ∧ z ≤ 9223372036854775807 := by
  obtain ⟨ys, n, _, _, hlen, hyl, hf⟩ := DataW.trod_struct ht h
  rw [hC] at hlen
  have each : ∀ j, j < cs.length → ∃ z : Int, cs[j]? = some (.int .i64 z) ∧ -9223372036854775808 ≤ z ∧ z ≤ 9223372036854775807 := by
    intro j hj
    have hfj : fs[j]? = some (fs[j]'(by omega)) := Array.getElem?_eq_getElem (by omega)
    obtain ⟨ho, hk⟩ := hone_of hone j _ hfj
    have h1 := hf j _ hfj
    rw [ho, hk] at h1
    have hd : (cs.drop j).take 1 = [cs[j]] := by rw [List.drop_eq_getElem_cons hj]; rfl
    rw [hd, List.getElem?_eq_getElem (by omega)] at h1
    obtain ⟨z, hz, _, hwf⟩ := DataW.trod_int (intField_of hint hfj) h1
    refine ⟨z, ?_, bounds_i64 hwf⟩
    rw [List.getElem?_eq_getElem hj]
    injection hz with hz _
    rw [hz]
  refine ⟨cs.map (fun v => match v with | .int _ z => z | _ => 0), ?_, by simpa using hlen, ?_⟩
  · apply List.ext_getElem?
    intro j
    by_cases hj : j < cs.length
    · obtain ⟨z, hz, _⟩ := each j hj
      simp [ints, hz]
    · rw [List.getElem?_eq_none (by omega), List.getElem?_eq_none (by simp [ints]; omega)]
  · intro z hz
    obtain ⟨v, hv, rfl⟩ := List.mem_map.1 hz
    obtain ⟨j, hj⟩ := List.getElem?_of_mem hv
    obtain ⟨z, hz', hb⟩ := each j (List.getElem?_eq_some_iff.1 hj).1
    rw [hj] at hz'
    injection hz' with hz'
    subst hz'
    exact hb

/-- An argument that is a struct of integers. -/
theorem open_rec {r : Reach} {b0 : Nat} {t : TypeId} {fs : Array Field} {v : Value} {d : DataW H} {p : List MemPlace} (ht : P.underlying t = some (.struct fs)) (hone : oneCellFields P fs = true)
    (hint : fs.toList.all (intField P) = true) (hC : P.cellsOf t = fs.size) (hv : Value.okWide P w r b0 t v) (h : DataW.Trod enc P w base spare held t v d p) :
    ∃ zs : List Int, v = .agg (ints zs).toArray ∧ zs.length = fs.size ∧ ∀ z ∈ zs, -9223372036854775808 ≤ z ∧ z ≤ 9223372036854775807 := by
  obtain ⟨cs, rfl, hsz⟩ := okWide_struct ht hv
  obtain ⟨fuel, hf⟩ := h
  obtain ⟨zs, hz, hl, hb⟩ := trod_rec ht hone hint hC hf
  refine ⟨zs, ?_, hl, hb⟩
  rw [← hz]
  simp [Value.cells]

/-- The slice v holds records of n integers each. -/
def Recs (w : World) (n : Nat) (v : Value) (recs : List (List Int)) : Prop :=
  ∃ A c, v = .slice A recs.length c ∧ (0 < recs.length → ∃ ad : Addr, A = some ad ∧ ad.block < w.heap.size ∧
    ∀ k zs, recs[k]? = some zs → zs.length = n ∧ (∀ z ∈ zs, -9223372036854775808 ≤ z ∧ z ≤ 9223372036854775807) ∧ ∀ j u, (ints zs)[j]? = some u → w.cell? ((ad.add (k * n)).add j) = some u)

theorem Recs.below {w w' : World} {n : Nat} {v : Value} {recs : List (List Int)} (h : Recs w n v recs) (hb : Below w.heap.size w w') : Recs w' n v recs := by
  obtain ⟨A, c, rfl, hc⟩ := h
  refine ⟨A, c, rfl, fun hp => ?_⟩
  obtain ⟨ad, hA, hlt, hcell⟩ := hc hp
  refine ⟨ad, hA, Nat.lt_of_lt_of_le hlt hb.size, fun k zs hk => ?_⟩
  obtain ⟨h1, h2, h3⟩ := hcell k zs hk
  refine ⟨h1, h2, fun j u hu => ?_⟩
  have hbl : ((ad.add (k * n)).add j).block = ad.block := by unfold Addr.add; split <;> split <;> rfl
  rw [hb.cell (by rw [hbl]; exact hlt)]
  exact h3 j u hu

/-- An argument that is a slice of structs of integers. -/
theorem open_recs {r : Reach} {b0 : Nat} {t e : TypeId} {fs : Array Field} {v : Value} {d : DataW H} {p : List MemPlace} (ht : P.underlying t = some (.slice e)) (he : P.underlying e = some (.struct fs)) (hone : oneCellFields P fs = true)
    (hint : fs.toList.all (intField P) = true) (hC : P.cellsOf e = fs.size) (hpos : 0 < fs.size) (hv : Value.okWide P w r b0 t v) (h : DataW.Trod enc P w base spare held t v d p) :
    ∃ recs : List (List Int), Recs w fs.size v recs ∧ recs.length ≤ maxLen := by
  obtain ⟨A, len, cap, rfl⟩ := okWide_slice ht hv
  obtain ⟨fuel, hf⟩ := h
  rcases open_slice ht hf with ⟨hcs, _⟩ | ⟨a, len', cap', m, n, D, Pl, hcs, _, hl, hm, hmm, _, hi⟩
  · simp [Value.cells] at hcs
    obtain ⟨rfl, rfl, rfl⟩ := hcs
    exact ⟨[], ⟨none, 0, rfl, fun h => absurd h (by simp)⟩, by simp⟩
  · simp [Value.cells] at hcs
    obtain ⟨rfl, rfl, rfl⟩ := hcs
    have hlm : len ≤ m := by subst hmm; split <;> omega
    have each : ∀ i, ∃ zs : List Int, i < len → zs.length = fs.size ∧ (∀ z ∈ zs, -9223372036854775808 ≤ z ∧ z ≤ 9223372036854775807) ∧ ∀ j u, (ints zs)[j]? = some u → w.cell? ((a.add (i * fs.size)).add j) = some u := by
      intro i
      by_cases hil : i < len
      · obtain ⟨cs', hc, htr⟩ := hi i (by omega)
        rw [hC] at hc
        obtain ⟨zs, rfl, hzl, hzb⟩ := trod_rec he hone hint hC htr
        obtain ⟨_, hcl, hat⟩ := World.cells?_some hc
        refine ⟨zs, fun _ => ⟨hzl, hzb, fun j u hu => ?_⟩⟩
        rw [hat j (by have := (List.getElem?_eq_some_iff.1 hu).1; omega)]
        exact hu
      · exact ⟨[], fun h => absurd h hil⟩
    obtain ⟨f, hf'⟩ := Classical.axiomOfChoice each
    refine ⟨(List.range len).map f, ⟨some a, cap, by simp, fun hp => ⟨a, rfl, ?_, fun k zs hk => ?_⟩⟩, by simp; omega⟩
    · simp at hp
      obtain ⟨h1, _, h3⟩ := hf' 0 hp
      have hz0 : (ints (f 0))[0]? = some ((ints (f 0))[0]'(by rw [ints_len, h1]; exact hpos)) := List.getElem?_eq_getElem _
      have := World.block_lt_of_cell? w _ (h3 0 _ hz0)
      simpa [Addr.add] using this
    · have hkl : k < len := by have := (List.getElem?_eq_some_iff.1 hk).1; simpa using this
      simp only [List.getElem?_map, List.getElem?_range hkl, Option.map_some, Option.some.injEq] at hk
      subst hk
      exact hf' k hkl

theorem okWide_rows {r : Reach} {b0 n : Nat} {t e : TypeId} {v : Value} (ht : P.underlying t = some (.array n e)) (h : Value.okWide P w r b0 t v) : ∃ cs, v = .agg cs ∧ cs.size = P.cellsOf t := by
  simp only [Value.okWide, ht] at h
  obtain ⟨cs, h1, h2, _⟩ := h
  exact ⟨cs, h1, h2⟩

/-- An argument that is an array of integers. -/
theorem open_row {r : Reach} {b0 n : Nat} {t e : TypeId} {v : Value} {d : DataW H} {p : List MemPlace} (ht : P.underlying t = some (.array n e)) (he : P.underlying e = some (.int .i64)) (hC : P.cellsOf t = n) (hce : P.cellsOf e = 1)
    (hv : Value.okWide P w r b0 t v) (h : DataW.Trod enc P w base spare held t v d p) :
    ∃ zs : List Int, v = .agg (ints zs).toArray ∧ zs.length = n ∧ ∀ z ∈ zs, -9223372036854775808 ≤ z ∧ z ≤ 9223372036854775807 := by
  obtain ⟨⟨cs⟩, rfl, hsz⟩ := okWide_rows ht hv
  obtain ⟨fuel, hf⟩ := h
  obtain ⟨ys, q, _, _, hlen, hyl, hat⟩ := DataW.trod_array ht hf
  simp only [Value.cells] at hlen hat
  rw [hC] at hlen
  have each : ∀ j, j < cs.length → ∃ z : Int, cs[j]? = some (.int .i64 z) ∧ -9223372036854775808 ≤ z ∧ z ≤ 9223372036854775807 := by
    intro j hj
    have h1 := hat j (by omega)
    rw [hce, Nat.mul_one] at h1
    have hd : (cs.drop j).take 1 = [cs[j]] := by rw [List.drop_eq_getElem_cons hj]; rfl
    rw [hd, List.getElem?_eq_getElem (by omega)] at h1
    obtain ⟨z, hz, _, hwf⟩ := DataW.trod_int he h1
    refine ⟨z, ?_, bounds_i64 hwf⟩
    rw [List.getElem?_eq_getElem hj]
    injection hz with hz _
    rw [hz]
  refine ⟨cs.map (fun v => match v with | .int _ z => z | _ => 0), ?_, by simpa using hlen, ?_⟩
  · congr 2
    apply List.ext_getElem?
    intro j
    by_cases hj : j < cs.length
    · obtain ⟨z, hz, _⟩ := each j hj
      simp [ints, hz]
    · rw [List.getElem?_eq_none (by omega), List.getElem?_eq_none (by simp [ints]; omega)]
  · intro z hz
    obtain ⟨v, hv, rfl⟩ := List.mem_map.1 hz
    obtain ⟨j, hj⟩ := List.getElem?_of_mem hv
    obtain ⟨z, hz', hb⟩ := each j (List.getElem?_eq_some_iff.1 hj).1
    rw [hj] at hz'
    injection hz' with hz'
    subst hz'
    exact hb

theorem trod_recs {t e : TypeId} {fs : Array Field} {fuel : Nat} {cs : List Value} {x : DataW H × List MemPlace} (ht : P.underlying t = some (.slice e)) (he : P.underlying e = some (.struct fs)) (hone : oneCellFields P fs = true)
    (hint : fs.toList.all (intField P) = true) (hC : P.cellsOf e = fs.size) (hpos : 0 < fs.size) (hf : DataW.trod enc P w base spare held fuel t cs = some x) :
    ∃ (v : Value) (recs : List (List Int)), cs = [v] ∧ Recs w fs.size v recs ∧ recs.length ≤ maxLen := by
  rcases open_slice ht hf with ⟨hcs, _⟩ | ⟨a, len, cap, m, n, D, Pl, hcs, _, hl, hm, hmm, _, hi⟩
  · exact ⟨_, [], hcs, ⟨none, 0, rfl, fun h => absurd h (by simp)⟩, by simp⟩
  · have hlm : len ≤ m := by subst hmm; split <;> omega
    have each : ∀ i, ∃ zs : List Int, i < len → zs.length = fs.size ∧ (∀ z ∈ zs, -9223372036854775808 ≤ z ∧ z ≤ 9223372036854775807) ∧ ∀ j u, (ints zs)[j]? = some u → w.cell? ((a.add (i * fs.size)).add j) = some u := by
      intro i
      by_cases hil : i < len
      · obtain ⟨cs', hc, htr⟩ := hi i (by omega)
        rw [hC] at hc
        obtain ⟨zs, rfl, hzl, hzb⟩ := trod_rec he hone hint hC htr
        obtain ⟨_, hcl, hat⟩ := World.cells?_some hc
        refine ⟨zs, fun _ => ⟨hzl, hzb, fun j u hu => ?_⟩⟩
        rw [hat j (by have := (List.getElem?_eq_some_iff.1 hu).1; omega)]
        exact hu
      · exact ⟨[], fun h => absurd h hil⟩
    obtain ⟨f, hf'⟩ := Classical.axiomOfChoice each
    refine ⟨_, (List.range len).map f, hcs, ⟨some a, cap, by simp, fun hp => ⟨a, rfl, ?_, fun k zs hk => ?_⟩⟩, by simp; omega⟩
    · simp at hp
      obtain ⟨h1, _, h3⟩ := hf' 0 hp
      have hz0 : (ints (f 0))[0]? = some ((ints (f 0))[0]'(by rw [ints_len, h1]; exact hpos)) := List.getElem?_eq_getElem _
      have := World.block_lt_of_cell? w _ (h3 0 _ hz0)
      simpa [Addr.add] using this
    · have hkl : k < len := by have := (List.getElem?_eq_some_iff.1 hk).1; simpa using this
      simp only [List.getElem?_map, List.getElem?_range hkl, Option.map_some, Option.some.injEq] at hk
      subst hk
      exact hf' k hkl

/-- An argument that is an array of two slices of structs of integers. -/
theorem open_pair {r : Reach} {b0 : Nat} {t s e : TypeId} {fs : Array Field} {v : Value} {d : DataW H} {p : List MemPlace} (ht : P.underlying t = some (.array 2 s)) (hs : P.underlying s = some (.slice e)) (he : P.underlying e = some (.struct fs)) (hone : oneCellFields P fs = true)
    (hint : fs.toList.all (intField P) = true) (hC : P.cellsOf e = fs.size) (hpos : 0 < fs.size) (hCt : P.cellsOf t = 2) (hCs : P.cellsOf s = 1) (hv : Value.okWide P w r b0 t v) (h : DataW.Trod enc P w base spare held t v d p) :
    ∃ v0 v1 : Value, v = .agg #[v0, v1] ∧ (∃ recs, Recs w fs.size v0 recs ∧ recs.length ≤ maxLen) ∧ (∃ recs, Recs w fs.size v1 recs ∧ recs.length ≤ maxLen) := by
  obtain ⟨⟨cs⟩, rfl, hsz⟩ := okWide_rows ht hv
  obtain ⟨fuel, hf⟩ := h
  obtain ⟨ys, q, _, _, hlen, hyl, hat⟩ := DataW.trod_array ht hf
  simp only [Value.cells] at hlen hat
  rw [hCt] at hlen
  match cs, hlen with
  | [c0, c1], _ =>
    have h0 := hat 0 (by omega)
    have h1 := hat 1 (by omega)
    rw [hCs] at h0 h1
    rw [List.getElem?_eq_getElem (by omega)] at h0 h1
    obtain ⟨u0, r0, e0, hr0, hm0⟩ := trod_recs hs he hone hint hC hpos h0
    obtain ⟨u1, r1, e1, hr1, hm1⟩ := trod_recs hs he hone hint hC hpos h1
    simp at e0 e1
    subst e0 e1
    exact ⟨c0, c1, rfl, ⟨r0, hr0, hm0⟩, ⟨r1, hr1, hm1⟩⟩
end

/-- The cells of a record of four, as a walk meets them. -/
theorem cells4 {w : World} {ad : Addr} {a b c d : Int} (h : ∀ j u, (ints [a, b, c, d])[j]? = some u → w.cell? (ad.add j) = some u) :
    w.cell? ad = some (.int .i64 a) ∧ w.cell? ⟨ad.block, ad.off + 1, none⟩ = some (.int .i64 b) ∧ w.cell? ⟨ad.block, ad.off + 2, none⟩ = some (.int .i64 c) ∧ w.cell? ⟨ad.block, ad.off + 3, none⟩ = some (.int .i64 d) :=
  ⟨by simpa [Addr.add] using h 0 _ rfl, by simpa [Addr.add] using h 1 _ rfl, by simpa [Addr.add] using h 2 _ rfl, by simpa [Addr.add] using h 3 _ rfl⟩

/-- Record number k of a slice of records of four, in a world in which what was there has not changed. -/
theorem Recs.four {w wr : World} {v : Value} {recs : List (List Int)} {k : Nat} (h : Recs w 4 v recs) (hb : Below w.heap.size w wr) (hk : k < recs.length) :
    ∃ (ad : Addr) (c : Nat) (K a n x : Int), recs[k]? = some [K, a, n, x] ∧ v = .slice (some ad) recs.length c ∧ (∀ z ∈ [K, a, n, x], -9223372036854775808 ≤ z ∧ z ≤ 9223372036854775807) ∧
      wr.cell? (ad.add (k * 4)) = some (.int .i64 K) ∧ wr.cell? ⟨(ad.add (k * 4)).block, (ad.add (k * 4)).off + 1, none⟩ = some (.int .i64 a) ∧
      wr.cell? ⟨(ad.add (k * 4)).block, (ad.add (k * 4)).off + 2, none⟩ = some (.int .i64 n) ∧ wr.cell? ⟨(ad.add (k * 4)).block, (ad.add (k * 4)).off + 3, none⟩ = some (.int .i64 x) := by
  obtain ⟨A, c, rfl, hA⟩ := h.below hb
  obtain ⟨ad, rfl, hlt, hc⟩ := hA (by omega)
  obtain ⟨zs, hzs⟩ : ∃ z, recs[k]? = some z := ⟨_, List.getElem?_eq_getElem hk⟩
  obtain ⟨h4, hz, hcell⟩ := hc k zs hzs
  obtain ⟨K, a, n, x, rfl⟩ := list4 h4
  obtain ⟨c0, c1, c2, c3⟩ := cells4 hcell
  exact ⟨ad, c, K, a, n, x, hzs, rfl, hz, c0, c1, c2, c3⟩

#print axioms args_stay
#print axioms open_recs
end Go.Proofs.YtikjokhpombjjaaDoor
