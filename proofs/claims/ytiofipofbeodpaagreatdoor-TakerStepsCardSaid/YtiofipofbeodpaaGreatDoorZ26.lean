/-
  Texts merged, with what one theorem needs of them.
  Conditions: those that each theorem states.
-/
import Derived.Test.YtiofipofbeodpaaGreatDoorRows
import Derived.Test.YtiofipofbeodpaaGreatDoorZ1
import Derived.Test.YtiofipofbeodpaaGreatDoorZ25
import Derived.Below
import Derived.Carry
import Derived.Deep.AppendLies
import Derived.Deep.Draws
import Derived.Deep.Fields
import Derived.Deep.OwnRows
import Derived.Deep.Slices
import Derived.Handy
import Derived.IntWalk
import Derived.Laws.CopyOwn
import Derived.Laws.OwnMore
import Derived.Laws.Rows
import Derived.Lib.Hide
import Derived.Lib.SmallJoins
import Derived.Maps.AppendAt
import Derived.OpenShut
import Derived.ProofKit
import Derived.WalkKit
namespace Go.Proofs.YtiofipofbeodpaaGreatDoor

section
open Go.ChangeShapes Go.WideShapes Go.ChangeAt Go.RowKit Go.Deep Go.Joins
theorem args_stay {H : Type} {enc : TypeId × Value → H} {P : Program} {W W' : World} {sp : Nat → Bool} (hl : laidOutB P = true) (hb : Below W.heap.size W W') :
    ∀ {ts : List TypeId} {vs : List Value} {ds : List (DataW H)} {ps : List MemPlace}, (∀ t ∈ ts, P.readableRec t = true ∧ t < P.types.size) → DataW.TrodAll enc P W 0 (fun _ => true) true ts vs ds ps → (∀ p ∈ ps, p.block < W.heap.size) → (∀ p ∈ ps, sp p.block = true) →
      DataW.TrodAll enc P W' 0 sp true ts vs ds ps
  | [], [], [], _, _, h, _, _ => h
  | t :: _, _ :: _, _ :: _, _, hr, ⟨p, q, h1, h2, e⟩, hlt, hs => by
    subst e
    refine ⟨p, q, ?_, args_stay hl hb (fun t ht => hr t (List.mem_cons_of_mem _ ht)) h2 (fun x hx => hlt x (List.mem_append_right _ hx)) (fun x hx => hs x (List.mem_append_right _ hx)), rfl⟩
    exact WideElems.Trod_stays hl (hr t (List.mem_cons_self ..)).1 (hr t (List.mem_cons_self ..)).2 h1 (fun x hx => hb.same (hlt x (List.mem_append_left _ hx))) (fun x hx => hs x (List.mem_append_left _ hx))
theorem list3 {l : List Int} (h : l.length = 3) : ∃ x0 x1 x2, l = [x0, x1, x2] := by
  match l, h with
  | [x0, x1, x2], _ => exact ⟨x0, x1, x2, rfl⟩
theorem list5 {l : List Int} (h : l.length = 5) : ∃ x0 x1 x2 x3 x4, l = [x0, x1, x2, x3, x4] := by
  match l, h with
  | [x0, x1, x2, x3, x4], _ => exact ⟨x0, x1, x2, x3, x4, rfl⟩
/-- The field is an integer of the kind int. -/
def intField (P : Program) (f : Field) : Bool := match P.underlying f.type with | some (.int .i64) => true | _ => false
theorem intField_of {P : Program} {fs : Array Field} {j : Nat} {f : Field} (h : fs.toList.all (intField P) = true) (hj : fs[j]? = some f) : P.underlying f.type = some (.int .i64) := by
  have hm : f ∈ fs.toList := by simpa using Array.mem_of_getElem? hj
  have := List.all_eq_true.1 h f hm
  unfold intField at this
  split at this
  · assumption
  · cases this
section
variable {H : Type} {enc : TypeId × Value → H} {P : Program} {w : World} {base : Nat} {spare : Nat → Bool} {held : Bool}
/-- A struct whose fields are all integers, as its cells. -/
theorem trod_rec {t : TypeId} {fs : Array Field} {fuel : Nat} {cs : List Value} {x : DataW H × List MemPlace} (ht : P.underlying t = some (.struct fs)) (hone : oneCellFields P fs = true)
    (hint : fs.toList.all (intField P) = true) (hC : P.cellsOf t = fs.size) (h : DataW.trod enc P w base spare held fuel t cs = some x) :
    ∃ zs : List Int, cs = ints zs ∧ zs.length = fs.size ∧ ∀ z ∈ zs, -9223372036854775808 ≤ z ∧ z ≤ 9223372036854775807 := by
  obtain ⟨ys, n, _, _, hlen, hyl, hf⟩ := DataW.trod_struct ht h
  rw [hC] at hlen
  have each : ∀ j, j < cs.length → ∃ z : Int, cs[j]? = some (.int .i64 z) ∧ -9223372036854775808 ≤ z ∧ z ≤ 9223372036854775807 := by
    intro j hj
    have hfj : fs[j]? = some (fs[j]'(by omega)) := Array.getElem?_eq_getElem (by omega)
    obtain ⟨ho, hk⟩ := hone_of hone j _ hfj
    have h1 := hf j _ hfj
    rw [ho, hk] at h1
    have hd : (cs.drop j).take 1 = [cs[j]] := by rw [List.drop_eq_getElem_cons hj]; rfl
    rw [hd, List.getElem?_eq_getElem (by omega)] at h1
    obtain ⟨z, hz, _, hwf⟩ := DataW.trod_int (intField_of hint hfj) h1
    refine ⟨z, ?_, bounds_i64 hwf⟩
    rw [List.getElem?_eq_getElem hj]
    injection hz with hz _
    rw [hz]
  refine ⟨cs.map (fun v => match v with | .int _ z => z | _ => 0), ?_, by simpa using hlen, ?_⟩
  · apply List.ext_getElem?
    intro j
    by_cases hj : j < cs.length
    · obtain ⟨z, hz, _⟩ := each j hj
      simp [ints, hz]
    · rw [List.getElem?_eq_none (by omega), List.getElem?_eq_none (by simp [ints]; omega)]
  · intro z hz
    obtain ⟨v, hv, rfl⟩ := List.mem_map.1 hz
    obtain ⟨j, hj⟩ := List.getElem?_of_mem hv
    obtain ⟨z, hz', hb⟩ := each j (List.getElem?_eq_some_iff.1 hj).1
    rw [hj] at hz'
    injection hz' with hz'
    subst hz'
    exact hb
/-- The slice v holds records of n integers each. -/
def Recs (w : World) (n : Nat) (v : Value) (recs : List (List Int)) : Prop :=
  ∃ A c, v = .slice A recs.length c ∧ (0 < recs.length → ∃ ad : Addr, A = some ad ∧ ad.block < w.heap.size ∧
    ∀ k zs, recs[k]? = some zs → zs.length = n ∧ (∀ z ∈ zs, -9223372036854775808 ≤ z ∧ z ≤ 9223372036854775807) ∧ ∀ j u, (ints zs)[j]? = some u → w.cell? ((ad.add (k * n)).add j) = some u)
theorem Recs.below {w w' : World} {n : Nat} {v : Value} {recs : List (List Int)} (h : Recs w n v recs) (hb : Below w.heap.size w w') : Recs w' n v recs := by
  obtain ⟨A, c, rfl, hc⟩ := h
  refine ⟨A, c, rfl, fun hp => ?_⟩
  obtain ⟨ad, hA, hlt, hcell⟩ := hc hp
  refine ⟨ad, hA, Nat.lt_of_lt_of_le hlt hb.size, fun k zs hk => ?_⟩
  obtain ⟨h1, h2, h3⟩ := hcell k zs hk
  refine ⟨h1, h2, fun j u hu => ?_⟩
  have hbl : ((ad.add (k * n)).add j).block = ad.block := by unfold Addr.add; split <;> split <;> rfl
  rw [hb.cell (by rw [hbl]; exact hlt)]
  exact h3 j u hu
/-- An argument that is a slice of structs of integers. -/
theorem open_recs {r : Reach} {b0 : Nat} {t e : TypeId} {fs : Array Field} {v : Value} {d : DataW H} {p : List MemPlace} (ht : P.underlying t = some (.slice e)) (he : P.underlying e = some (.struct fs)) (hone : oneCellFields P fs = true)
    (hint : fs.toList.all (intField P) = true) (hC : P.cellsOf e = fs.size) (hpos : 0 < fs.size) (hv : Value.okWide P w r b0 t v) (h : DataW.Trod enc P w base spare held t v d p) :
    ∃ recs : List (List Int), Recs w fs.size v recs ∧ recs.length ≤ maxLen := by
  obtain ⟨A, len, cap, rfl⟩ := okWide_slice ht hv
  obtain ⟨fuel, hf⟩ := h
  rcases open_slice ht hf with ⟨hcs, _⟩ | ⟨a, len', cap', m, n, D, Pl, hcs, _, hl, hm, hmm, _, hi⟩
  · simp [Value.cells] at hcs
    obtain ⟨rfl, rfl, rfl⟩ := hcs
    exact ⟨[], ⟨none, 0, rfl, fun h => absurd h (by simp)⟩, by simp⟩
  · simp [Value.cells] at hcs
    obtain ⟨rfl, rfl, rfl⟩ := hcs
    have hlm : len ≤ m := by subst hmm; split <;> omega
    have each : ∀ i, ∃ zs : List Int, i < len → zs.length = fs.size ∧ (∀ z ∈ zs, -9223372036854775808 ≤ z ∧ z ≤ 9223372036854775807) ∧ ∀ j u, (ints zs)[j]? = some u → w.cell? ((a.add (i * fs.size)).add j) = some u := by
      intro i
      by_cases hil : i < len
      · obtain ⟨cs', hc, htr⟩ := hi i (by omega)
        rw [hC] at hc
        obtain ⟨zs, rfl, hzl, hzb⟩ := trod_rec he hone hint hC htr
        obtain ⟨_, hcl, hat⟩ := World.cells?_some hc
        refine ⟨zs, fun _ => ⟨hzl, hzb, fun j u hu => ?_⟩⟩
        rw [hat j (by have := (List.getElem?_eq_some_iff.1 hu).1; omega)]
        exact hu
      · exact ⟨[], fun h => absurd h hil⟩
    obtain ⟨f, hf'⟩ := Classical.axiomOfChoice each
    refine ⟨(List.range len).map f, ⟨some a, cap, by simp, fun hp => ⟨a, rfl, ?_, fun k zs hk => ?_⟩⟩, by simp; omega⟩
    · simp at hp
      obtain ⟨h1, _, h3⟩ := hf' 0 hp
      have hz0 : (ints (f 0))[0]? = some ((ints (f 0))[0]'(by rw [ints_len, h1]; exact hpos)) := List.getElem?_eq_getElem _
      have := World.block_lt_of_cell? w _ (h3 0 _ hz0)
      simpa [Addr.add] using this
    · have hkl : k < len := by have := (List.getElem?_eq_some_iff.1 hk).1; simpa using this
      simp only [List.getElem?_map, List.getElem?_range hkl, Option.map_some, Option.some.injEq] at hk
      subst hk
      exact hf' k hkl
end
end

end Go.Proofs.YtiofipofbeodpaaGreatDoor
