/-
  Texts merged, with what one theorem needs of them.
  Conditions: those that each theorem states.
-/
import Derived.Test.YtiofipofbeodpaaGreatDoorRows
import Derived.Test.YtiofipofbeodpaaGreatDoorZ1
import Derived.Test.YtiofipofbeodpaaGreatDoorZ25
import Derived.Test.YtiofipofbeodpaaGreatDoorZ26
import Derived.Below
import Derived.Carry
import Derived.ChangeSame
import Derived.Deep.AppendLies
import Derived.Deep.Draws
import Derived.Deep.Fields
import Derived.Deep.OwnRows
import Derived.Deep.Slices
import Derived.Handy
import Derived.IntWalk
import Derived.Laws.CopyOwn
import Derived.Laws.OwnMore
import Derived.Laws.Rows
import Derived.Lib.Hide
import Derived.Lib.SmallJoins
import Derived.Maps.AppendAt
import Derived.OpenShut
import Derived.ProofKit
import Derived.WalkKit
namespace Go.Proofs.YtiofipofbeodpaaGreatDoor

section
open Go.ChangeShapes Go.WideShapes Go.ChangeAt Go.RowKit Go.Deep Go.Joins
section
variable {H : Type} {enc : TypeId × Value → H} {P : Program} {w : World} {base : Nat} {spare : Nat → Bool} {held : Bool}
/-- What is read of the type t is n integers, cell by cell. -/
def IntsOf (enc : TypeId × Value → H) (P : Program) (w : World) (base : Nat) (spare : Nat → Bool) (held : Bool) (t : TypeId) (n : Nat) : Prop :=
  ∀ (fuel : Nat) (cs : List Value) (x : DataW H × List MemPlace), DataW.trod enc P w base spare held fuel t cs = some x → ∃ zs : List Int, cs = ints zs ∧ zs.length = n ∧ ∀ z ∈ zs, -9223372036854775808 ≤ z ∧ z ≤ 9223372036854775807
theorem IntsOf.int {t : TypeId} (ht : P.underlying t = some (.int .i64)) : IntsOf enc P w base spare held t 1 := by
  intro fuel cs x h
  obtain ⟨z, hz, _, hwf⟩ := DataW.trod_int ht h
  refine ⟨[z], by rw [hz]; rfl, rfl, fun y hy => ?_⟩
  simp at hy
  subst hy
  exact bounds_i64 hwf
theorem IntsOf.rec_ {t : TypeId} {fs : Array Field} (ht : P.underlying t = some (.struct fs)) (hone : oneCellFields P fs = true) (hint : fs.toList.all (intField P) = true) (hC : P.cellsOf t = fs.size) : IntsOf enc P w base spare held t fs.size :=
  fun _ _ _ h => trod_rec ht hone hint hC h
/-- A struct of two fields, one behind the other. -/
theorem IntsOf.two {t : TypeId} {f0 f1 : Field} {n0 n1 : Nat} (ht : P.underlying t = some (.struct #[f0, f1])) (o0 : f0.offset = 0) (o1 : f1.offset = n0) (c0 : P.cellsOf f0.type = n0) (c1 : P.cellsOf f1.type = n1) (hC : P.cellsOf t = n0 + n1)
    (h0 : IntsOf enc P w base spare held f0.type n0) (h1 : IntsOf enc P w base spare held f1.type n1) : IntsOf enc P w base spare held t (n0 + n1) := by
  intro fuel cs x h
  obtain ⟨y0, y1, n, _, hl, e0, e1⟩ := trod_struct2 ht h
  rw [o0, c0, List.drop_zero] at e0
  rw [o1, c1] at e1
  rw [hC] at hl
  obtain ⟨z0, hz0, l0, b0⟩ := h0 _ _ _ e0
  obtain ⟨z1, hz1, l1, b1⟩ := h1 _ _ _ e1
  rw [List.take_of_length_le (by simp; omega)] at hz1
  refine ⟨z0 ++ z1, ?_, by rw [List.length_append, l0, l1], fun z hz => ?_⟩
  · rw [ints_append, ← hz0, ← hz1, List.take_append_drop]
  · rcases List.mem_append.1 hz with hz | hz
    · exact b0 z hz
    · exact b1 z hz
/-- An argument that is such a struct. -/
theorem open_rec2 {r : Reach} {b0 : Nat} {t : TypeId} {fs : Array Field} {n : Nat} {v : Value} {d : DataW H} {p : List MemPlace} (ht : P.underlying t = some (.struct fs)) (hI : IntsOf enc P w base spare held t n)
    (hv : Value.okWide P w r b0 t v) (h : DataW.Trod enc P w base spare held t v d p) :
    ∃ zs : List Int, v = .agg (ints zs).toArray ∧ zs.length = n ∧ ∀ z ∈ zs, -9223372036854775808 ≤ z ∧ z ≤ 9223372036854775807 := by
  obtain ⟨cs, rfl, hsz⟩ := okWide_struct ht hv
  obtain ⟨fuel, hf⟩ := h
  obtain ⟨zs, hz, hl, hb⟩ := hI _ _ _ hf
  refine ⟨zs, ?_, hl, hb⟩
  rw [← hz]
  simp [Value.cells]
end
/-- The cells of a record of three, as a walk meets them. -/
theorem cells3 {w : World} {ad : Addr} {a b c : Int} (h : ∀ j u, (ints [a, b, c])[j]? = some u → w.cell? (ad.add j) = some u) :
    w.cell? ad = some (.int .i64 a) ∧ w.cell? ⟨ad.block, ad.off + 1, none⟩ = some (.int .i64 b) ∧ w.cell? ⟨ad.block, ad.off + 2, none⟩ = some (.int .i64 c) :=
  ⟨by simpa [Addr.add] using h 0 _ rfl, by simpa [Addr.add] using h 1 _ rfl, by simpa [Addr.add] using h 2 _ rfl⟩
/-- Record number k of a slice of records of three, in a world in which what was there has not changed. -/
theorem Recs.three {w wr : World} {v : Value} {recs : List (List Int)} {k : Nat} (h : Recs w 3 v recs) (hb : Below w.heap.size w wr) (hk : k < recs.length) :
    ∃ (ad : Addr) (c : Nat) (K x y : Int), recs[k]? = some [K, x, y] ∧ v = .slice (some ad) recs.length c ∧ (∀ z ∈ [K, x, y], -9223372036854775808 ≤ z ∧ z ≤ 9223372036854775807) ∧
      wr.cell? (ad.add (k * 3)) = some (.int .i64 K) ∧ wr.cell? ⟨(ad.add (k * 3)).block, (ad.add (k * 3)).off + 1, none⟩ = some (.int .i64 x) ∧ wr.cell? ⟨(ad.add (k * 3)).block, (ad.add (k * 3)).off + 2, none⟩ = some (.int .i64 y) ∧ ad.block < wr.heap.size := by
  obtain ⟨A, c, rfl, hA⟩ := h.below hb
  obtain ⟨ad, rfl, hlt, hc⟩ := hA (by omega)
  obtain ⟨zs, hzs⟩ : ∃ z, recs[k]? = some z := ⟨_, List.getElem?_eq_getElem hk⟩
  obtain ⟨h2, hz, hcell⟩ := hc k zs hzs
  obtain ⟨K, x, y, rfl⟩ := list3 h2
  obtain ⟨c0, c1, c2⟩ := cells3 hcell
  exact ⟨ad, c, K, x, y, hzs, rfl, hz, c0, c1, c2, hlt⟩
end

end Go.Proofs.YtiofipofbeodpaaGreatDoor
