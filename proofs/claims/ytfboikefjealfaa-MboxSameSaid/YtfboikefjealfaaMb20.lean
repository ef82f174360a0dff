/-
  The law MboxSame: its state.
  Conditions: those that each theorem states.
-/
import Derived.Test.YtfboikefjealfaaRMb9
import Derived.Test.YtfboikefjealfaaMb18
namespace Go.Proofs.Ytfboikefjealfaa
open Go.ChangeShapes Go.WideShapes Go.ChangeAt Go.RowKit

/-- The law's arguments in blocks of its own. -/
structure Arg9 (w W : World) (c0 c1 : Int) (v0 v1 : Value) (K c t x : Int) : Prop where
  bel : Below w.heap.size w W
  a : Row W w.heap.size 47 [.int .i64 c0, .int .i64 c1]
  b : Row W (w.heap.size + 1) 48 [v0, v1]
  d : Row W (w.heap.size + 1 + 1) 30 [.int .i64 K, .int .i64 c, .int .i64 t, .int .i64 x]

theorem Arg9.only {w W W' : World} {c0 c1 : Int} {v0 v1 : Value} {K c t x : Int} {S : Nat → Prop} (h : Arg9 w W c0 c1 v0 v1 K c t x) (ho : Only S W W') (hS : ∀ g, S g → w.heap.size + 3 ≤ g) : Arg9 w W' c0 c1 v0 v1 K c t x :=
  ⟨Only.below h.bel ho h.bel.size (fun g hg hs => by have := hS g hs; omega), h.a.only ho (fun hs => by have := hS _ hs; omega), h.b.only ho (fun hs => by have := hS _ hs; omega), h.d.only ho (fun hs => by have := hS _ hs; omega)⟩
theorem Arg9.below {w W W' : World} {c0 c1 : Int} {v0 v1 : Value} {K c t x : Int} (h : Arg9 w W c0 c1 v0 v1 K c t x) (hb : Below W.heap.size W W') : Arg9 w W' c0 c1 v0 v1 K c t x :=
  h.only (Only.of_below hb (fun _ => False)) (fun _ h => h.elim)

/-- Two boxes and the reference's, all apart. -/
structure TwoB (w wr : World) (La Lb : MLay) (na nb : Nat) (ms ns : List Mail) (va vb : Value) (c0 c1 : Int) (v0 v1 : Value) (K c t x : Int) : Prop where
  a : BoxAt wr La ms
  b : BoxAt wr Lb ns
  ra : RBox wr (fun g => ¬ La.fp na g ∧ ¬ Lb.fp nb g) ms va
  rb : RBox wr (fun g => ¬ La.fp na g ∧ ¬ Lb.fp nb g) ns vb
  la : ms.length = na
  lb : ns.length = nb
  apart : ∀ g, La.fp na g → ¬ Lb.fp nb g
  newa : ∀ g, La.fp na g → w.heap.size + 3 ≤ g
  newb : ∀ g, Lb.fp nb g → w.heap.size + 3 ≤ g
  arg : Arg9 w wr c0 c1 v0 v1 K c t x

section
variable {w wr w2 : World} {La Lb : MLay} {na nb : Nat} {ms ns ms' : List Mail} {va vb u : Value} {c0 c1 : Int} {v0 v1 : Value} {K c t x : Int}
theorem TwoB.quiet (s : TwoB w wr La Lb na nb ms ns va vb c0 c1 v0 v1 K c t x) (hb : Below wr.heap.size wr w2) : TwoB w w2 La Lb na nb ms ns va vb c0 c1 v0 v1 K c t x :=
  ⟨s.a.below hb, s.b.below hb, s.ra.below hb, s.rb.below hb, s.la, s.lb, s.apart, s.newa, s.newb, s.arg.below hb⟩
theorem TwoB.stepA (s : TwoB w wr La Lb na nb ms ns va vb c0 c1 v0 v1 K c t x) (r : BoxAt w2 La ms') (hl : ms'.length = ms.length) (ho : Only (La.fp ms'.length) wr w2) (hra : RBox w2 (fun g => ¬ La.fp na g ∧ ¬ Lb.fp nb g) ms' u) : TwoB w w2 La Lb na nb ms' ns u vb c0 c1 v0 v1 K c t x := by
  rw [hl, s.la] at ho
  exact ⟨r, s.b.only ho (fun g hg h => by rw [s.lb] at hg; exact s.apart g h hg), hra, s.rb.only ho (fun g h hp => hp.1 h), hl.trans s.la, s.lb, s.apart, s.newa, s.newb, s.arg.only ho s.newa⟩
theorem TwoB.stepB (s : TwoB w wr La Lb na nb ms ns va vb c0 c1 v0 v1 K c t x) (r : BoxAt w2 Lb ms') (hl : ms'.length = ns.length) (ho : Only (Lb.fp ms'.length) wr w2) (hrb : RBox w2 (fun g => ¬ La.fp na g ∧ ¬ Lb.fp nb g) ms' u) : TwoB w w2 La Lb na nb ms ms' va u c0 c1 v0 v1 K c t x := by
  rw [hl, s.lb] at ho
  exact ⟨s.a.only ho (fun g hg h => by rw [s.la] at hg; exact s.apart g hg h), r, s.ra.only ho (fun g h hp => hp.2 h), hrb, s.la, hl.trans s.lb, s.apart, s.newa, s.newb, s.arg.only ho s.newb⟩
theorem TwoB.far (s : TwoB w wr La Lb na nb ms ns va vb c0 c1 v0 v1 K c t x) {g : Nat} (hg : wr.heap.size ≤ g) : ¬ La.fp na g ∧ ¬ Lb.fp nb g := by
  have h1 := s.a.new_not hg
  have h2 := s.b.new_not hg
  rw [s.la] at h1
  rw [s.lb] at h2
  exact ⟨h1, h2⟩
theorem TwoB.keepA (s : TwoB w wr La Lb na nb ms ns va vb c0 c1 v0 v1 K c t x) (hl : ms'.length = ms.length) (ho : Only (La.fp ms'.length) wr w2) {P : List Mail} {y : Value} (r : RBox wr (fun g => ¬ La.fp na g ∧ ¬ Lb.fp nb g) P y) : RBox w2 (fun g => ¬ La.fp na g ∧ ¬ Lb.fp nb g) P y := by
  rw [hl, s.la] at ho
  exact r.only ho (fun g h hp => hp.1 h)
theorem TwoB.keepB (s : TwoB w wr La Lb na nb ms ns va vb c0 c1 v0 v1 K c t x) (hl : ms'.length = ns.length) (ho : Only (Lb.fp ms'.length) wr w2) {P : List Mail} {y : Value} (r : RBox wr (fun g => ¬ La.fp na g ∧ ¬ Lb.fp nb g) P y) : RBox w2 (fun g => ¬ La.fp na g ∧ ¬ Lb.fp nb g) P y := by
  rw [hl, s.lb] at ho
  exact r.only ho (fun g h hp => hp.2 h)
end

/-- The state behind the two makes, in one order. -/
theorem TwoB.start {w w6 : World} {La Lb : MLay} {na nb : Nat} {c0 c1 : Int} {v0 v1 : Value} {K c t x : Int} {Z1 Z2 : Array Value} (h1 : Z1 = madeCells (Value.cells (.agg #[.bool false, .bool false, .bool false, .bool false, .bool false, .bool false, .bool false, .bool false, .slice none 0 0])) (na * 9)) (h2 : Z2 = madeCells (Value.cells (.agg #[.bool false, .bool false, .bool false, .bool false, .bool false, .bool false, .bool false, .bool false, .slice none 0 0])) (nb * 9))
    (a0 : 1 ≤ na) (a1 : na ≤ 8) (b0 : 1 ≤ nb) (b1 : nb ≤ 8) (ra : BoxAt w6 La (List.replicate na mail0)) (rb : BoxAt w6 Lb (List.replicate nb mail0)) (ap : ∀ g, La.fp na g → ¬ Lb.fp nb g) (hna : ∀ g, La.fp na g → w.heap.size + 3 ≤ g) (hnb : ∀ g, Lb.fp nb g → w.heap.size + 3 ≤ g) (arg : Arg9 w w6 c0 c1 v0 v1 K c t x) :
    TwoB w ((w6.alloc (.cells Z1 40)).alloc (.cells Z2 40)).drew La Lb na nb (List.replicate na mail0) (List.replicate nb mail0) (.slice (some ⟨w6.heap.size, 0, none⟩) na na) (.slice (some ⟨w6.heap.size + 1, 0, none⟩) nb nb) c0 c1 v0 v1 K c t x ∧
    TwoB w ((w6.alloc (.cells Z2 40)).alloc (.cells Z1 40)).drew La Lb na nb (List.replicate na mail0) (List.replicate nb mail0) (.slice (some ⟨w6.heap.size + 1, 0, none⟩) na na) (.slice (some ⟨w6.heap.size, 0, none⟩) nb nb) c0 c1 v0 v1 K c t x := by
  have n0 : ∀ g, w6.heap.size ≤ g → ¬ La.fp na g ∧ ¬ Lb.fp nb g := fun g hg => by
    have h1 := ra.new_not hg
    have h2 := rb.new_not hg
    rw [List.length_replicate] at h1 h2
    exact ⟨h1, h2⟩
  have hb1 : Below w6.heap.size w6 ((w6.alloc (.cells Z1 40)).alloc (.cells Z2 40)).drew := (below_on (below_al _ _) (below_al _ _)).drew
  have hb2 : Below w6.heap.size w6 ((w6.alloc (.cells Z2 40)).alloc (.cells Z1 40)).drew := (below_on (below_al _ _) (below_al _ _)).drew
  have s1 : (w6.alloc (.cells Z1 40)).heap.size = w6.heap.size + 1 := size_al _ _
  have s2 : (w6.alloc (.cells Z2 40)).heap.size = w6.heap.size + 1 := size_al _ _
  have x1 := RBox.new (w := w6) (n := na) (fun g => ¬ La.fp na g ∧ ¬ Lb.fp nb g) (n0 _ (Nat.le_refl _)) a0 a1
  have x2 := RBox.new (w := w6.alloc (.cells Z1 40)) (n := nb) (fun g => ¬ La.fp na g ∧ ¬ Lb.fp nb g) (n0 _ (by rw [s1]; omega)) b0 b1
  have y1 := RBox.new (w := w6) (n := nb) (fun g => ¬ La.fp na g ∧ ¬ Lb.fp nb g) (n0 _ (Nat.le_refl _)) b0 b1
  have y2 := RBox.new (w := w6.alloc (.cells Z2 40)) (n := na) (fun g => ¬ La.fp na g ∧ ¬ Lb.fp nb g) (n0 _ (by rw [s2]; omega)) a0 a1
  rw [← h1] at x1 y2
  rw [← h2] at x2 y1
  rw [s1] at x2
  rw [s2] at y2
  have d : ∀ W : World, Below W.heap.size W W.drew := fun W => (Below.refl _ _).drew
  exact ⟨⟨ra.below hb1, rb.below hb1, (x1.below (below_al _ _)).below (d _), x2.below (d _), by simp, by simp, ap, hna, hnb, arg.below hb1⟩,
    ⟨ra.below hb2, rb.below hb2, y2.below (d _), (y1.below (below_al _ _)).below (d _), by simp, by simp, ap, hna, hnb, arg.below hb2⟩⟩

/-- What New leaves, seen from an earlier world w0 and from the world W of the call. -/
def New9 (n : Nat) (w0 W : World) (e : Ending) (w' : World) : Prop :=
  ∃ L : MLay, e = .returned (.pointer (some ⟨L.g, 0, none⟩)) ∧ Hid (BoxAt w' L (List.replicate n mail0)) ∧ Hid (∀ b, L.fp n b → W.heap.size ≤ b) ∧ Below w0.heap.size w0 w' ∧ Hid (Below W.heap.size W w')
theorem new_9 {n : Nat} (h0 : 1 ≤ n) (h1 : n ≤ 8) (w0 W : World) (hb : Below w0.heap.size w0 W) : Calls Try.prog 8 #[.int .i64 (n : Int)] W (New9 n w0 W) :=
  (new9_yes n W h0 h1).mono fun _ _ ⟨L, he, hr, hn, hb'⟩ => ⟨L, he, hr, by rw [List.length_replicate] at hn; exact hn, below_on hb hb', hb'⟩

#print axioms TwoB.stepA
end Go.Proofs.Ytfboikefjealfaa
