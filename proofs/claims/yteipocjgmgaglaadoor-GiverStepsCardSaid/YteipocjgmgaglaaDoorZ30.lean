/-
  Texts merged, with what one theorem needs of them.
  Conditions: those that each theorem states.
-/
import Derived.Test.YteipocjgmgaglaaDoorRows
import Derived.Test.YteipocjgmgaglaaDoorZ1
import Derived.Test.YteipocjgmgaglaaDoorZ2
import Derived.Test.YteipocjgmgaglaaDoorZ3
import Derived.Test.YteipocjgmgaglaaDoorZ4
import Derived.Test.YteipocjgmgaglaaDoorZ5
import Derived.Test.YteipocjgmgaglaaDoorZ6
import Derived.Test.YteipocjgmgaglaaDoorZ7
import Derived.Test.YteipocjgmgaglaaDoorZ8
import Derived.Test.YteipocjgmgaglaaDoorZ9
import Derived.Test.YteipocjgmgaglaaDoorZ10
import Derived.Test.YteipocjgmgaglaaDoorZ11
import Derived.Test.YteipocjgmgaglaaDoorZ12
import Derived.Test.YteipocjgmgaglaaDoorZ13
import Derived.Test.YteipocjgmgaglaaDoorZ14
import Derived.Test.YteipocjgmgaglaaDoorZ15
import Derived.Test.YteipocjgmgaglaaDoorZ16
import Derived.Test.YteipocjgmgaglaaDoorZ17
import Derived.Test.YteipocjgmgaglaaDoorZ18
import Derived.Test.YteipocjgmgaglaaDoorZ19
import Derived.Test.YteipocjgmgaglaaDoorZ20
import Derived.Test.YteipocjgmgaglaaDoorZ21
import Derived.Test.YteipocjgmgaglaaDoorZ22
import Derived.Test.YteipocjgmgaglaaDoorZ23
import Derived.Test.YteipocjgmgaglaaDoorZ24
import Derived.Test.YteipocjgmgaglaaDoorZ25
import Derived.Test.YteipocjgmgaglaaDoorZ26
import Derived.Test.YteipocjgmgaglaaDoorZ27
import Derived.Test.YteipocjgmgaglaaDoorZ28
import Derived.Test.YteipocjgmgaglaaDoorZ29
import Derived.Below
import Derived.BigQuiet
import Derived.Carry
import Derived.ChangeSame
import Derived.ChangeSlices
import Derived.Deep.AppendLies
import Derived.Deep.CutBlock
import Derived.Deep.DeepMust
import Derived.Deep.Draws
import Derived.Deep.Fields
import Derived.Deep.MidRow
import Derived.Deep.OwnRows
import Derived.Deep.QuietTactic
import Derived.Deep.RegionHeld3
import Derived.Deep.RegionLaw
import Derived.Deep.RegionWith
import Derived.Deep.Slices
import Derived.Defers
import Derived.Great.BuildSlice
import Derived.Handy
import Derived.IntWalk
import Derived.KernelRfl
import Derived.LaidLaws
import Derived.LaidMore
import Derived.Laws.BitsLemmas
import Derived.Laws.CopyOwn
import Derived.Laws.OwnMore
import Derived.Laws.Rows
import Derived.Lib.Hide
import Derived.Lib.SliceRun
import Derived.Lib.SmallJoins
import Derived.MakeChecks
import Derived.Maps.AppendAt
import Derived.OpenShut
import Derived.ProofKit
import Derived.Recover
import Derived.RegionTactic
import Derived.Scope
import Derived.WalkKit
import Derived.WalkMore
namespace Go.Proofs.YteipocjgmgaglaaDoor

section
open Go.ChangeShapes Go.WideShapes Go.ChangeAt Go.RowKit
theorem evs_below {w W : World} {v : Value} {l : List Ev16} (h : Evs w v l) (hb : Below w.heap.size w W) : Evs W v l := by
  obtain ⟨A, c, e, hx⟩ := h
  exact ⟨A, c, e, fun hp => by obtain ⟨g, o, h1, h2, h3⟩ := hx hp; exact ⟨g, o, h1, Nat.lt_of_lt_of_le h2 hb.size, fun k x hk => (h3 k x hk).below hb⟩⟩
set_option maxRecDepth 100000 in
set_option maxHeartbeats 2000000 in
theorem giverSteps_any (B R self peer own : Int) (v : Value) (l : List Ev16) (w : World) (hT : TabAt w) (hv : Evs w v l) (hm : l.length ≤ maxLen) :
    Calls Tryd.prog 3 #[baseV B R self peer own, v] w fun e w' => e = .returned (.bool true) ∧ Below w.heap.size w w' := by
  have BA := Lib.hid (below_al w (.cells #[.int .i64 B, .int .i64 R, .int .i64 self, .int .i64 peer, .int .i64 own] 25))
  have KF := Lib.hid (fun W (hb : Below w.heap.size w W) => few16_any B R self peer own v l W (evs_below hv hb) hm)
  have KA := Lib.hid (fun W (hb : Below w.heap.size w W) => alive16 W (hT.below hb))
  cases hfew : few16B B l with
  | false =>
    rw [hfew] at KF
    obtain ⟨A, n, c, rfl, -, -⟩ := hv.open_
    unfold baseV at *
    clear hv hT hm hfew
    go_enter Tryd.func3, Tryd.ntmps3
    go_wp2_with fail
    refine (KF.out _ BA.out).mono ?_
    rintro e w2 ⟨rfl, b2⟩
    have B2 := Lib.hid (below_on BA.out b2)
    clear b2
    go_wp2_with fail
    refine (KA.out _ B2.out).mono ?_
    rintro e w3 ⟨rfl, b3⟩
    have B3 := Lib.hid (below_on B2.out b3)
    clear b3
    go_wp2
    go_ret
    exact ⟨rfl, B3.out⟩
  | true =>
    by_cases hok : ok16 B R self peer own
    · obtain ⟨r, rfl⟩ := Int.eq_ofNat_of_zero_le (show 0 ≤ R by have := hok.1; unfold okRing at this; omega)
      exact steps16_loop B self peer own r v l w hok hT hv hm hfew
    · rw [hfew] at KF
      have KM := Lib.hid (fun W => made16_no hok W)
      have KI := Lib.hid (fun W => ris16_any B R self peer own W)
      have hokd : decide (ok16 B R self peer own) = false := decide_eq_false hok
      rw [hokd] at KI
      have RW : Hid (∀ W, Below (w.alloc (.cells #[.int .i64 B, .int .i64 R, .int .i64 self, .int .i64 peer, .int .i64 own] 25)).heap.size (w.alloc (.cells #[.int .i64 B, .int .i64 R, .int .i64 self, .int .i64 peer, .int .i64 own] 25)) W → Row W w.heap.size 25 [.int .i64 B, .int .i64 R, .int .i64 self, .int .i64 peer, .int .i64 own]) := Lib.hid (fun W hb => (Row.new w 25 #[.int .i64 B, .int .i64 R, .int .i64 self, .int .i64 peer, .int .i64 own]).below hb)
      obtain ⟨A, n, c, rfl, -, -⟩ := hv.open_
      unfold baseV at *
      clear hv hT hm hfew hok hokd
      go_enter Tryd.func3, Tryd.ntmps3
      go_wp2_with fail
      refine (KF.out _ BA.out).mono ?_
      rintro e w2 ⟨rfl, b2⟩
      have R2 := Lib.hid (RW.out _ b2)
      have p0 := R2.out.cell 0
      have p1 := R2.out.cell 1
      have p2 := R2.out.cell 2
      have p3 := R2.out.cell 3
      have p4 := R2.out.cell 4
      simp only [List.getElem?_cons_zero, List.getElem?_cons_succ] at p0 p1 p2 p3 p4
      have B2 := Lib.hid (below_on BA.out b2)
      clear b2 KF RW
      go_wp2_with fail
      refine (KM.out _).mono ?_
      rintro e w3 ⟨rfl, b3⟩
      have R3 := R2.out.below b3
      have q0 := R3.cell 0
      have q1 := R3.cell 1
      have q2 := R3.cell 2
      have q3 := R3.cell 3
      have q4 := R3.cell 4
      simp only [List.getElem?_cons_zero, List.getElem?_cons_succ] at q0 q1 q2 q3 q4
      have B3 := Lib.hid (below_on B2.out b3)
      clear b3 KM R3 p0 p1 p2 p3 p4
      go_wp2_with fail
      refine (KI.out _).mono ?_
      rintro e w' ⟨rfl, rfl⟩
      go_wp2_with fail
      refine (KA.out _ B3.out).mono ?_
      rintro e w4 ⟨rfl, b4⟩
      have B4 := Lib.hid (below_on B3.out b4)
      clear b4
      go_wp2
      go_ret
      exact ⟨rfl, B4.out⟩
section
variable {H : Type} {enc : TypeId × Value → H} {P : Program} {w : World} {base : Nat} {spare : Nat → Bool} {held : Bool}
/-- A struct of four fields, one behind the other. -/
theorem IntsOf.four {t : TypeId} {f0 f1 f2 f3 : Field} {n0 n1 n2 n3 : Nat} (ht : P.underlying t = some (.struct #[f0, f1, f2, f3])) (o0 : f0.offset = 0) (o1 : f1.offset = n0) (o2 : f2.offset = n0 + n1) (o3 : f3.offset = n0 + n1 + n2)
    (c0 : P.cellsOf f0.type = n0) (c1 : P.cellsOf f1.type = n1) (c2 : P.cellsOf f2.type = n2) (c3 : P.cellsOf f3.type = n3) (hC : P.cellsOf t = n0 + n1 + n2 + n3)
    (h0 : IntsOf enc P w base spare held f0.type n0) (h1 : IntsOf enc P w base spare held f1.type n1) (h2 : IntsOf enc P w base spare held f2.type n2) (h3 : IntsOf enc P w base spare held f3.type n3) : IntsOf enc P w base spare held t (n0 + n1 + n2 + n3) := by
  intro fuel cs x h
  obtain ⟨y0, y1, y2, y3, n, _, hl, e0, e1, e2, e3⟩ := Go.Joins.trod_struct4 ht h
  rw [o0, c0, List.drop_zero] at e0
  rw [o1, c1] at e1
  rw [o2, c2] at e2
  rw [o3, c3] at e3
  rw [hC] at hl
  obtain ⟨z0, hz0, l0, b0⟩ := h0 _ _ _ e0
  obtain ⟨z1, hz1, l1, b1⟩ := h1 _ _ _ e1
  obtain ⟨z2, hz2, l2, b2⟩ := h2 _ _ _ e2
  obtain ⟨z3, hz3, l3, b3⟩ := h3 _ _ _ e3
  rw [List.take_of_length_le (by simp; omega)] at hz3
  refine ⟨z0 ++ (z1 ++ (z2 ++ z3)), ?_, by simp only [List.length_append, l0, l1, l2, l3]; omega, fun z hz => ?_⟩
  · rw [ints_append, ints_append, ints_append, ← hz0, ← hz1, ← hz2, ← hz3, ← List.drop_drop (i := n2) (j := n0 + n1), List.take_append_drop, ← List.drop_drop (i := n1) (j := n0), List.take_append_drop, List.take_append_drop]
  · rcases List.mem_append.1 hz with hz | hz
    · exact b0 z hz
    · rcases List.mem_append.1 hz with hz | hz
      · exact b1 z hz
      · rcases List.mem_append.1 hz with hz | hz
        · exact b2 z hz
        · exact b3 z hz
theorem base16_ints : IntsOf enc Tryd.prog w base spare held 25 5 := by
  have h1 : IntsOf enc Tryd.prog w base spare held 23 2 := IntsOf.rec_ Tryd.underlying23 (by kernel_rfl) (by kernel_rfl) (by kernel_rfl)
  have i := IntsOf.int (enc := enc) (w := w) (base := base) (spare := spare) (held := held) Tryd.underlying3
  exact IntsOf.four (n0 := 2) (n1 := 1) (n2 := 1) (n3 := 1) Tryd.underlying25 rfl rfl rfl rfl (by kernel_rfl) (by kernel_rfl) (by kernel_rfl) (by kernel_rfl) (by kernel_rfl) h1 i i i
end
end

end Go.Proofs.YteipocjgmgaglaaDoor
