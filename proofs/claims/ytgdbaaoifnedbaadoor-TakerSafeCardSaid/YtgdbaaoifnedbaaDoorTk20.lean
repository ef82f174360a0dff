/-
  Layer 17 (taker): the law TakerSafe, for every argument; what a Base is.
  Conditions: those that each theorem states.
-/
import Derived.Test.YtgdbaaoifnedbaaDoorTk19
import Derived.Lib.SmallJoins
namespace Go.Proofs.YtgdbaaoifnedbaaDoor
open Go.ChangeShapes Go.WideShapes Go.ChangeAt Go.RowKit

set_option maxRecDepth 100000 in
set_option maxHeartbeats 1000000 in
theorem takerSafe_any (B R self peer own : Int) (v : Value) (l : List (List Int)) (w : World) (hT : TabAt w) (hv : Recs w 3 v l) :
    Calls Tryd.prog 5 #[baseV17 B R self peer own, v] w fun e w' => e = .returned (.bool true) ∧ Below w.heap.size w w' := by
  by_cases hok : ok17 B R self peer own
  · obtain ⟨r, rfl⟩ := Int.eq_ofNat_of_zero_le (show 0 ≤ R by have := hok.1; unfold okRing at this; omega)
    cases hfew : few17B B l.length with
    | true => exact safe17_loop B self peer own r v l w hok hT hv hfew
    | false =>
      have BA := Lib.hid (below_al w (.cells #[.int .i64 B, .int .i64 (r : Int), .int .i64 self, .int .i64 peer, .int .i64 own] 25))
      have KM := Lib.hid (fun W => made17_yes hok W)
      obtain ⟨A, c, rfl, -⟩ := id hv
      obtain ⟨n, hn⟩ : ∃ n, l.length = n := ⟨_, rfl⟩
      rw [hn] at hfew ⊢
      have KF := Lib.hid (fun W => few17_any B (r : Int) self peer own A n c W)
      rw [hfew] at KF
      have KA := Lib.hid (fun W (hb : Below w.heap.size w W) => alive17 W (hT.below hb))
      have RW : Hid (∀ W, Below (w.alloc (.cells #[.int .i64 B, .int .i64 (r : Int), .int .i64 self, .int .i64 peer, .int .i64 own] 25)).heap.size (w.alloc (.cells #[.int .i64 B, .int .i64 (r : Int), .int .i64 self, .int .i64 peer, .int .i64 own] 25)) W → Row W w.heap.size 25 [.int .i64 B, .int .i64 (r : Int), .int .i64 self, .int .i64 peer, .int .i64 own]) := Lib.hid (fun W hb => (Row.new w 25 #[.int .i64 B, .int .i64 (r : Int), .int .i64 self, .int .i64 peer, .int .i64 own]).below hb)
      unfold baseV17 at *
      clear hv hT hfew hok hn
      go_enter Tryd.func5, Tryd.ntmps5
      go_wp2_with fail
      refine (KM.out _).mono ?_
      rintro e w1 ⟨g, rfl, s1, b1⟩
      have R1 := RW.out _ b1
      have q0 := R1.cell 0
      have q1 := R1.cell 1
      have q2 := R1.cell 2
      have q3 := R1.cell 3
      have q4 := R1.cell 4
      simp only [List.getElem?_cons_zero, List.getElem?_cons_succ] at q0 q1 q2 q3 q4
      have B1 := Lib.hid (below_on BA.out b1)
      clear s1 b1 R1 KM
      unfold ptr
      go_wp2_with fail
      refine (KF.out _).mono ?_
      rintro e w2 ⟨rfl, b2⟩
      have B2 := Lib.hid (below_on B1.out b2)
      clear b2 q0 q1 q2 q3 q4
      go_wp2_with fail
      refine (KA.out _ B2.out).mono ?_
      rintro e w3 ⟨rfl, b3⟩
      have B3 := Lib.hid (below_on B2.out b3)
      clear b3
      go_wp2
      go_ret
      exact ⟨rfl, B3.out⟩
  · have BA := Lib.hid (below_al w (.cells #[.int .i64 B, .int .i64 R, .int .i64 self, .int .i64 peer, .int .i64 own] 25))
    have KM := Lib.hid (fun W => made17_no hok W)
    have KA := Lib.hid (fun W (hb : Below w.heap.size w W) => alive17 W (hT.below hb))
    obtain ⟨A, c, rfl, -⟩ := id hv
    unfold baseV17 at *
    clear hv hT hok
    go_enter Tryd.func5, Tryd.ntmps5
    go_wp2_with fail
    refine (KM.out _).mono ?_
    rintro e w1 ⟨rfl, b1⟩
    have B1 := Lib.hid (below_on BA.out b1)
    clear b1 KM
    go_wp2_with fail
    refine (KA.out _ B1.out).mono ?_
    rintro e w2 ⟨rfl, b2⟩
    have B2 := Lib.hid (below_on B1.out b2)
    clear b2
    go_wp2
    go_ret
    exact ⟨rfl, B2.out⟩

section
variable {H : Type} {enc : TypeId × Value → H} {P : Program} {w : World} {base : Nat} {spare : Nat → Bool} {held : Bool}

/-- A struct of four fields, one behind the other. -/
theorem IntsOf.four17 {t : TypeId} {f0 f1 f2 f3 : Field} {n0 n1 n2 n3 : Nat} (ht : P.underlying t = some (.struct #[f0, f1, f2, f3])) (o0 : f0.offset = 0) (o1 : f1.offset = n0) (o2 : f2.offset = n0 + n1) (o3 : f3.offset = n0 + n1 + n2)
    (c0 : P.cellsOf f0.type = n0) (c1 : P.cellsOf f1.type = n1) (c2 : P.cellsOf f2.type = n2) (c3 : P.cellsOf f3.type = n3) (hC : P.cellsOf t = n0 + n1 + n2 + n3)
    (h0 : IntsOf enc P w base spare held f0.type n0) (h1 : IntsOf enc P w base spare held f1.type n1) (h2 : IntsOf enc P w base spare held f2.type n2) (h3 : IntsOf enc P w base spare held f3.type n3) : IntsOf enc P w base spare held t (n0 + n1 + n2 + n3) := by
  intro fuel cs x h
  obtain ⟨y0, y1, y2, y3, n, _, hl, e0, e1, e2, e3⟩ := Go.Joins.trod_struct4 ht h
  rw [o0, c0, List.drop_zero] at e0
  rw [o1, c1] at e1
  rw [o2, c2] at e2
  rw [o3, c3] at e3
  rw [hC] at hl
  obtain ⟨z0, hz0, l0, b0⟩ := h0 _ _ _ e0
  obtain ⟨z1, hz1, l1, b1⟩ := h1 _ _ _ e1
  obtain ⟨z2, hz2, l2, b2⟩ := h2 _ _ _ e2
  obtain ⟨z3, hz3, l3, b3⟩ := h3 _ _ _ e3
  rw [List.take_of_length_le (by simp; omega)] at hz3
  refine ⟨z0 ++ (z1 ++ (z2 ++ z3)), ?_, by simp only [List.length_append, l0, l1, l2, l3]; omega, fun z hz => ?_⟩
  · rw [ints_append, ints_append, ints_append, ← hz0, ← hz1, ← hz2, ← hz3, ← List.drop_drop (i := n2) (j := n0 + n1), List.take_append_drop, ← List.drop_drop (i := n1) (j := n0), List.take_append_drop, List.take_append_drop]
  · rcases List.mem_append.1 hz with hz | hz
    · exact b0 z hz
    · rcases List.mem_append.1 hz with hz | hz
      · exact b1 z hz
      · rcases List.mem_append.1 hz with hz | hz
        · exact b2 z hz
        · exact b3 z hz

theorem base17_ints : IntsOf enc Tryd.prog w base spare held 25 5 := by
  have h1 : IntsOf enc Tryd.prog w base spare held 23 2 := IntsOf.rec_ Tryd.underlying23 (by kernel_rfl) (by kernel_rfl) (by kernel_rfl)
  have i := IntsOf.int (enc := enc) (w := w) (base := base) (spare := spare) (held := held) Tryd.underlying3
  exact IntsOf.four17 (n0 := 2) (n1 := 1) (n2 := 1) (n3 := 1) Tryd.underlying25 rfl rfl rfl rfl (by kernel_rfl) (by kernel_rfl) (by kernel_rfl) (by kernel_rfl) (by kernel_rfl) h1 i i i
end

#print axioms takerSafe_any
#print axioms base17_ints
end Go.Proofs.YtgdbaaoifnedbaaDoor
